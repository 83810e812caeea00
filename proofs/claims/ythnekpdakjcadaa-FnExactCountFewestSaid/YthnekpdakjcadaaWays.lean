/- How many first lists of turns there are, as the program counts them: wheel by wheel, given up beyond the limit. No conditions. -/
import Derived.Test.YthnekpdakjcadaaFewest
namespace Go.Proofs.Ythnekpdakjcadaa
open Go.ChangeShapes Go.WideShapes Go.ChangeAt Go.RowKit Go.Joins

/-- The turns of one wheel put among those before. -/
def innAt (p : Int × Int) : Nat → Option (Int × Int)
  | 0 => some p
  | k + 1 => (innAt p k).bind fun q => if 1000000000000000 < q.1 * (q.2 + 1) / ((k : Int) + 1) then none else some (q.1 * (q.2 + 1) / ((k : Int) + 1), q.2 + 1)
/-- Two ways around where both are as long. -/
def dbl (b d v : Int) : Int := if 2 * d = b then v * 2 else v
def outAt (b : Int) (ds : List Int) : Nat → Option (Int × Int)
  | 0 => some (1, 0)
  | k + 1 => (outAt b ds k).bind fun p => innAt (dbl b (ds.getD k 0) p.1, p.2) (ds.getD k 0).toNat

theorem innAt_some {p : Int × Int} (h1 : 0 ≤ p.1) (h2 : 0 ≤ p.2) (k : Nat) : ∀ q, innAt p k = some q → 0 ≤ q.1 ∧ q.2 = p.2 + k ∧ (q.1 ≤ 1000000000000000 ∨ k = 0 ∧ q = p) := by
  induction k with
  | zero => intro q hq; simp [innAt] at hq; subst hq; exact ⟨h1, by simp, .inr ⟨rfl, rfl⟩⟩
  | succ k ih =>
    intro q hq
    rw [innAt, Option.bind_eq_some_iff] at hq
    obtain ⟨r, hr, hq⟩ := hq
    obtain ⟨i1, i2, _⟩ := ih r hr
    split at hq
    · cases hq
    · obtain rfl := Option.some.inj hq
      refine ⟨Int.ediv_nonneg (Int.mul_nonneg i1 (by omega)) (by omega), by simp only [i2]; omega, .inl (by omega)⟩
theorem innAt_none {p : Int × Int} {k : Nat} (h : innAt p k = none) (m : Nat) (hm : k ≤ m) : innAt p m = none := by
  induction m with
  | zero => obtain rfl : k = 0 := by omega
            exact h
  | succ m ih =>
    by_cases e : k = m + 1
    · subst e; exact h
    · rw [innAt, ih (by omega)]; rfl
theorem outAt_none {b : Int} {ds : List Int} {k : Nat} (h : outAt b ds k = none) (m : Nat) (hm : k ≤ m) : outAt b ds m = none := by
  induction m with
  | zero => obtain rfl : k = 0 := by omega
            exact h
  | succ m ih =>
    by_cases e : k = m + 1
    · subst e; exact h
    · rw [outAt, ih (by omega)]; rfl
theorem outAt_some {b : Int} {ds : List Int} {n : Nat} (hb : 2 ≤ b) (hd : ∀ j, j < n → 0 ≤ ds.getD j 0 ∧ ds.getD j 0 ≤ 10) (k : Nat) : k ≤ n → ∀ q, outAt b ds k = some q → 0 ≤ q.1 ∧ q.1 ≤ 1000000000000000 ∧ 0 ≤ q.2 ∧ q.2 ≤ 10 * k := by
  induction k with
  | zero => intro _ q hq; simp [outAt] at hq; subst hq; simp
  | succ k ih =>
    intro hk q hq
    rw [outAt, Option.bind_eq_some_iff] at hq
    obtain ⟨r, hr, hq⟩ := hq
    obtain ⟨i1, i2, i3, i4⟩ := ih (by omega) r hr
    have hdb : 0 ≤ dbl b (ds.getD k 0) r.1 := by unfold dbl; split <;> omega
    obtain ⟨j1, j2, j3⟩ := innAt_some (p := (dbl b (ds.getD k 0) r.1, r.2)) hdb i3 _ q hq
    have d := hd k (by omega)
    simp only at j2
    refine ⟨j1, ?_, by omega, by omega⟩
    rcases j3 with j3 | ⟨h0, rfl⟩
    · exact j3
    · have : ds.getD k 0 = 0 := by omega
      simp only [dbl, this]
      rw [if_neg (by omega)]
      exact i2

def cfO (a b : Int) (s t : ByteArray) : Option (Int × Int) := if twoB a b s t then outAt b (distL b s t) s.size else none
def cfB (a b : Int) (s t : ByteArray) : Bool := (cfO a b s t).isSome
def cfZ (a b : Int) (s t : ByteArray) : Int := ((cfO a b s t).map (·.1)).getD 0
theorem cf_no {a b : Int} {s t : ByteArray} (h : twoB a b s t = false) : cfB a b s t = false ∧ cfZ a b s t = 0 := by unfold cfB cfZ cfO; rw [h]; exact ⟨rfl, rfl⟩
theorem cf_none {a b : Int} {s t : ByteArray} (h : twoB a b s t = true) (ho : outAt b (distL b s t) s.size = none) : cfB a b s t = false ∧ cfZ a b s t = 0 := by
  unfold cfB cfZ cfO; rw [h, if_pos rfl, ho]; exact ⟨rfl, rfl⟩
theorem cf_some {a b : Int} {s t : ByteArray} (h : twoB a b s t = true) {q : Int × Int} (ho : outAt b (distL b s t) s.size = some q) : cfB a b s t = true ∧ cfZ a b s t = q.1 := by
  unfold cfB cfZ cfO; rw [h, if_pos rfl, ho]; exact ⟨rfl, rfl⟩

/-- What the walk asks of one step of the inner loop: nothing wraps. -/
theorem inn_step {v t : Int} (h1 : 0 ≤ v) (h2 : v ≤ 2000000000000000) (h3 : 0 ≤ t) (h4 : t ≤ 70) : 0 ≤ v * (t + 1) ∧ v * (t + 1) ≤ 200000000000000000 := by
  refine ⟨Int.mul_nonneg h1 (by omega), ?_⟩
  have := Int.mul_le_mul h2 (show t + 1 ≤ 71 by omega) (by omega) (by omega)
  omega

set_option maxHeartbeats 1000000 in
theorem countFewest_any (a b : Int) (s t : ByteArray) (w : World) (hs : s.size ≤ maxLen) (ht : t.size ≤ maxLen) :
    Calls Try.prog 41 #[.agg #[.int .i64 a, .int .i64 b], .string s, .string t] w fun e w' => e = .returned (.tuple #[.int .i64 (cfZ a b s t), .bool (cfB a b s t)]) ∧ Below w.heap.size w w' := by
  have HS := Lib.hid hs
  have HT := Lib.hid ht
  clear hs ht
  by_cases h1 : askB a b s = true
  · have H1 := Lib.hid h1
    by_cases h2 : askB a b t = true
    · have H2 := Lib.hid h2
      have HG : Hid (twoB a b s t = true) := Lib.hid (by unfold twoB; rw [h1, h2]; rfl)
      have HA := Lib.hid (asked h1)
      have HT' := Lib.hid (asked h2)
      obtain ⟨n6, b2, b10⟩ : s.size ≤ 6 ∧ 2 ≤ b ∧ b ≤ 10 := ⟨HA.out.n6, HA.out.b2, HA.out.b10⟩
      clear h1 h2
      go_enter Try.func41, Try.ntmps41
      go_wp2_with (first | (go_at_call_of 51 s; refine (hasCode_any _ _ _ _ HS.out).mono ?_; rw [ask_eq, H1.out]; rintro e w1 ⟨rfl, hb⟩; obtain ⟨hc, hf, hz⟩ := bcell hb; have l1' : w1.cell? ⟨w.heap.size, 1, none⟩ = some (.int .i64 b) := (by rw [hc _ _ (by simp)]; simp); have hz0 : w.heap.size < w1.heap.size := by (try simp at hz); omega) | (go_at_call_of 51 t; refine (hasCode_any _ _ _ _ HT.out).mono ?_; rw [ask_eq, H2.out]; rintro e w1 ⟨rfl, hb⟩; obtain ⟨hc, hf, hz⟩ := bcell hb; have hz0 : w.heap.size < w1.heap.size := by (try simp at hz); omega) | (go_at_call 66; refine (pairDist_any _ _ _ _ _ H1.out H2.out).mono ?_; rintro e w2 ⟨g, c, rfl, hgg, hC, hb2⟩))
      have hB : Below w.heap.size w w2 := by (repeat (first | assumption | exact Below.refl _ _ | (refine Below.alloc ?_ (by first | omega | (simp; done) | (simp; omega)) _) | (refine Below.setCell ?_ (by first | omega | (simp; done) | (simp; omega)) _) | refine bel_drewN ?_ _ | refine bel_drew ?_ | (refine bel_call ?_ (by assumption))))
      have HC := Lib.hid hC
      have l1 : w2.cell? ⟨w.heap.size, 1, none⟩ = some (.int .i64 b) := by rw [hb2.cell (p := ⟨w.heap.size, 1, none⟩) hz0]; rw [hc _ _ (by omega), l1']
      clear hC hb2 hgg hc hf hz hz0 hb
      go_loop [8, 9, 28] (fun v u i => ∃ (k : Nat) (q : Int × Int), k ≤ s.size ∧ i = .int .i64 k ∧ outAt b (distL b s t) k = some q ∧ v = .int .i64 q.1 ∧ u = .int .i64 q.2) (fun _ _ i => s.size - (intOf i).toNat)
      case atStart => exact ⟨0, (1, 0), by omega, rfl, rfl, rfl, rfl⟩
      case round =>
        obtain ⟨k, ⟨v, u0⟩, hk, rfl, hq, rfl, rfl⟩ := hrel
        have HQ := Lib.hid hq
        obtain ⟨v1, v2, u1, u2⟩ := outAt_some b2 (distL_bd HA.out HT'.out) k hk _ hq
        simp only at v1 v2 u1 u2
        clear hq
        by_cases hlt : k < s.size
        · have o1 : w2.cell? ⟨g, k, none⟩ = some (.int .i64 ((distL b s t).getD k 0)) := HC.out.cell hlt
          obtain ⟨d1, d2⟩ := distL_bd HA.out HT'.out k hlt
          have HO : Hid (outAt b (distL b s t) (k + 1) = innAt (dbl b ((distL b s t).getD k 0) v, u0) ((distL b s t).getD k 0).toNat) := Lib.hid (by rw [outAt, HQ.out]; rfl)
          generalize (distL b s t).getD k 0 = d at o1 d1 d2 HO
          obtain ⟨e, rfl⟩ : ∃ e : Nat, d = e := ⟨d.toNat, by omega⟩
          obtain ⟨y, HY⟩ : ∃ y, Hid (y = dbl b e v) := ⟨_, Lib.hid rfl⟩
          have hy : 0 ≤ y ∧ y ≤ 2000000000000000 := by rw [HY.out]; unfold dbl; split <;> omega
          obtain ⟨y1, y2⟩ := hy
          rw [← HY.out, Int.toNat_natCast] at HO
          have hyy : (2 * (e : Int) == b) = true ∧ y = v * 2 ∨ (2 * (e : Int) == b) = false ∧ y = v := by
            rw [HY.out]; unfold dbl
            by_cases h : 2 * (e : Int) = b
            · exact .inl ⟨by simp [h], by rw [if_pos h]⟩
            · exact .inr ⟨by simp [h], by rw [if_neg h]⟩
          clear HY
          rcases hyy with ⟨hyy, hv⟩ | ⟨hyy, rfl⟩
          all_goals
            go_wp2_with fail
            try rw [← hv]
            try clear hv
            clear hyy
            go_loop [8, 9, 12] (fun v u k => ∃ (j : Nat) (q : Int × Int), j ≤ e ∧ k = .int .i64 ((j : Int) + 1) ∧ innAt (y, u0) j = some q ∧ v = .int .i64 q.1 ∧ u = .int .i64 q.2) (fun _ _ k => e + 1 - (intOf k).toNat)
            case atStart => exact ⟨0, (y, u0), by omega, rfl, rfl, rfl, rfl⟩
            case round =>
              obtain ⟨j, ⟨v', u'⟩, hj, rfl, hi, rfl, rfl⟩ := hrel
              obtain ⟨i1, i2, i3⟩ := innAt_some (p := (y, u0)) y1 u1 j _ hi
              simp only at i1 i2
              have i4 : v' ≤ 2000000000000000 := by
                rcases i3 with i3 | ⟨_, i3⟩
                · simp only at i3; omega
                · injection i3 with i3 _; omega
              have HI := Lib.hid hi
              have i5 : 0 ≤ u' := by omega
              have i6 : u' ≤ 70 := by omega
              clear hi i3 i2
              obtain ⟨m1, m2⟩ := inn_step i1 i4 i5 i6
              have HX : Hid (innAt (y, u0) (j + 1) = if 1000000000000000 < v' * (u' + 1) / ((j : Int) + 1) then none else some (v' * (u' + 1) / ((j : Int) + 1), u' + 1)) := Lib.hid (by rw [innAt, HI.out]; rfl)
              by_cases hje : j < e
              · by_cases hx : 1000000000000000 < v' * (u' + 1) / ((j : Int) + 1)
                · have HN : Hid (outAt b (distL b s t) s.size = none) := Lib.hid (outAt_none (k := k + 1) (by rw [HO.out]; exact innAt_none (k := j + 1) (by rw [HX.out, if_pos hx]) _ hje) _ hlt)
                  go_wp2_with fail
                  go_ret2
                  exact ⟨by rw [(cf_none HG.out HN.out).1, (cf_none HG.out HN.out).2]; rfl, hB⟩
                · have HN := Lib.hid hx
                  go_wp2_with fail
                  go_round
                  case rel => exact ⟨j + 1, (v' * (u' + 1) / ((j : Int) + 1), u' + 1), by omega, congrArg (Value.int .i64) (by omega), by rw [HX.out, if_neg HN.out], rfl, rfl⟩
                  case measure => simp [intOf]; omega
              · go_wp2_with fail
                go_round
                case rel => exact ⟨k + 1, (v', u'), by omega, by go_num, by rw [HO.out, show e = j by omega]; exact HI.out, rfl, rfl⟩
                case measure => simp [intOf]; omega
        · go_wp2_with fail
          go_ret2
          have e0 : k = s.size := by omega
          have HQ' := HQ.out
          rw [e0] at HQ'
          exact ⟨by rw [(cf_some HG.out HQ').1, (cf_some HG.out HQ').2]; rfl, hB⟩
    · have H2 := Lib.hid (Bool.eq_false_iff.2 h2)
      have HG : Hid (twoB a b s t = false) := Lib.hid (by unfold twoB; rw [h1, H2.out]; rfl)
      clear h1 h2
      go_enter Try.func41, Try.ntmps41
      go_wp2_with (first | (go_at_call_of 51 s; refine (hasCode_any _ _ _ _ HS.out).mono ?_; rw [ask_eq, H1.out]; rintro e w1 ⟨rfl, hb⟩; obtain ⟨hc, hf, hz⟩ := bcell hb; have hz0 : w.heap.size < w1.heap.size := by (try simp at hz); omega) | (go_at_call_of 51 t; refine (hasCode_any _ _ _ _ HT.out).mono ?_; rw [ask_eq, H2.out]; rintro e w1 ⟨rfl, hb⟩; obtain ⟨hc, hf, hz⟩ := bcell hb; have hz0 : w.heap.size < w1.heap.size := by (try simp at hz); omega))
      go_ret2
      refine ⟨by rw [(cf_no HG.out).1, (cf_no HG.out).2]; rfl, ?_⟩
      (repeat (first | assumption | exact Below.refl _ _ | (refine Below.alloc ?_ (by first | omega | (simp; done) | (simp; omega)) _) | (refine Below.setCell ?_ (by first | omega | (simp; done) | (simp; omega)) _) | refine bel_drewN ?_ _ | refine bel_drew ?_ | (refine bel_call ?_ (by assumption))))
  · have H1 := Lib.hid (Bool.eq_false_iff.2 h1)
    have HG : Hid (twoB a b s t = false) := Lib.hid (by unfold twoB; rw [H1.out]; rfl)
    clear h1
    go_enter Try.func41, Try.ntmps41
    go_wp2_with (go_at_call_of 51 s; refine (hasCode_any _ _ _ _ HS.out).mono ?_; rw [ask_eq, H1.out]; rintro e w1 ⟨rfl, hb⟩; obtain ⟨hc, hf, hz⟩ := bcell hb; have hz0 : w.heap.size < w1.heap.size := by (try simp at hz); omega)
    go_ret2
    refine ⟨by rw [(cf_no HG.out).1, (cf_no HG.out).2]; rfl, ?_⟩
    (repeat (first | assumption | exact Below.refl _ _ | (refine Below.alloc ?_ (by first | omega | (simp; done) | (simp; omega)) _) | (refine Below.setCell ?_ (by first | omega | (simp; done) | (simp; omega)) _) | refine bel_drewN ?_ _ | refine bel_drew ?_ | (refine bel_call ?_ (by assumption))))

theorem dbl_big {b v u : Int} {e : Nat} (hb : 2 ≤ b) (h0 : 0 ≤ v) (hm : 1000000000000000 < dbl b e v) (hv : v ≤ 1000000000000000) (hu : 0 ≤ u) : innAt (dbl b e v, u) e = none := by
  unfold dbl at hm ⊢
  split at hm
  · rename_i h2
    rw [if_pos h2]
    refine innAt_none (k := 1) ?_ _ (by omega)
    show (some (v * 2, u)).bind _ = none
    simp only [Option.bind_some]
    rw [if_pos]
    have h1 := Int.mul_le_mul_of_nonneg_left (show (1 : Int) ≤ u + 1 by omega) (show 0 ≤ v * 2 by omega)
    simp
    omega
  · omega

/-- The model's two ways of a wheel and the program's distance. -/
theorem far_dbl {b x y v : Int} (h2 : 2 ≤ b) :
    ((subI b y x == subI b x y) = true ∧ 0 < subI b y x ∧ dbl b (farI b x y) v = v * 2) ∨ ((subI b y x == subI b x y) = true ∧ ¬ 0 < subI b y x ∧ dbl b (farI b x y) v = v) ∨ ((subI b y x == subI b x y) = false ∧ dbl b (farI b x y) v = v) := by
  have h := far_back b x y
  have b1 := subI_bd h2 y x
  have b2 := subI_bd h2 x y
  have hs : subI b y x = 0 ∧ subI b x y = 0 ∨ 0 < subI b y x ∧ subI b y x + subI b x y = b := by
    by_cases h0 : subI b y x = 0
    · rw [h0, Int.sub_zero, Int.emod_self] at h
      exact .inl ⟨h0, h.symm⟩
    · rw [Int.emod_eq_of_lt (by omega) (by omega)] at h
      exact .inr ⟨by omega, by omega⟩
  unfold dbl farI lstI
  by_cases he : subI b y x = subI b x y
  · rcases hs with ⟨h0, h1⟩ | ⟨h0, h1⟩
    · refine .inr (.inl ⟨by simp [he], by omega, ?_⟩)
      rw [if_neg (by rw [h0, h1]; simp; omega)]
    · refine .inl ⟨by simp [he], h0, ?_⟩
      rw [if_pos (by rw [if_neg (by omega)]; omega)]
  · refine .inr (.inr ⟨by simp [he], ?_⟩)
    rw [if_neg (by split <;> omega)]

end Go.Proofs.Ythnekpdakjcadaa
