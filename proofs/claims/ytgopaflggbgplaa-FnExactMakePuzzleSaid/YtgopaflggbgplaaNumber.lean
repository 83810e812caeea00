/- The number of a code, as both programs reckon it. No conditions. -/
import Derived.Test.YtgopaflggbgplaaAsked
namespace Go.Proofs.Ytgopaflggbgplaa
open Go.ChangeShapes Go.WideShapes Go.ChangeAt Go.RowKit Go.Joins

/-- The number that the first digits tell. -/
def numAt (b : Int) (ds : List Int) : Nat → Int
  | 0 => 0
  | k + 1 => numAt b ds k * b + ds.getD k 0

theorem numAt_bd {b : Int} {ds : List Int} {n : Nat} (hb : 2 ≤ b) (h : ∀ j, j < n → 0 ≤ ds.getD j 0 ∧ ds.getD j 0 < b) (k : Nat) : k ≤ n → 0 ≤ numAt b ds k ∧ numAt b ds k + 1 ≤ pw b k := by
  induction k with
  | zero => intro _; rw [pw_zero]; exact ⟨Int.le_refl _, by simp [numAt]⟩
  | succ k ih =>
    intro hk
    obtain ⟨i1, i2⟩ := ih (by omega)
    obtain ⟨d1, d2⟩ := h k (by omega)
    rw [pw_succ, numAt]
    refine ⟨?_, ?_⟩
    · have := Int.mul_nonneg i1 (show 0 ≤ b by omega)
      omega
    · have := Int.mul_le_mul_of_nonneg_right i2 (show 0 ≤ b by omega)
      rw [Int.add_mul] at this
      omega

/-- What the walk asks of one step: nothing wraps. -/
theorem numAt_step {a b : Int} {s : ByteArray} (h : Asked a b s) {k : Nat} (hk : k < s.size) :
    0 ≤ numAt b (dg s) k ∧ numAt b (dg s) k ≤ 1000000 ∧ 0 ≤ numAt b (dg s) k * b ∧ numAt b (dg s) k * b ≤ 1000000 := by
  obtain ⟨i1, i2⟩ := numAt_bd h.b2 h.low k (by omega)
  obtain ⟨j1, j2⟩ := numAt_bd h.b2 h.low (k + 1) (by omega)
  have p1 := pw_bd6 h.b2 h.b10 (k := k) (by have := h.n6; omega)
  have p2 := pw_bd6 h.b2 h.b10 (k := k + 1) (by have := h.n6; omega)
  have d := h.low k hk
  have m := Int.mul_nonneg i1 (show 0 ≤ b by have := h.b2; omega)
  rw [numAt] at j1 j2
  omega

def numZ (a b : Int) (s : ByteArray) : Int := if askB a b s then numAt b (dg s) s.size else 0

theorem numZ_yes {a b : Int} {s : ByteArray} (h : askB a b s = true) : numZ a b s = numAt b (dg s) s.size := by unfold numZ; rw [h]; rfl

theorem numZ_no {a b : Int} {s : ByteArray} (h : askB a b s = false) : numZ a b s = 0 := by unfold numZ; rw [h]; rfl

theorem whNumber_any (a b : Int) (s : ByteArray) (w : World) (h : askB a b s = true) :
    Calls Try.prog 77 #[.agg #[.int .i64 a, .int .i64 b], .string s] w fun e w' => e = .returned (.int .i64 (numZ a b s)) ∧ Below w.heap.size w w' := by
  have HA := Lib.hid (asked h)
  have HH := Lib.hid h
  obtain ⟨n6, b2, b10⟩ : s.size ≤ 6 ∧ 2 ≤ b ∧ b ≤ 10 := ⟨HA.out.n6, HA.out.b2, HA.out.b10⟩
  clear h
  go_enter Try.func77, Try.ntmps77
  go_wp2_with (go_at_call 73; refine (whDigits_any _ _ HA.out.digits (by omega) HA.out.n1).mono ?_; rintro e w1 ⟨g, c, rfl, hgg, hC, hb⟩)
  have hB : Below w.heap.size w w1 := by (repeat (first | assumption | exact Below.refl _ _ | (refine Below.alloc ?_ (by first | omega | (simp; done) | (simp; omega)) _) | (refine Below.setCell ?_ (by first | omega | (simp; done) | (simp; omega)) _) | refine bel_drewN ?_ _ | refine bel_drew ?_ | (refine bel_call ?_ (by assumption))))
  have HC := Lib.hid hC
  have hc1 : w1.cell? ⟨w.heap.size, 1, none⟩ = some (.int .i64 b) := by rw [hb.cell (p := ⟨w.heap.size, 1, none⟩) (by simp)]; simp
  clear hC hb hgg
  go_loop [5, 11] (fun v i => ∃ k : Nat, k ≤ s.size ∧ i = .int .i64 k ∧ v = .int .i64 (numAt b (dg s) k)) (fun _ i => s.size - (intOf i).toNat)
  case atStart => exact ⟨0, by omega, rfl, rfl⟩
  case round =>
    obtain ⟨k, hk, rfl, rfl⟩ := hrel
    by_cases hlt : k < s.size
    · have hc : w1.cell? ⟨g, k, none⟩ = some (.int .i64 ((dg s).getD k 0)) := HC.out.cell hlt
      obtain ⟨s1, s2, s3, s4⟩ := numAt_step HA.out hlt
      obtain ⟨d1, d2⟩ := HA.out.low k hlt
      have HE : Hid (numAt b (dg s) (k + 1) = numAt b (dg s) k * b + (dg s).getD k 0) := Lib.hid rfl
      generalize (dg s).getD k 0 = d at hc d1 d2 HE
      generalize hm : numAt b (dg s) k = m at s1 s2 s3 s4 HE
      clear hm
      go_wp2
      go_round
      case rel => exact ⟨k + 1, by omega, by go_num, by rw [HE.out]⟩
      case measure => simp [intOf]; omega
    · go_wp2
      go_ret
      exact ⟨ret_int (by rw [numZ_yes HH.out, show k = s.size by omega]), hB⟩

theorem number_any (a b : Int) (s : ByteArray) (w : World) (hs : s.size ≤ maxLen) :
    Calls Try.prog 64 #[.agg #[.int .i64 a, .int .i64 b], .string s] w fun e w' => e = .returned (.tuple #[.int .i64 (numZ a b s), .bool (askB a b s)]) ∧ Below w.heap.size w w' := by
  by_cases hg : askB a b s = true
  · have HG := Lib.hid hg
    have HS := Lib.hid hs
    have HA := Lib.hid (asked hg)
    obtain ⟨n6, b2, b10⟩ : s.size ≤ 6 ∧ 2 ≤ b ∧ b ≤ 10 := ⟨HA.out.n6, HA.out.b2, HA.out.b10⟩
    clear hg hs
    go_enter Try.func64, Try.ntmps64
    go_wp2_with (first | (go_at_call 42; refine (hasCode_any _ _ _ _ HS.out).mono ?_; rw [ask_eq, HG.out]; rintro e w1 ⟨rfl, hb⟩; obtain ⟨hc, hf, hz⟩ := bcell hb; have hz0 : w.heap.size < w1.heap.size := by (try simp at hz); omega) | (go_at_call 60; refine (digitsOf_any _ _ HA.out.digits (by omega)).mono ?_; rintro e w2 ⟨g, c, rfl, hgg, hC, hb2⟩))
    have hB : Below w.heap.size w w2 := by (repeat (first | assumption | exact Below.refl _ _ | (refine Below.alloc ?_ (by first | omega | (simp; done) | (simp; omega)) _) | (refine Below.setCell ?_ (by first | omega | (simp; done) | (simp; omega)) _) | refine bel_drewN ?_ _ | refine bel_drew ?_ | (refine bel_call ?_ (by assumption))))
    have HC := Lib.hid hC
    have hc1 : w2.cell? ⟨w.heap.size, 1, none⟩ = some (.int .i64 b) := by rw [hb2.cell (p := ⟨w.heap.size, 1, none⟩) hz0, hc _ _ (by simp)]; simp
    clear hC hb hgg hc hf hz hz0 hb2
    go_loop [6, 16] (fun v i => ∃ k : Nat, k ≤ s.size ∧ i = .int .i64 k ∧ v = .int .i64 (numAt b (dg s) k)) (fun _ i => s.size - (intOf i).toNat)
    case atStart => exact ⟨0, by omega, rfl, rfl⟩
    case round =>
      obtain ⟨k, hk, rfl, rfl⟩ := hrel
      by_cases hlt : k < s.size
      · have hc : w2.cell? ⟨g, k, none⟩ = some (.int .i64 ((dg s).getD k 0)) := HC.out.cell hlt
        obtain ⟨s1, s2, s3, s4⟩ := numAt_step HA.out hlt
        obtain ⟨d1, d2⟩ := HA.out.low k hlt
        have HE : Hid (numAt b (dg s) (k + 1) = numAt b (dg s) k * b + (dg s).getD k 0) := Lib.hid rfl
        generalize (dg s).getD k 0 = d at hc d1 d2 HE
        generalize hm : numAt b (dg s) k = m at s1 s2 s3 s4 HE
        clear hm
        go_wp2
        go_round
        case rel => exact ⟨k + 1, by omega, by go_num, by rw [HE.out]⟩
        case measure => simp [intOf]; omega
      · go_wp2
        go_ret2
        exact ⟨by rw [HG.out, numZ_yes HG.out, show k = s.size by omega]; rfl, hB⟩
  · have HG := Lib.hid (Bool.eq_false_iff.2 hg)
    have HS := Lib.hid hs
    clear hg hs
    go_enter Try.func64, Try.ntmps64
    go_wp2_with (first | (go_at_call 42; refine (hasCode_any _ _ _ _ HS.out).mono ?_; rw [ask_eq, HG.out]; rintro e w1 ⟨rfl, hb⟩; obtain ⟨hc, hf, hz⟩ := bcell hb; have hz0 : w.heap.size < w1.heap.size := by (try simp at hz); omega))
    go_ret2
    refine ⟨by rw [HG.out, numZ_no HG.out]; rfl, ?_⟩
    (repeat (first | assumption | exact Below.refl _ _ | (refine Below.alloc ?_ (by first | omega | (simp; done) | (simp; omega)) _) | (refine Below.setCell ?_ (by first | omega | (simp; done) | (simp; omega)) _) | refine bel_drewN ?_ _ | refine bel_drew ?_ | (refine bel_call ?_ (by assumption))))

end Go.Proofs.Ytgopaflggbgplaa
