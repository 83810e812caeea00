/- The farthest codes, as both programs list them. No conditions. -/
import Derived.Test.YthnekpdakjcadabStrs
import Derived.Test.YthnekpdakjcadabFar
import Derived.Test.YthnekpdakjcadabAsked
import Derived.IntWalk
namespace Go.Proofs.Ythnekpdakjcadab
open Go.ChangeShapes Go.WideShapes Go.ChangeAt Go.RowKit Go.Joins

/-- The texts that go on by a digit farthest from d, for the digits below a number. -/
def farQ (b d : Int) (s : ByteArray) (out : List ByteArray) : Nat → List ByteArray
  | 0 => out
  | q + 1 => if farI b d q = b / 2 then farQ b d s out q ++ [s ++ strOfNums [48 + (q : Int)]] else farQ b d s out q
def farAll (b d : Int) (R : List ByteArray) : Nat → List ByteArray
  | 0 => []
  | i + 1 => farQ b d (R.getD i ByteArray.empty) (farAll b d R i) b.toNat
def farL (b : Int) (ds : List Int) : Nat → List ByteArray
  | 0 => [⟨#[]⟩]
  | k + 1 => farAll b (ds.getD k 0) (farL b ds k) (farL b ds k).length
theorem farQ_length (b d : Int) (s : ByteArray) (out : List ByteArray) (q : Nat) : (farQ b d s out q).length ≤ out.length + q := by
  induction q with
  | zero => exact Nat.le_refl _
  | succ q ih =>
    rw [farQ]
    split
    · rw [List.length_append, List.length_singleton]; omega
    · omega
theorem farAll_length (b d : Int) (R : List ByteArray) (i : Nat) : (farAll b d R i).length ≤ i * b.toNat := by
  induction i with
  | zero => simp [farAll]
  | succ i ih =>
    have := farQ_length b d (R.getD i ByteArray.empty) (farAll b d R i) b.toNat
    rw [farAll, Nat.succ_mul]
    omega
theorem farL_length {b : Int} (h10 : b ≤ 10) (ds : List Int) (k : Nat) : (farL b ds k).length ≤ 10 ^ k := by
  induction k with
  | zero => exact Nat.le_refl _
  | succ k ih =>
    have h := farAll_length b (ds.getD k 0) (farL b ds k) (farL b ds k).length
    have h2 : (farL b ds k).length * b.toNat ≤ 10 ^ k * 10 := Nat.mul_le_mul ih (by omega)
    rw [farL, Nat.pow_succ]
    omega
/-- No text of the list is longer. -/
def Sz (L : List ByteArray) (m : Nat) : Prop := ∀ s, s ∈ L → s.size ≤ m
theorem Sz.getD {L : List ByteArray} {m : Nat} (h : Sz L m) (j : Nat) : (L.getD j ByteArray.empty).size ≤ m := by
  by_cases hj : j < L.length
  · rw [List.getD, List.getElem?_eq_getElem hj]
    exact h _ (List.getElem_mem hj)
  · rw [List.getD, List.getElem?_eq_none (by omega)]
    exact Nat.zero_le _
theorem farQ_sz {b d : Int} {s : ByteArray} {out : List ByteArray} {m : Nat} (hs : s.size ≤ m) (ho : Sz out (m + 1)) (q : Nat) : Sz (farQ b d s out q) (m + 1) := by
  induction q with
  | zero => exact ho
  | succ q ih =>
    rw [farQ]
    split
    · intro t ht
      rcases List.mem_append.1 ht with h | h
      · exact ih t h
      · rw [List.mem_singleton] at h
        subst h
        rw [ByteArray.size_append, strOne_size]
        omega
    · exact ih
theorem farAll_sz {b d : Int} {R : List ByteArray} {m : Nat} (hR : Sz R m) (i : Nat) : Sz (farAll b d R i) (m + 1) := by
  induction i with
  | zero => intro s h; simp [farAll] at h
  | succ i ih => exact farQ_sz (hR.getD i) ih _
theorem farL_sz (b : Int) (ds : List Int) (k : Nat) : Sz (farL b ds k) k := by
  induction k with
  | zero => intro s h; rw [farL, List.mem_singleton] at h; subst h; exact Nat.zero_le _
  | succ k ih => exact farAll_sz ih _

theorem cell_one (w : World) (x : Int) {g : Nat} (hg : g = w.heap.size) : Cells (w.alloc (.cells #[.int .i64 x] 3)) g 1 (digF [x]) :=
  ⟨by subst hg; simp, fun j hj => by
    subst hg
    rw [World.cell?_alloc_new, World.frozen?_alloc_new]
    obtain rfl : j = 0 := by omega
    exact ⟨rfl, rfl⟩⟩
theorem codeOf_one (g c : Nat) (q : Int) (w : World) (hC : Cells w g 1 (digF [q])) (h0 : 0 ≤ q) (h9 : q ≤ 9) :
    Calls Try.prog 55 #[.slice (some ⟨g, 0, none⟩) 1 c] w fun e w' => e = .returned (.string (strOfNums [48 + q])) ∧ Below w.heap.size w w' :=
  codeOf_any g c [q] w hC (fun j hj => by
    obtain rfl : j = 0 := by simp at hj; omega
    exact ⟨h0, h9⟩) (by simp)

/-- A list of texts of the call's own has been handed back. -/
def StrsOut (w : World) (ts : List ByteArray) (e : Ending) (w' : World) : Prop :=
  ∃ A c, e = .returned (.slice A ts.length c) ∧ OwnS w' w.heap.size A ts.length ts ∧ Below w.heap.size w w'

set_option maxHeartbeats 1000000 in
theorem appendFarthest_any (a d : Int) (bn n c B : Nat) (A : Option Addr) (R : List ByteArray) (w : World) (hO : OwnS w B A n R) (hn : n ≤ 1000000) (hsz : Sz R 100) (b2 : 2 ≤ bn) (b10 : bn ≤ 10) (hd : 0 ≤ d ∧ d < (bn : Int)) :
    Calls Try.prog 43 #[.agg #[.int .i64 a, .int .i64 bn], .slice A n c, .int .i64 d] w (StrsOut w (farAll bn d R n)) := by
  have HO := Lib.hid hO
  have HSZ := Lib.hid hsz
  obtain ⟨i0, hi, hz0, hz1, hz2⟩ := info_parts info_string
  obtain ⟨e0, e9⟩ := hd
  clear hO hsz
  go_enter Try.func43, Try.ntmps43
  go_wp2_with fail
  obtain ⟨wo, ew⟩ : ∃ wo : World, wo = w.alloc (.cells #[.int .i64 a, .int .i64 bn] 27) := ⟨_, rfl⟩
  rw [← ew]
  have d0 : wo.cell? ⟨w.heap.size, 0, none⟩ = some (.int .i64 a) := by rw [ew]; simp
  have d1 : wo.cell? ⟨w.heap.size, 1, none⟩ = some (.int .i64 bn) := by rw [ew]; simp
  have dB : Below w.heap.size w wo := by rw [ew]; (repeat (first | assumption | exact Below.refl _ _ | (refine Below.alloc ?_ (by first | omega | (simp; done) | (simp; omega)) _) | (refine Below.setCell ?_ (by first | omega | (simp; done) | (simp; omega)) _) | refine bel_drewN ?_ _ | refine bel_drew ?_ | (refine bel_call ?_ (by assumption))))
  have dz : w.heap.size < wo.heap.size := by rw [ew]; simp
  have HB0 := Lib.hid dB
  have HO1 := Lib.hid (HO.out.keep dB)
  clear ew dB HO
  go_loopw [7, 13] (fun v i wr => ∃ k : Nat, k ≤ n ∧ i = .int .i64 k ∧ wr.ownsRow wo.heap.size 9 1 v (farAll bn d R k).length (sv (farAll bn d R k)) ∧ Below wo.heap.size wo wr) (fun _ i _ => n - (intOf i).toNat)
  case atStart => exact ⟨0, by omega, rfl, World.ownsRow_nil _ _ _ _, Below.refl _ _⟩
  case round =>
    obtain ⟨k, hk, rfl, hown, hB⟩ := hrel
    have HOW := Lib.hid hown
    clear hown
    by_cases hlt : k < n
    · obtain ⟨g, rfl, _, hC⟩ := HO1.out.lt hlt
      have l0 : wr.cell? ⟨w.heap.size, 0, none⟩ = some (.int .i64 a) := by rw [hB.cell (p := ⟨w.heap.size, 0, none⟩) dz]; exact d0
      have l1 : wr.cell? ⟨w.heap.size, 1, none⟩ = some (.int .i64 bn) := by rw [hB.cell (p := ⟨w.heap.size, 1, none⟩) dz]; exact d1
      have o1 := (hC.below hB hC.lt).cell hlt
      unfold strF at o1
      have hs := HSZ.out.getD k
      have HF1 : Hid (farAll bn d R (k + 1) = farQ bn d (R.getD k ByteArray.empty) (farAll bn d R k) bn) := Lib.hid (by rw [farAll, Int.toNat_natCast])
      have hFl := farAll_length bn d R k
      have hFb : k * (bn : Int).toNat ≤ 1000000 * 10 := Nat.mul_le_mul (by omega) (by rw [Int.toNat_natCast]; omega)
      generalize R.getD k ByteArray.empty = s at o1 hs HF1
      generalize farAll bn d R k = F at HOW HF1 hFl
      have hF : F.length ≤ 10000000 := Nat.le_trans hFl hFb
      clear hFl hFb hC
      go_wp2_with fail
      clear l0 l1 o1
      go_loopw [7, 19] (fun v j w2 => ∃ q : Nat, q ≤ bn ∧ j = .int .i64 q ∧ w2.ownsRow wo.heap.size 9 1 v (farQ bn d s F q).length (sv (farQ bn d s F q)) ∧ Below wo.heap.size wo w2) (fun _ j _ => bn - (intOf j).toNat)
      case atStart => exact ⟨0, by omega, rfl, HOW.out, hB⟩
      case round =>
        clear hB
        obtain ⟨q, hq, rfl, hown, hB⟩ := hrel
        have HOQ := Lib.hid hown
        clear hown
        have l0 : wr.cell? ⟨w.heap.size, 0, none⟩ = some (.int .i64 a) := by rw [hB.cell (p := ⟨w.heap.size, 0, none⟩) dz]; exact d0
        have l1 : wr.cell? ⟨w.heap.size, 1, none⟩ = some (.int .i64 bn) := by rw [hB.cell (p := ⟨w.heap.size, 1, none⟩) dz]; exact d1
        have z4 : w.heap.size < wr.heap.size := Nat.lt_of_lt_of_le dz hB.size
        by_cases hqb : q < bn
        · have hFl := farQ_length bn d s F q
          have HN : Hid (farQ bn d s F (q + 1) = if farI bn d q = (bn : Int) / 2 then farQ bn d s F q ++ [s ++ strOfNums [48 + (q : Int)]] else farQ bn d s F q) := Lib.hid rfl
          generalize farQ bn d s F q = G at HOQ HN hFl
          have hG : G.length ≤ 20000000 := by omega
          obtain ⟨f, hf⟩ : ∃ f, farI bn d q = f := ⟨_, rfl⟩
          have HF := Lib.hid hf
          rw [hf] at HN
          clear hf hFl
          have W1 := Lib.hid (IntWalk.i64_in ((bn : Int) / 2) ⟨by omega, by omega⟩)
          by_cases hfar : f = (bn : Int) / 2
          · have heq : (f == (bn : Int) / 2) = true := by simpa using hfar
            have hadd : ∀ W : World, (Op.stringOp .add s (strOfNums [48 + (q : Int)])).run Try.prog W = .ok (.string (s ++ strOfNums [48 + (q : Int)])) W := fun W => run_string_add_sum _ _ _ (by rw [strOne_size]; omega)
            have HG1 : Hid (farQ bn d s F (q + 1) = G ++ [s ++ strOfNums [48 + (q : Int)]]) := Lib.hid (by rw [HN.out, if_pos hfar])
            clear hfar
            go_wp2_with fail
            have hw1 := W1.out
            go_region_with (go_at_call 49; refine (digitDistance_any _ _ _ _ _ (by omega) (by omega) (by omega) (by omega)).mono ?_; rw [HF.out]; rintro e w3 ⟨rfl, hb3⟩; have p1 := (hb3.cell (p := ⟨w.heap.size, 1, none⟩) z4).trans l1)
            all_goals
              have HW := Lib.hid (below_undrew hb3)
              have HOW3 := Lib.hid (own_keeps HOQ.out HW.out)
              clear hb3 p1 hw1
              go_wp2_with (first
                | (go_at_call 55; refine (codeOf_one _ _ _ _ (cell_one _ _ (by simp)) (by omega) (by omega)).mono ?_; rintro e w5 ⟨rfl, hb5⟩; have HW5 := Lib.hid (show Below w3.heap.size w3 w5 from bel_call ((Below.refl _ _).alloc (Nat.le_refl _) _) hb5))
                | (at_builtin; refine wpList_append_own _ rfl _ _ 24 rfl wo.heap.size 9 i0 (.string ByteArray.empty) 1 16 Try.underlying24 hi hz0 hz1 hz2 rfl (by decide) _ _ _ rfl ((own_keeps HOW3.out HW5.out).alloc _) ⟨w5.heap.size, 0, none⟩ 1 1 [.string (s ++ strOfNums [48 + (q : Int)])] rfl rfl (news_of rfl) (by simp [Value.oneCell']) (by unfold maxLen; omega) (by omega) (by have h1 := hB.size; have h2 := HW.out.size; have h3 := HW5.out.size; simp; omega) ?_; intro v' w6 hown' hgrow _))
              have HB6 := Lib.hid (((bel_call (bel_call hB HW.out) HW5.out).alloc (by have h1 := hB.size; have h2 := HW.out.size; have h3 := HW5.out.size; omega) _).grown hgrow (by have h1 := hB.size; have h2 := HW.out.size; have h3 := HW5.out.size; simp; omega) (fun j hj => ((own_keeps HOW3.out HW5.out).lt j hj).1))
              have HO6 : Hid (w6.ownsRow wo.heap.size 9 1 v' (farQ bn d s F (q + 1)).length (sv (farQ bn d s F (q + 1)))) := Lib.hid (by rw [HG1.out, sv_snoc, List.length_append, List.length_singleton]; exact hown')
              clear hgrow hown' hb5
              go_wp2_with fail
              go_roundw
              case rel => exact ⟨q + 1, by omega, by go_num, HO6.out, HB6.out⟩
              case measure => simp [intOf]; omega
          · have heq : (f == (bn : Int) / 2) = false := by simpa using hfar
            have HG1 : Hid (farQ bn d s F (q + 1) = G) := Lib.hid (by rw [HN.out, if_neg hfar])
            go_wp2_with fail
            have hw1 := W1.out
            go_region_with (go_at_call 49; refine (digitDistance_any _ _ _ _ _ (by omega) (by omega) (by omega) (by omega)).mono ?_; rw [HF.out]; rintro e w3 ⟨rfl, hb3⟩; have p1 := (hb3.cell (p := ⟨w.heap.size, 1, none⟩) z4).trans l1)
            all_goals
              have HW := Lib.hid (below_undrew hb3)
              clear hb3 p1 hw1
              go_wp2_with fail
              go_roundw
              case rel => exact ⟨q + 1, by omega, by go_num, by rw [HG1.out]; exact own_keeps HOQ.out HW.out, bel_call hB HW.out⟩
              case measure => simp [intOf]; omega
        · obtain rfl : q = bn := by omega
          go_wp2_with fail
          go_roundw
          case rel => exact ⟨k + 1, by omega, by go_num, by rw [HF1.out]; exact HOQ.out, hB⟩
          case measure => simp [intOf]; omega
    · obtain rfl : k = n := by omega
      go_wp2_with fail
      go_ret
      obtain ⟨A', c', rfl, hO'⟩ := own_strs HOW.out (by have := farAll_length bn d R k; have h2 : k * (bn : Int).toNat ≤ 1000000 * 10 := Nat.mul_le_mul (by omega) (by rw [Int.toNat_natCast]; omega); omega)
      exact ⟨A', c', rfl, hO'.base (Nat.le_of_lt dz), bel_call HB0.out hB⟩

def ftL (a b : Int) (s : ByteArray) : List ByteArray := if askB a b s then farL b (dg s) s.size else []
def ftZ (a b : Int) (s : ByteArray) : Int := if askB a b s then a * (b / 2) else 0
theorem ft_yes {a b : Int} {s : ByteArray} (h : askB a b s = true) : ftL a b s = farL b (dg s) s.size ∧ ftZ a b s = a * (b / 2) := by unfold ftL ftZ; rw [h]; exact ⟨rfl, rfl⟩
theorem ft_no {a b : Int} {s : ByteArray} (h : askB a b s = false) : ftL a b s = [] ∧ ftZ a b s = 0 := by unfold ftL ftZ; rw [h]; exact ⟨rfl, rfl⟩
def FarOut (w : World) (a b : Int) (s : ByteArray) (e : Ending) (w' : World) : Prop :=
  ∃ A c, e = .returned (.tuple #[.slice A (ftL a b s).length c, .int .i64 (ftZ a b s), .bool (askB a b s)]) ∧ OwnS w' w.heap.size A (ftL a b s).length (ftL a b s) ∧ Below w.heap.size w w'
theorem far_none {w w' : World} {a b : Int} {s : ByteArray} (h : askB a b s = false) (hb : Below w.heap.size w w') : FarOut w a b s (.returned (.tuple #[.slice none 0 0, .int .i64 0, .bool false])) w' := by
  refine ⟨none, 0, by rw [(ft_no h).1, (ft_no h).2, h]; rfl, ?_, hb⟩
  rw [(ft_no h).1]
  exact ⟨rfl, by decide, .inl rfl⟩
theorem far_some {w w' : World} {a b : Int} {s : ByteArray} {A : Option Addr} {c n : Nat} {z : Int} (h : askB a b s = true) (hn : n = (farL b (dg s) s.size).length) (hz : z = a * (b / 2)) (ho : OwnS w' w.heap.size A n (farL b (dg s) s.size)) (hb : Below w.heap.size w w') :
    FarOut w a b s (.returned (.tuple #[.slice A n c, .int .i64 z, .bool true])) w' := by
  subst hn hz
  refine ⟨A, c, by rw [(ft_yes h).1, (ft_yes h).2, h], ?_, hb⟩
  rw [(ft_yes h).1]
  exact ho

set_option maxHeartbeats 1000000 in
theorem farthest_any (a b : Int) (s : ByteArray) (w : World) (hs : s.size ≤ maxLen) :
    Calls Try.prog 13 #[.agg #[.int .i64 a, .int .i64 b], .string s] w (FarOut w a b s) := by
  have HS := Lib.hid hs
  clear hs
  by_cases ha : askB a b s = true
  · have HY := Lib.hid ha
    have HA := Lib.hid (asked ha)
    obtain ⟨bn, hbn⟩ : ∃ bn : Nat, b = bn := ⟨b.toNat, by have := HA.out.b2; omega⟩
    subst hbn
    obtain ⟨n1, n6, b2, b10⟩ : 1 ≤ s.size ∧ s.size ≤ 6 ∧ 2 ≤ bn ∧ bn ≤ 10 := ⟨HA.out.n1, HA.out.n6, by have := HA.out.b2; omega, by have := HA.out.b10; omega⟩
    obtain ⟨a1, a6⟩ : 1 ≤ a ∧ a ≤ 6 := by have := HA.out.size; omega
    clear ha
    go_enter Try.func13, Try.ntmps13
    go_wp2_with (first | (go_at_call 41; refine (hasCode_any _ _ _ _ HS.out).mono ?_; rw [ask_eq, HY.out]; rintro e w1 ⟨rfl, hb⟩; obtain ⟨hc, hf, hz⟩ := bcell hb; have hz0 : w.heap.size < w1.heap.size := by (try simp at hz); omega) | (go_at_call 42; refine (digitsOf_any _ _ HA.out.digits (by omega)).mono ?_; rintro e w2 ⟨g, c, rfl, hg, hC, hb2⟩))
    have HO0 := Lib.hid ((ownS_one (W := w1) (B := w.heap.size) (s := ⟨#[]⟩) (t := 9) rfl (Nat.le_of_lt hz0)).keep hb2)
    have HC := Lib.hid hC
    have z1 : w.heap.size < w2.heap.size := by have := hb2.size; simp at this; omega
    have l0 : w2.cell? ⟨w.heap.size, 0, none⟩ = some (.int .i64 a) := by rw [hb2.cell (p := ⟨w.heap.size, 0, none⟩) (by simp; omega), World.cell?_alloc_lt _ _ _ hz0, hc _ _ (by simp)]; simp
    have l1 : w2.cell? ⟨w.heap.size, 1, none⟩ = some (.int .i64 bn) := by rw [hb2.cell (p := ⟨w.heap.size, 1, none⟩) (by simp; omega), World.cell?_alloc_lt _ _ _ hz0, hc _ _ (by simp)]; simp
    have hB : Below w.heap.size w w2 := by (repeat (first | assumption | exact Below.refl _ _ | (refine Below.alloc ?_ (by first | omega | (simp; done) | (simp; omega)) _) | (refine Below.setCell ?_ (by first | omega | (simp; done) | (simp; omega)) _) | refine bel_drewN ?_ _ | refine bel_drew ?_ | (refine bel_call ?_ (by assumption))))
    clear hc hf hz hb hC hg hb2
    go_loopw [7, 18] (fun v i wr => ∃ (k c : Nat) (A : Option Addr), k ≤ s.size ∧ i = .int .i64 k ∧ v = .slice A (farL bn (dg s) k).length c ∧ OwnS wr w.heap.size A (farL bn (dg s) k).length (farL bn (dg s) k) ∧ Cells wr g s.size (digF (dg s)) ∧ wr.cell? ⟨w.heap.size, 0, none⟩ = some (.int .i64 a) ∧ wr.cell? ⟨w.heap.size, 1, none⟩ = some (.int .i64 bn) ∧ w.heap.size < wr.heap.size ∧ Below w.heap.size w wr) (fun _ i _ => s.size - (intOf i).toNat)
    case atStart => exact ⟨0, 1, _, by omega, rfl, rfl, HO0.out, HC.out, l0, l1, z1, hB⟩
    case round =>
      clear l0 l1 z1 hB
      obtain ⟨k, c, A, hk, rfl, rfl, hO, hC, l0, l1, z1, hB⟩ := hrel
      have HO := Lib.hid hO
      have HC := Lib.hid hC
      clear hO hC
      by_cases hlt : k < s.size
      · have o1 := HC.out.cell hlt
        obtain ⟨e0, e9⟩ := HA.out.low k hlt
        have hlen : (farL bn (dg s) k).length ≤ 1000000 := Nat.le_trans (farL_length (by omega) _ _) (Nat.le_trans (Nat.pow_le_pow_right (by decide) (show k ≤ 6 by omega)) (by decide))
        have HSZ : Hid (Sz (farL bn (dg s) k) 100) := Lib.hid (fun t ht => Nat.le_trans (farL_sz _ _ _ t ht) (by omega))
        have HN : Hid (farL bn (dg s) (k + 1) = farAll bn ((dg s).getD k 0) (farL bn (dg s) k) (farL bn (dg s) k).length) := Lib.hid rfl
        unfold digF at o1
        generalize (dg s).getD k 0 = d at o1 e0 e9 HN
        generalize farL bn (dg s) k = L at HO hlen HSZ HN
        go_wp2_with (go_at_call 43; refine (appendFarthest_any _ _ _ _ _ _ _ _ _ HO.out hlen HSZ.out b2 b10 ⟨e0, e9⟩).mono ?_; rw [← HN.out]; rintro e w3 ⟨A', c', rfl, hO', hb3⟩)
        go_roundw
        case rel => exact ⟨k + 1, c', A', by omega, by go_num, rfl, hO'.base (Nat.le_of_lt z1), HC.out.call hb3, by rw [hb3.cell (p := ⟨w.heap.size, 0, none⟩) z1, l0], by rw [hb3.cell (p := ⟨w.heap.size, 1, none⟩) z1, l1], Nat.lt_of_lt_of_le z1 hb3.size, bel_call hB hb3⟩
        case measure => simp [intOf]; omega
      · obtain rfl : k = s.size := by omega
        have p0 := Int.mul_nonneg (show (0 : Int) ≤ a by omega) (show (0 : Int) ≤ (bn : Int) / 2 by omega)
        have p1 : a * ((bn : Int) / 2) ≤ 6 * 5 := Int.mul_le_mul a6 (by omega) (by omega) (by omega)
        go_wp2_with fail
        go_quiet (fail)
        go_wp2_with fail
        go_ret3
        exact far_some HY.out rfl rfl ⟨HO.out.1, HO.out.2.1, HO.out.2.2.imp id fun ⟨g, e, hg, hC⟩ => ⟨g, e, hg, hC.drewN _⟩⟩ (bel_drewN hB _)
  · have HY := Lib.hid (Bool.eq_false_iff.2 ha)
    clear ha
    go_enter Try.func13, Try.ntmps13
    go_wp2_with (go_at_call 41; refine (hasCode_any _ _ _ _ HS.out).mono ?_; rw [ask_eq, HY.out]; rintro e w1 ⟨rfl, hb⟩; obtain ⟨hc, hf, hz⟩ := bcell hb; have hz0 : w.heap.size < w1.heap.size := by (try simp at hz); omega)
    go_ret3
    refine far_none HY.out ?_
    (repeat (first | assumption | exact Below.refl _ _ | (refine Below.alloc ?_ (by first | omega | (simp; done) | (simp; omega)) _) | (refine Below.setCell ?_ (by first | omega | (simp; done) | (simp; omega)) _) | refine bel_drewN ?_ _ | refine bel_drew ?_ | (refine bel_call ?_ (by assumption))))

end Go.Proofs.Ythnekpdakjcadab
