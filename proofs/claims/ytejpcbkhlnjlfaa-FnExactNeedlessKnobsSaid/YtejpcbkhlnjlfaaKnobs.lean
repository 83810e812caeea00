/- Codes behind knobs, as the model tells them. For at most 1048576 numbers. -/
import Derived.Test.YtejpcbkhlnjlfaaJoTurn
namespace Go.Proofs.Ytejpcbkhlnjlfaa
open Go.ChangeShapes Go.WideShapes Go.ChangeAt Go.RowKit Go.Joins

/-- Gears and a code. -/
def gcB (a b : Int) (ks : List (List Int)) (s : ByteArray) : Bool := gearsB a b ks && isCodeB a b s

theorem gcB_yes {a b : Int} {ks : List (List Int)} {s : ByteArray} (h : gcB a b ks s = true) : gearsB a b ks = true ∧ askB a b s = true := by
  unfold gcB at h
  rw [Bool.and_eq_true] at h
  refine ⟨h.1, ?_⟩
  unfold askB
  rw [(gearsB_yes h.1).1, h.2]
  rfl

theorem joCode_any (a b : Int) (s : ByteArray) (A : Option Addr) (n c : Nat) (ks : List (List Int)) (w : World) (hm : n + lensAt ks n ≤ 1048576) (hs : s.size ≤ maxLen) (hA : KnobsC w A n ks) :
    Calls Try.prog 73 #[.agg #[.int .i64 a, .int .i64 b, .slice A n c], .string s] w fun e w' => e = .returned (.bool (gcB a b ks s)) ∧ Below w.heap.size w w' := by
  have HS := Lib.hid hs
  have HA := Lib.hid (hA.knobs hm)
  have CU := Lib.hid (Cells.new (W := w) (cs := #[.int .i64 a, .int .i64 b, .slice A n c]) (t := 31) (g := w.heap.size) (n := 3) rfl rfl)
  have HB0 := Lib.hid (show Below w.heap.size w (w.alloc (.cells #[.int .i64 a, .int .i64 b, .slice A n c] 31)) from (Below.refl _ _).alloc (Nat.le_refl _) _)
  clear hA hs
  by_cases hg : gearsB a b ks = true
  · have HG := Lib.hid hg
    have HGD := Lib.hid (gearsB_yes hg).1
    clear hg
    go_enter Try.func73, Try.ntmps73
    go_wp2_with (first
      | (go_at_call 62; refine (joGood_any _ _ _ _ _ ks _ hm (HA.out.below HB0.out)).mono ?_; rw [HG.out]; rintro e w1 ⟨rfl, hb1⟩
         have D1 := Lib.hid (CU.out.call hb1)
         have B1 := Lib.hid (bel_call HB0.out hb1)
         have l0 : w1.cell? ⟨w.heap.size, 0, none⟩ = some (.int .i64 a) := D1.out.cell (show 0 < 3 by omega)
         have l1 : w1.cell? ⟨w.heap.size, 1, none⟩ = some (.int .i64 b) := D1.out.cell (show 1 < 3 by omega)
         have l2 : w1.cell? ⟨w.heap.size, 2, none⟩ = some (.slice A n c) := D1.out.cell (show 2 < 3 by omega))
      | (go_at_call 98; refine (whCode_any _ _ _ _ HS.out HGD.out).mono ?_; rintro e w2 ⟨rfl, hb2⟩))
    go_ret
    exact ⟨ret_bool (by unfold gcB; rw [HG.out]; rfl), bel_call B1.out hb2⟩
  · have HG := Lib.hid (Bool.eq_false_iff.2 hg)
    clear hg
    go_enter Try.func73, Try.ntmps73
    go_wp2_with (go_at_call 62; refine (joGood_any _ _ _ _ _ ks _ hm (HA.out.below HB0.out)).mono ?_; rw [HG.out]; rintro e w1 ⟨rfl, hb1⟩)
    go_ret
    exact ⟨ret_bool (by unfold gcB; rw [HG.out]; rfl), bel_call HB0.out hb1⟩

/-- Whether a knob can be turned so. -/
def tkB (a b : Int) (ks : List (List Int)) (s : ByteArray) (q m : Int) : Bool := gcB a b ks s && inB q 0 ((ks.length : Int) - 1) && inB m (-1000) 1000

def tkZ (a b : Int) (ks : List (List Int)) (s : ByteArray) (q m : Int) : ByteArray := if tkB a b ks s q m then turnK b m s (ks.getD q.toNat []) else ⟨#[]⟩

theorem tkZ_yes {a b : Int} {ks : List (List Int)} {s : ByteArray} {q m : Int} (h : tkB a b ks s q m = true) : tkZ a b ks s q m = turnK b m s (ks.getD q.toNat []) := by unfold tkZ; rw [h]; rfl

theorem tkZ_no {a b : Int} {ks : List (List Int)} {s : ByteArray} {q m : Int} (h : tkB a b ks s q m = false) : tkZ a b ks s q m = ⟨#[]⟩ := by unfold tkZ; rw [h]; rfl

set_option maxHeartbeats 2000000 in
theorem specTurnKnob_any (a b : Int) (s : ByteArray) (q m : Int) (A : Option Addr) (n c : Nat) (ks : List (List Int)) (w : World) (hm : n + lensAt ks n ≤ 1048576) (hs : s.size ≤ maxLen) (hA : KnobsC w A n ks) :
    Calls Try.prog 28 #[.agg #[.int .i64 a, .int .i64 b, .slice A n c], .string s, .int .i64 q, .int .i64 m] w fun e w' => e = .returned (.tuple #[.string (tkZ a b ks s q m), .bool (tkB a b ks s q m)]) ∧ Below w.heap.size w w' := by
  have HS := Lib.hid hs
  have HA := Lib.hid hA
  have HN := Lib.hid hA.len
  have hn2 : n ≤ 1048576 := by omega
  have CU := Lib.hid (Cells.new (W := w) (cs := #[.int .i64 a, .int .i64 b, .slice A n c]) (t := 31) (g := w.heap.size) (n := 3) rfl rfl)
  have HB0 := Lib.hid (show Below w.heap.size w (w.alloc (.cells #[.int .i64 a, .int .i64 b, .slice A n c] 31)) from (Below.refl _ _).alloc (Nat.le_refl _) _)
  clear hA hs
  by_cases hg : gcB a b ks s = true
  · have HG := Lib.hid hg
    have HGY := Lib.hid (gearsB_yes (gcB_yes hg).1)
    have HAS := Lib.hid (gcB_yes hg).2
    clear hg
    obtain ⟨u, HU⟩ : ∃ u, Hid (inB q 0 ((n : Int) - 1) = u) := ⟨_, Lib.hid rfl⟩
    obtain ⟨v, HV⟩ : ∃ v, Hid (inB m (-1000) 1000 = v) := ⟨_, Lib.hid rfl⟩
    have HTB : Hid (tkB a b ks s q m = (u && v)) := Lib.hid (by unfold tkB; rw [HG.out, HN.out, HU.out, HV.out]; rfl)
    rcases u with _ | _
    · go_enter Try.func28, Try.ntmps28
      go_wp2_with (first
        | (go_at_call 73; refine (joCode_any _ _ _ _ _ _ ks _ hm HS.out (HA.out.below HB0.out)).mono ?_; rw [HG.out]; rintro e w1 ⟨rfl, hb1⟩
           have D1 := Lib.hid (CU.out.call hb1)
           have B1 := Lib.hid (bel_call HB0.out hb1)
           have l0 : w1.cell? ⟨w.heap.size, 0, none⟩ = some (.int .i64 a) := D1.out.cell (show 0 < 3 by omega)
           have l1 : w1.cell? ⟨w.heap.size, 1, none⟩ = some (.int .i64 b) := D1.out.cell (show 1 < 3 by omega)
           have l2 : w1.cell? ⟨w.heap.size, 2, none⟩ = some (.slice A n c) := D1.out.cell (show 2 < 3 by omega))
        | (go_at_call 74; refine (l1In_any _ _ _ _).mono ?_; rw [HU.out]; rintro e w2 ⟨rfl, rfl⟩))
      go_ret2
      exact ⟨by rw [tkZ_no HTB.out, HTB.out]; rfl, B1.out⟩
    · rcases v with _ | _
      · go_enter Try.func28, Try.ntmps28
        go_wp2_with (first
          | (go_at_call 73; refine (joCode_any _ _ _ _ _ _ ks _ hm HS.out (HA.out.below HB0.out)).mono ?_; rw [HG.out]; rintro e w1 ⟨rfl, hb1⟩
             have D1 := Lib.hid (CU.out.call hb1)
             have B1 := Lib.hid (bel_call HB0.out hb1)
             have l0 : w1.cell? ⟨w.heap.size, 0, none⟩ = some (.int .i64 a) := D1.out.cell (show 0 < 3 by omega)
             have l1 : w1.cell? ⟨w.heap.size, 1, none⟩ = some (.int .i64 b) := D1.out.cell (show 1 < 3 by omega)
             have l2 : w1.cell? ⟨w.heap.size, 2, none⟩ = some (.slice A n c) := D1.out.cell (show 2 < 3 by omega))
          | (go_at_call_of 74 q; refine (l1In_any q _ _ _).mono ?_; rw [HU.out]; rintro e w2 ⟨rfl, rfl⟩)
          | (go_at_call_of 74 m; refine (l1In_any m _ _ _).mono ?_; rw [HV.out]; rintro e w2 ⟨rfl, rfl⟩))
        go_ret2
        exact ⟨by rw [tkZ_no HTB.out, HTB.out]; rfl, B1.out⟩
      · have hq1 := HU.out
        unfold inB at hq1
        rw [decide_eq_true_eq] at hq1
        obtain ⟨qn, rfl⟩ : ∃ qn : Nat, q = qn := ⟨q.toNat, by omega⟩
        have hqn : qn < n := by omega
        have hm1 := HV.out
        unfold inB at hm1
        rw [decide_eq_true_eq] at hm1
        have HMB := Lib.hid hm1
        have HKN := Lib.hid (HGY.out.2.2.2.2 qn (by rw [HN.out]; exact hqn))
        clear hq1 hm1
        go_enter Try.func28, Try.ntmps28
        go_wp2_with (first
          | (go_at_call 73; refine (joCode_any _ _ _ _ _ _ ks _ hm HS.out (HA.out.below HB0.out)).mono ?_; rw [HG.out]; rintro e w1 ⟨rfl, hb1⟩
             have D1 := Lib.hid (CU.out.call hb1)
             have B1 := Lib.hid (bel_call HB0.out hb1)
             have l0 : w1.cell? ⟨w.heap.size, 0, none⟩ = some (.int .i64 a) := D1.out.cell (show 0 < 3 by omega)
             have l1 : w1.cell? ⟨w.heap.size, 1, none⟩ = some (.int .i64 b) := D1.out.cell (show 1 < 3 by omega)
             have l2 : w1.cell? ⟨w.heap.size, 2, none⟩ = some (.slice A n c) := D1.out.cell (show 2 < 3 by omega))
          | (go_at_call_of 74 qn; refine (l1In_any (qn : Int) _ _ _).mono ?_; rw [HU.out]; rintro e w2 ⟨rfl, rfl⟩)
          | (go_at_call_of 74 m; refine (l1In_any m _ _ _).mono ?_; rw [HV.out]; rintro e w2 ⟨rfl, rfl⟩)
          | (go_at_call 75; refine (joTurn_any _ _ _ _ _ _ _ _ ks _ hqn (HA.out.below B1.out) HAS.out HKN.out HMB.out).mono ?_; rintro e w3 ⟨rfl, hb3⟩))
        go_ret2
        exact ⟨by rw [tkZ_yes HTB.out, HTB.out, Int.toNat_natCast]; rfl, bel_call B1.out hb3⟩
  · have HG := Lib.hid (Bool.eq_false_iff.2 hg)
    have HTB : Hid (tkB a b ks s q m = false) := Lib.hid (by unfold tkB; rw [HG.out]; rfl)
    clear hg
    go_enter Try.func28, Try.ntmps28
    go_wp2_with (go_at_call 73; refine (joCode_any _ _ _ _ _ _ ks _ hm HS.out (HA.out.below HB0.out)).mono ?_; rw [HG.out]; rintro e w1 ⟨rfl, hb1⟩)
    go_ret2
    exact ⟨by rw [tkZ_no HTB.out, HTB.out]; rfl, bel_call HB0.out hb1⟩

end Go.Proofs.Ytejpcbkhlnjlfaa
