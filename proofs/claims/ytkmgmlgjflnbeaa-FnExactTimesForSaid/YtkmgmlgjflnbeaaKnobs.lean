/- Codes behind knobs, as the model tells them. For at most 1048576 numbers. -/
import Derived.Test.YtkmgmlgjflnbeaaJoTurn
namespace Go.Proofs.Ytkmgmlgjflnbeaa
open Go.ChangeShapes Go.WideShapes Go.ChangeAt Go.RowKit Go.Joins

/-- Gears and a code. -/
def gcB (a b : Int) (ks : List (List Int)) (s : ByteArray) : Bool := gearsB a b ks && isCodeB a b s

theorem gcB_yes {a b : Int} {ks : List (List Int)} {s : ByteArray} (h : gcB a b ks s = true) : gearsB a b ks = true ∧ askB a b s = true := by
  unfold gcB at h
  rw [Bool.and_eq_true] at h
  refine ⟨h.1, ?_⟩
  unfold askB
  rw [(gearsB_yes h.1).1, h.2]
  rfl

theorem joCode_any (a b : Int) (s : ByteArray) (A : Option Addr) (n c : Nat) (ks : List (List Int)) (w : World) (hm : n + lensAt ks n ≤ 1048576) (hs : s.size ≤ maxLen) (hA : KnobsC w A n ks) :
    Calls Try.prog 25 #[.agg #[.int .i64 a, .int .i64 b, .slice A n c], .string s] w fun e w' => e = .returned (.bool (gcB a b ks s)) ∧ Below w.heap.size w w' := by
  have HS := Lib.hid hs
  have HA := Lib.hid (hA.knobs hm)
  have CU := Lib.hid (Cells.new (W := w) (cs := #[.int .i64 a, .int .i64 b, .slice A n c]) (t := 33) (g := w.heap.size) (n := 3) rfl rfl)
  have HB0 := Lib.hid (show Below w.heap.size w (w.alloc (.cells #[.int .i64 a, .int .i64 b, .slice A n c] 33)) from (Below.refl _ _).alloc (Nat.le_refl _) _)
  clear hA hs
  by_cases hg : gearsB a b ks = true
  · have HG := Lib.hid hg
    have HGD := Lib.hid (gearsB_yes hg).1
    clear hg
    go_enter Try.func25, Try.ntmps25
    go_wp2_with (first
      | (go_at_call 38; refine (joGood_any _ _ _ _ _ ks _ hm (HA.out.below HB0.out)).mono ?_; rw [HG.out]; rintro e w1 ⟨rfl, hb1⟩
         have D1 := Lib.hid (CU.out.call hb1)
         have B1 := Lib.hid (bel_call HB0.out hb1)
         have l0 : w1.cell? ⟨w.heap.size, 0, none⟩ = some (.int .i64 a) := D1.out.cell (show 0 < 3 by omega)
         have l1 : w1.cell? ⟨w.heap.size, 1, none⟩ = some (.int .i64 b) := D1.out.cell (show 1 < 3 by omega)
         have l2 : w1.cell? ⟨w.heap.size, 2, none⟩ = some (.slice A n c) := D1.out.cell (show 2 < 3 by omega))
      | (go_at_call 26; refine (whCode_any _ _ _ _ HS.out HGD.out).mono ?_; rintro e w2 ⟨rfl, hb2⟩))
    go_ret
    exact ⟨ret_bool (by unfold gcB; rw [HG.out]; rfl), bel_call B1.out hb2⟩
  · have HG := Lib.hid (Bool.eq_false_iff.2 hg)
    clear hg
    go_enter Try.func25, Try.ntmps25
    go_wp2_with (go_at_call 38; refine (joGood_any _ _ _ _ _ ks _ hm (HA.out.below HB0.out)).mono ?_; rw [HG.out]; rintro e w1 ⟨rfl, hb1⟩)
    go_ret
    exact ⟨ret_bool (by unfold gcB; rw [HG.out]; rfl), bel_call HB0.out hb1⟩

/-- Whether a knob can be turned so. -/
def tkB (a b : Int) (ks : List (List Int)) (s : ByteArray) (q m : Int) : Bool := gcB a b ks s && inB q 0 ((ks.length : Int) - 1) && inB m (-1000) 1000

def tkZ (a b : Int) (ks : List (List Int)) (s : ByteArray) (q m : Int) : ByteArray := if tkB a b ks s q m then turnK b m s (ks.getD q.toNat []) else ⟨#[]⟩

theorem tkZ_yes {a b : Int} {ks : List (List Int)} {s : ByteArray} {q m : Int} (h : tkB a b ks s q m = true) : tkZ a b ks s q m = turnK b m s (ks.getD q.toNat []) := by unfold tkZ; rw [h]; rfl

theorem tkZ_no {a b : Int} {ks : List (List Int)} {s : ByteArray} {q m : Int} (h : tkB a b ks s q m = false) : tkZ a b ks s q m = ⟨#[]⟩ := by unfold tkZ; rw [h]; rfl

end Go.Proofs.Ytkmgmlgjflnbeaa
