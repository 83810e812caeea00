/- The law on ZeroCode: for every lock both programs answer alike. No conditions. -/
import Derived.Test.YtjghodfdejdjoaaText
namespace Go.Proofs.Ytjghodfdejdjoaa
open Go.ChangeShapes Go.WideShapes Go.ChangeAt Go.RowKit Go.Joins

theorem whText_n {n : Nat} (g c : Nat) (ds : List Int) (hn : ds.length = n) (w : World) (hr : Cells w g n (digF ds)) (hd : Digits ds) (hl : n ≤ 1000) :
    Calls Try.prog 40 #[.slice (some ⟨g, 0, none⟩) n c] w fun e w' => e = .returned (.string (textOf ds)) ∧ Below w.heap.size w w' := by
  subst hn; exact whText_any g c ds w hr hd hl

theorem codeOf_n {n : Nat} (g c : Nat) (ds : List Int) (hn : ds.length = n) (w : World) (hr : Cells w g n (digF ds)) (hd : Digits ds) (hl : n ≤ 1000) :
    Calls Try.prog 42 #[.slice (some ⟨g, 0, none⟩) n c] w fun e w' => e = .returned (.string (textOf ds)) ∧ Below w.heap.size w w' := by
  subst hn; exact codeOf_any g c ds w hr hd hl

theorem make_ints (n : Nat) (hn : n ≤ 1000) (W : World) : (Instr.makeSlice 59 (.int .i64 (n : Int)) (.int .i64 (n : Int))).run Try.prog W = .ok (.slice (some ⟨W.heap.size, 0, none⟩) n n) (W.alloc (.cells (madeCells #[.int .i64 0] n) 3)) :=
  run_make_row' 59 3 (.int .i64 0) 8 Try.underlying59 (by kernel_rfl) rfl .i64 .i64 n (by omega) (by omega) W

def zerosT (a b : Int) : ByteArray := if goodB a b then textOf (List.replicate a.toNat 0) else ⟨#[]⟩

theorem zerosT_yes {n : Nat} {b : Int} (h : goodB n b = true) : zerosT n b = textOf (List.replicate n 0) := by unfold zerosT; rw [h]; rfl

theorem zerosT_no {a b : Int} (h : goodB a b = false) : zerosT a b = ⟨#[]⟩ := by unfold zerosT; rw [h]; rfl

theorem digits_zeros (n : Nat) : Digits (List.replicate n 0) := fun j hj => by
  have : (List.replicate n (0 : Int)).getD j 0 = 0 := by
    rw [List.getD, List.getElem?_replicate]
    split <;> rfl
  omega

theorem zeros_cells (n : Nat) (w : World) : Cells (w.alloc (.cells (madeCells #[.int .i64 0] n) 3)) w.heap.size n (digF (List.replicate n 0)) :=
  (Cells.made _ _ _ _).congr fun j hj => by
    unfold digF
    rw [List.getD, List.getElem?_replicate, if_pos hj]
    rfl

theorem zero_any (a b : Int) (w : World) :
    Calls Try.prog 30 #[.agg #[.int .i64 a, .int .i64 b]] w fun e w' => e = .returned (.tuple #[.string (zerosT a b), .bool (goodB a b)]) ∧ Below w.heap.size w w' := by
  by_cases hg : goodB a b = true
  · have HG := Lib.hid hg
    have hg' := good_yes hg
    obtain ⟨n, rfl⟩ : ∃ n : Nat, a = n := ⟨a.toNat, by omega⟩
    clear hg
    obtain ⟨h1, h2, h3, h4⟩ := hg'
    have hmk := make_ints n (by omega)
    go_enter Try.func30, Try.ntmps30
    go_wp2_with (first | (go_at_call 41; refine (isLock_any _ _ _).mono ?_; rw [HG.out]; rintro e w1 ⟨rfl, hb⟩; obtain ⟨hc, hf, hz⟩ := bcell hb; have hz0 : w.heap.size < w1.heap.size := by (try simp at hz); omega) | (go_at_call 42; refine (codeOf_n _ _ (List.replicate n 0) (by simp) _ (zeros_cells _ _) (digits_zeros _) (by omega)).mono ?_; rintro e w2 ⟨rfl, hb2⟩))
    go_ret2
    refine ⟨by rw [HG.out, zerosT_yes HG.out]; rfl, ?_⟩
    (repeat (first | assumption | exact Below.refl _ _ | (refine Below.alloc ?_ (by first | omega | (simp; done) | (simp; omega)) _) | (refine Below.setCell ?_ (by first | omega | (simp; done) | (simp; omega)) _) | refine bel_drewN ?_ _ | refine bel_drew ?_ | (refine bel_call ?_ (by assumption))))
  · have HG := Lib.hid (Bool.eq_false_iff.2 hg)
    clear hg
    go_enter Try.func30, Try.ntmps30
    go_wp2_with (first | (go_at_call 41; refine (isLock_any _ _ _).mono ?_; rw [HG.out]; rintro e w1 ⟨rfl, hb⟩; obtain ⟨hc, hf, hz⟩ := bcell hb; have hz0 : w.heap.size < w1.heap.size := by (try simp at hz); omega))
    go_ret2
    refine ⟨by rw [HG.out, zerosT_no HG.out]; rfl, ?_⟩
    (repeat (first | assumption | exact Below.refl _ _ | (refine Below.alloc ?_ (by first | omega | (simp; done) | (simp; omega)) _) | (refine Below.setCell ?_ (by first | omega | (simp; done) | (simp; omega)) _) | refine bel_drewN ?_ _ | refine bel_drew ?_ | (refine bel_call ?_ (by assumption))))

end Go.Proofs.Ytjghodfdejdjoaa
