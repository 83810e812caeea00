/- The first desk, as both programs make it; a desk of the law's own, marked and held. No conditions beyond those of each lemma. -/
import Derived.Test.YthfhbkfifdgokaaKa
import Derived.Test.YthfhbkfifdgokaaMs
namespace Go.Proofs.Ythfhbkfifdgokaa
open Go.ChangeShapes Go.WideShapes Go.ChangeAt Go.RowKit Go.Joins

/-- The dead codes of the first desk. -/
def fdL : List ByteArray := [⟨#[48, 49]⟩, ⟨#[49, 48]⟩]

theorem fd_cells {w : World} {g : Nat} {t : TypeId} (hg : g = w.heap.size) : Cells (w.alloc (.cells #[.string ⟨#[48, 49]⟩, .string ⟨#[49, 48]⟩] t)) g 2 (strF fdL) :=
  (Cells.new (n := 2) hg rfl).congr (fun j hj => by
    have : j = 0 ∨ j = 1 := by omega
    rcases this with rfl | rfl <;> rfl)

theorem fd_own {w : World} {g : Nat} (h : Cells w g 2 (strF fdL)) : OwnS w 0 (some ⟨g, 0, none⟩) 2 fdL := ⟨rfl, by omega, .inr ⟨g, rfl, Nat.zero_le _, h⟩⟩

/-- A desk handed back: its list lies in a block of the call's own. -/
def DeskOut (w : World) (e : Ending) (w' : World) : Prop :=
  ∃ g, e = .returned (.agg #[.int .i64 2, .int .i64 5, .string ⟨#[48, 48]⟩, .slice (some ⟨g, 0, none⟩) 2 2]) ∧ w.heap.size ≤ g ∧ Cells w' g 2 (strF fdL) ∧ Below w.heap.size w w'

set_option maxHeartbeats 4000000 in
theorem specFirstDesk_any (w : World) : Calls Try.prog 5 #[] w (DeskOut w) := by
  have HR := Lib.hid ((Cells.new (W := w) (cs := #[.int .i64 0, .int .i64 0, .string ⟨#[]⟩, .slice none 0 0]) (t := 26) (g := w.heap.size) (n := 4) rfl rfl).alloc (.cells #[.string ⟨#[48, 49]⟩, .string ⟨#[49, 48]⟩] 9))
  have HC := Lib.hid (fd_cells (w := w.alloc (.cells #[.int .i64 0, .int .i64 0, .string ⟨#[]⟩, .slice none 0 0] 26)) (g := w.heap.size + 1) (t := 9) (by simp))
  have HB := Lib.hid (show Below w.heap.size w ((w.alloc (.cells #[.int .i64 0, .int .i64 0, .string ⟨#[]⟩, .slice none 0 0] 26)).alloc (.cells #[.string ⟨#[48, 49]⟩, .string ⟨#[49, 48]⟩] 9)) from by (repeat (first | assumption | exact Below.refl _ _ | (refine Below.alloc ?_ (by first | omega | (simp; done) | (simp; omega)) _) | (refine Below.setCell ?_ (by first | omega | (simp; done) | (simp; omega)) _) | refine bel_drewN ?_ _ | refine bel_drew ?_ | (refine bel_call ?_ (by assumption)))))
  go_enter Try.func5, Try.ntmps5
  go_wp2_with fail
  refine bodyPost_ret (v := .agg #[.int .i64 2, .int .i64 5, .string ⟨#[48, 48]⟩, .slice (some ⟨w.heap.size + 1, 0, none⟩) 2 2]) (by simp [results, Try.results5, go_sem]) rfl ?_
  refine ⟨_, rfl, by omega, fd_cells (by simp), ?_⟩
  (repeat (first | assumption | exact Below.refl _ _ | (refine Below.alloc ?_ (by first | omega | (simp; done) | (simp; omega)) _) | (refine Below.setCell ?_ (by first | omega | (simp; done) | (simp; omega)) _) | refine bel_drewN ?_ _ | refine bel_drew ?_ | (refine bel_call ?_ (by assumption))))

set_option maxHeartbeats 4000000 in
theorem firstDesk_any (w : World) : Calls Try.prog 6 #[] w (DeskOut w) := by
  have HR := Lib.hid ((Cells.new (W := w) (cs := #[.int .i64 0, .int .i64 0, .string ⟨#[]⟩, .slice none 0 0]) (t := 26) (g := w.heap.size) (n := 4) rfl rfl).alloc (.cells #[.string ⟨#[48, 49]⟩, .string ⟨#[49, 48]⟩] 9))
  have HC := Lib.hid (fd_cells (w := w.alloc (.cells #[.int .i64 0, .int .i64 0, .string ⟨#[]⟩, .slice none 0 0] 26)) (g := w.heap.size + 1) (t := 9) (by simp))
  have HB := Lib.hid (show Below w.heap.size w ((w.alloc (.cells #[.int .i64 0, .int .i64 0, .string ⟨#[]⟩, .slice none 0 0] 26)).alloc (.cells #[.string ⟨#[48, 49]⟩, .string ⟨#[49, 48]⟩] 9)) from by (repeat (first | assumption | exact Below.refl _ _ | (refine Below.alloc ?_ (by first | omega | (simp; done) | (simp; omega)) _) | (refine Below.setCell ?_ (by first | omega | (simp; done) | (simp; omega)) _) | refine bel_drewN ?_ _ | refine bel_drew ?_ | (refine bel_call ?_ (by assumption)))))
  go_enter Try.func6, Try.ntmps6
  go_wp2_with fail
  refine bodyPost_ret (v := .agg #[.int .i64 2, .int .i64 5, .string ⟨#[48, 48]⟩, .slice (some ⟨w.heap.size + 1, 0, none⟩) 2 2]) (by simp [results, Try.results6, go_sem]) rfl ?_
  refine ⟨_, rfl, by omega, fd_cells (by simp), ?_⟩
  (repeat (first | assumption | exact Below.refl _ _ | (refine Below.alloc ?_ (by first | omega | (simp; done) | (simp; omega)) _) | (refine Below.setCell ?_ (by first | omega | (simp; done) | (simp; omega)) _) | refine bel_drewN ?_ _ | refine bel_drew ?_ | (refine bel_call ?_ (by assumption))))

theorem markDesk_any (a b : Int) (s : ByteArray) (g n c : Nat) (f : Nat → Value) (w : World) (hn : n ≤ 100000000) (hC : Cells w g n f) (hstr : ∀ j, j < n → ∃ s, f j = .string s) :
    Calls Try.prog 8 #[.agg #[.int .i64 a, .int .i64 b, .string s, .slice (some ⟨g, 0, none⟩) n c], .int .i64 1] w fun e w' => e = .returned (.int .i64 (1 + (n : Int))) ∧ Cells w' g n smarkF ∧ w.heap.size ≤ w'.heap.size ∧ (∀ B, B ≤ g → Below B w w') ∧ ∀ g' m f', g' ≠ g → Cells w g' m f' → Cells w' g' m f' := by
  have HB := Lib.hid ((Below.refl w.heap.size w).alloc (Nat.le_refl _) (.cells #[.int .i64 a, .int .i64 b, .string s, .slice (some ⟨g, 0, none⟩) n c] 26))
  have HC := Lib.hid (hC.call HB.out)
  have HL := Lib.hid hC.lt
  have HS := Lib.hid hstr
  clear hC hstr
  go_enter Try.func8, Try.ntmps8
  go_wp2_with fail
  refine (markX_any _ _ _ _ _ hn HC.out HS.out).mono ?_
  rintro e w1 ⟨rfl, hC1, hz, hB, hK⟩
  go_wp2_with fail
  go_ret
  have hz' := HB.out.size
  exact ⟨rfl, hC1, by omega, fun B h => (HB.out.mono (by have := HL.out; omega)).trans (hB B h), fun g' m f' hg' hC' => hK g' m f' hg' (hC'.call HB.out)⟩

theorem heldDesk_any (a b : Int) (s : ByteArray) (g n c : Nat) (w : World) (hn : n ≤ 100000000) (hC : Cells w g n smarkF) :
    Calls Try.prog 9 #[.agg #[.int .i64 a, .int .i64 b, .string s, .slice (some ⟨g, 0, none⟩) n c], .int .i64 1] w fun e w' => e = .returned (.int .i64 (1 + (n : Int))) ∧ Below w.heap.size w w' := by
  have HB := Lib.hid ((Below.refl w.heap.size w).alloc (Nat.le_refl _) (.cells #[.int .i64 a, .int .i64 b, .string s, .slice (some ⟨g, 0, none⟩) n c] 26))
  have HC := Lib.hid (hC.call HB.out)
  clear hC
  have hz : ¬ 1 + (n : Int) < 0 := by omega
  go_enter Try.func9, Try.ntmps9
  go_wp2_with fail
  refine (heldStringS_any _ _ _ _ hn HC.out).mono ?_
  rintro e w1 ⟨rfl, hb1⟩
  go_wp2_with fail
  go_ret
  exact ⟨rfl, bel_call HB.out hb1⟩

end Go.Proofs.Ythfhbkfifdgokaa
