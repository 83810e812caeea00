/- Lists of lists of numbers in the call's own memory: copied by the law, compared. For at most 1048576 numbers. -/
import Derived.Test.YtgdjbclkdnmebaaDoorGears
namespace Go.Proofs.YtgdjbclkdnmebaaDoor
open Go.ChangeShapes Go.WideShapes Go.ChangeAt Go.RowKit Go.Joins

/-- The first lists of a list of lists, each in a block of its own, in rising blocks. -/
structure GridT (w : World) (g n : Nat) (ks : List (List Int)) (G : Nat → Nat) : Prop where
  top : Cells w g n (fun k => .slice (some ⟨G k, 0, none⟩) (ks.getD k []).length (ks.getD k []).length)
  row : ∀ k, k < n → g < G k ∧ Cells w (G k) (ks.getD k []).length (digF (ks.getD k []))
  up : ∀ i k, i < k → k < n → G i < G k

theorem GridT.below {w w' : World} {B g n : Nat} {ks : List (List Int)} {G : Nat → Nat} (h : GridT w g n ks G) (hb : Below B w w') (hg : w.heap.size ≤ B) : GridT w' g n ks G :=
  ⟨h.top.below hb (Nat.lt_of_lt_of_le h.top.lt hg), fun k hk => ⟨(h.row k hk).1, (h.row k hk).2.below hb (Nat.lt_of_lt_of_le (h.row k hk).2.lt hg)⟩, h.up⟩

theorem GridT.call {w w' : World} {g n : Nat} {ks : List (List Int)} {G : Nat → Nat} (h : GridT w g n ks G) (hb : Below w.heap.size w w') : GridT w' g n ks G := h.below hb (Nat.le_refl _)

set_option maxHeartbeats 1000000 in
theorem toIntSS_any (A : Option Addr) (n c : Nat) (ks : List (List Int)) (w : World) (hn : n + lensAt ks n ≤ 1048576) (hA : KnobsA w A n ks) :
    Calls Tryd.prog 28 #[.slice A n c] w fun e w' => e = .returned (.slice (some ⟨w.heap.size, 0, none⟩) n n) ∧ (∃ G, GridT w' w.heap.size n ks G) ∧ Below w.heap.size w w' := by
  have hmk := make_listsN n (by omega)
  have HM := Lib.hid (Cells.made w (.slice none 0 0) n 58)
  have HA := Lib.hid hA
  have hN : n ≤ 1048576 := by omega
  have HLN := Lib.hid (show ∀ k, k < n → (ks.getD k []).length ≤ 1048576 from fun k hk => by have := lensAt_one (ks := ks) hk; omega)
  clear hA hn
  go_enter Tryd.func28, Tryd.ntmps28
  go_wp2_with fail
  clear hmk
  go_loopw [4] (fun i wr => ∃ (k : Nat) (G : Nat → Nat), k ≤ n ∧ i = .int .i64 k ∧ Cells wr w.heap.size n (fun j => if j < k then .slice (some ⟨G j, 0, none⟩) (ks.getD j []).length (ks.getD j []).length else .slice none 0 0) ∧ (∀ j, j < k → w.heap.size < G j ∧ Cells wr (G j) (ks.getD j []).length (digF (ks.getD j []))) ∧ (∀ i j, i < j → j < k → G i < G j) ∧ Below w.heap.size w wr) (fun i _ => n - (intOf i).toNat)
  case atStart => exact ⟨0, fun _ => 0, by omega, rfl, HM.out.congr (fun j _ => by simp), fun j hj => by omega, fun i j _ hj => by omega, by (repeat (first | assumption | exact Below.refl _ _ | (refine Below.alloc ?_ (by first | omega | (simp; done) | (simp; omega)) _) | (refine Below.setCell ?_ (by first | omega | (simp; done) | (simp; omega)) _) | refine bel_drewN ?_ _ | refine bel_drew ?_ | (refine bel_call ?_ (by assumption))))⟩
  case round =>
    obtain ⟨k, G, hk, rfl, hT, hR, hU, hB⟩ := hrel
    have HT := Lib.hid hT
    have HR := Lib.hid hR
    have HU := Lib.hid hU
    clear hT hR hU
    by_cases hlt : k < n
    · obtain ⟨b, off, rfl, hb, hc⟩ := HA.out.at_.resolve_left (by omega)
      obtain ⟨Ak, ck, o1', _, hI⟩ := hc k hlt
      have o1 : wr.cell? ⟨b, off + k, none⟩ = some (.slice Ak (ks.getD k []).length ck) := by rw [hB.cell (p := ⟨b, off + k, none⟩) hb]; exact o1'
      have HI := Lib.hid (hI.below hB)
      have hl := HLN.out k hlt
      obtain ⟨xs, hxs⟩ : ∃ xs, ks.getD k [] = xs := ⟨_, rfl⟩
      have HXS := Lib.hid hxs
      rw [hxs] at o1 HI hl
      obtain ⟨m, hm⟩ : ∃ m, xs.length = m := ⟨_, rfl⟩
      have HML := Lib.hid hm
      rw [hm] at o1 HI hl
      clear hc o1' hI hxs hm
      go_wp2_with (go_at_call 61; refine (toIntS_any _ _ _ xs _ hl HI.out).mono ?_; rintro e w2 ⟨rfl, hC2, hb2⟩; have HT2 := Lib.hid (HT.out.call hb2); have p1 := HT2.out.cell hlt; have p2 := HT2.out.frozen hlt)
      have hzz : w.heap.size < wr.heap.size := HT.out.lt
      have HC2 := Lib.hid hC2
      have HW : Hid (Cells (w2.setCell ⟨w.heap.size, k, none⟩ (.slice (some ⟨wr.heap.size, 0, none⟩) m m)) w.heap.size n (fun j => if j < k + 1 then .slice (some ⟨(if j = k then wr.heap.size else G j), 0, none⟩) (ks.getD j []).length (ks.getD j []).length else .slice none 0 0)) := Lib.hid ((HT2.out.set_ hlt _).congr (fun j hj => by
        by_cases e : j = k
        · subst e; rw [if_pos rfl, if_pos (by omega), if_pos rfl, HXS.out, HML.out]
        · rw [if_neg e]
          by_cases e2 : j < k
          · rw [if_pos e2, if_pos (by omega), if_neg e]
          · rw [if_neg e2, if_neg (by omega)]))
      have HRW : Hid (∀ j, j < k + 1 → w.heap.size < (if j = k then wr.heap.size else G j) ∧ Cells (w2.setCell ⟨w.heap.size, k, none⟩ (.slice (some ⟨wr.heap.size, 0, none⟩) m m)) (if j = k then wr.heap.size else G j) (ks.getD j []).length (digF (ks.getD j []))) := Lib.hid (fun j hj => by
        by_cases e : j = k
        · subst e
          rw [if_pos rfl, HXS.out, HML.out]
          exact ⟨hzz, HC2.out.far (by show w.heap.size ≠ wr.heap.size; omega) _⟩
        · rw [if_neg e]
          obtain ⟨h1, h2⟩ := HR.out j (by omega)
          exact ⟨h1, (h2.call hb2).far (by show w.heap.size ≠ G j; omega) _⟩)
      have HUW : Hid (∀ i j, i < j → j < k + 1 → (if i = k then wr.heap.size else G i) < (if j = k then wr.heap.size else G j)) := Lib.hid (fun i j hij hj => by
        by_cases e : j = k
        · subst e
          rw [if_pos rfl, if_neg (by omega)]
          exact (HR.out i (by omega)).2.lt
        · rw [if_neg e, if_neg (by omega)]
          exact HU.out i j hij (by omega))
      have HB2 := Lib.hid (bel_call hB hb2)
      clear hC2 hb2 p1 p2
      go_wp2_with fail
      go_roundw
      case rel => exact ⟨k + 1, fun j => if j = k then wr.heap.size else G j, by omega, by go_num, HW.out, HRW.out, HUW.out, HB2.out.setCell (Nat.le_refl _) _⟩
      case measure => simp [intOf]; omega
    · go_wp2_with fail
      go_ret
      exact ⟨rfl, ⟨G, HT.out.congr (fun j hj => by rw [if_pos (by omega)]), fun j hj => HR.out j (by omega), fun i j hij hj => HU.out i j hij (by omega)⟩, hB⟩

end Go.Proofs.YtgdjbclkdnmebaaDoor
