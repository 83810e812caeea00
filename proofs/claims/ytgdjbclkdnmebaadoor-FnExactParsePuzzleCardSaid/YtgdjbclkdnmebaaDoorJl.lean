/- The texts of locks, clues and puzzles, as both programs write them. For numbers of puzzles that can be. -/
import Derived.Test.YtgdjbclkdnmebaaDoorJk
namespace Go.Proofs.YtgdjbclkdnmebaaDoor
set_option maxRecDepth 100000
open Go.ChangeShapes Go.WideShapes Go.ChangeAt Go.RowKit Go.Joins

theorem stay {W w' : World} (hb : Below W.heap.size W w') {p : Addr} {x : Value} (h : W.cell? p = some x) : w'.cell? p = some x := (hb.cell (p := p) (World.block_lt_of_cell? W p h)).trans h

set_option maxHeartbeats 2000000 in
theorem clueText_any (x y z : Int) (w : World) (hc : 0 ≤ x ∧ x ≤ 4 ∧ 0 ≤ y ∧ y ≤ 124 ∧ 0 ≤ z ∧ z ≤ 60) (hT : TabW w) :
    Calls Tryd.prog 47 #[.agg #[.int .i64 x, .int .i64 y, .int .i64 z]] w fun e w' => e = .returned (.string (clT (x, y, z))) ∧ Below w.heap.size w w' := by
  have HT := Lib.hid hT
  have hlow := hT.low
  clear hT
  obtain ⟨x0, x4, y0, y9, z0, z9⟩ := hc
  have h1 := numB_size3 (n := x) (by omega) (by omega)
  have h2 := numB_size3 (n := y) (by omega) (by omega)
  have h3 := numB_size3 (n := z) (by omega) (by omega)
  have h46 : (⟨#[46]⟩ : ByteArray).size = 1 := rfl
  obtain ⟨u1, hu1⟩ : ∃ u, numB x ++ ⟨#[46]⟩ = u := ⟨_, rfl⟩
  obtain ⟨u2, hu2⟩ : ∃ u, u1 ++ numB y = u := ⟨_, rfl⟩
  obtain ⟨u3, hu3⟩ : ∃ u, u2 ++ ⟨#[46]⟩ = u := ⟨_, rfl⟩
  obtain ⟨u4, hu4⟩ : ∃ u, u3 ++ numB z = u := ⟨_, rfl⟩
  have hs1 : u1.size ≤ 4 := by rw [← hu1, ByteArray.size_append]; omega
  have hs2 : u2.size ≤ 7 := by rw [← hu2, ByteArray.size_append]; omega
  have hs3 : u3.size ≤ 8 := by rw [← hu3, ByteArray.size_append]; omega
  have HU : Hid (clT (x, y, z) = u4) := Lib.hid (by rw [← hu4, ← hu3, ← hu2, ← hu1]; rfl)
  have a1 : ∀ W : World, (Op.stringOp .add (numB x) ⟨#[46]⟩).run Tryd.prog W = .ok (.string u1) W := fun W => by rw [← hu1]; exact run_string_add_sum _ _ _ (by omega)
  have a2 : ∀ W : World, (Op.stringOp .add u1 (numB y)).run Tryd.prog W = .ok (.string u2) W := fun W => by rw [← hu2]; exact run_string_add_sum _ _ _ (by omega)
  have a3 : ∀ W : World, (Op.stringOp .add u2 ⟨#[46]⟩).run Tryd.prog W = .ok (.string u3) W := fun W => by rw [← hu3]; exact run_string_add_sum _ _ _ (by omega)
  have a4 : ∀ W : World, (Op.stringOp .add u3 (numB z)).run Tryd.prog W = .ok (.string u4) W := fun W => by rw [← hu4]; exact run_string_add_sum _ _ _ (by omega)
  rw [HU.out]
  clear hu1 hu2 hu3 hu4 hs1 hs2 hs3 h1 h2 h3 h46
  obtain ⟨W0, hW0⟩ : ∃ W, w.alloc (.cells #[.int .i64 x, .int .i64 y, .int .i64 z] 77) = W := ⟨_, rfl⟩
  have C0 : Cells W0 w.heap.size 3 (fun j => #[Value.int .i64 x, .int .i64 y, .int .i64 z].toList.getD j undef) := by rw [← hW0]; exact Cells.new (n := 3) rfl rfl
  have hB0 : Below w.heap.size w W0 := by rw [← hW0]; exact (Below.refl _ _).alloc (Nat.le_refl _) _
  have p0 : W0.cell? ⟨w.heap.size, 0, none⟩ = some (.int .i64 x) := C0.cell (show 0 < 3 by omega)
  have p1 : W0.cell? ⟨w.heap.size, 1, none⟩ = some (.int .i64 y) := C0.cell (show 1 < 3 by omega)
  have p2 : W0.cell? ⟨w.heap.size, 2, none⟩ = some (.int .i64 z) := C0.cell (show 2 < 3 by omega)
  clear C0
  go_enter Tryd.func47, Tryd.ntmps47
  go_wp2_with fail
  clear hW0
  refine wp_region_held_drew (S := (fun W => W.cell? ⟨w.heap.size, 0, none⟩ = some (.int .i64 x) ∧ W.cell? ⟨w.heap.size, 1, none⟩ = some (.int .i64 y) ∧ W.cell? ⟨w.heap.size, 2, none⟩ = some (.int .i64 z) ∧ Below w.heap.size w W)) (by kernel_rfl) ⟨p0, p1, p2, bel_drew hB0⟩ (fun hHeld => ?_)
  clear p0 p1 p2 hB0
  (refine wpAnyH_take (i := 0) (v := ?_) rfl (by kernel_rfl) (by kernel_rfl) (by kernel_rfl) (fun _ _ _ h => h) (Or.inl ⟨by rfl, by intro w hSw; (try dsimp only at hSw); go_simp; try with_reducible rfl⟩) (by assumption) ?_; try simp only [Act.put, List.getElem_toArray, List.getElem_cons_zero, List.setIfInBounds_toArray, List.set_cons_zero, List.set_cons_succ])
  (refine wpAnyH_take (i := 1) (v := ?_) rfl (by kernel_rfl) (by kernel_rfl) (by kernel_rfl) (fun _ _ _ h => h) (Or.inl ⟨by rfl, by intro w hSw; (try dsimp only at hSw); go_simp; try with_reducible rfl⟩) (by assumption) ?_; try simp only [Act.put, List.getElem_toArray, List.getElem_cons_zero, List.getElem_cons_succ, List.setIfInBounds_toArray, List.set_cons_zero, List.set_cons_succ])
  (refine wpAnyH_take (i := 4) (v := ?_) rfl (by kernel_rfl) (by kernel_rfl) (by kernel_rfl) (fun _ _ _ h => h) (Or.inl ⟨by rfl, by intro w hSw; (try dsimp only at hSw); go_simp; try with_reducible rfl⟩) (by assumption) ?_; try simp only [Act.put, List.getElem_toArray, List.getElem_cons_zero, List.getElem_cons_succ, List.setIfInBounds_toArray, List.set_cons_zero, List.set_cons_succ])
  (refine wpAnyH_take (i := 5) (v := ?_) rfl (by kernel_rfl) (by kernel_rfl) (by kernel_rfl) (fun _ _ _ h => h) (Or.inl ⟨by rfl, by intro w hSw; (try dsimp only at hSw); go_simp; try with_reducible rfl⟩) (by assumption) ?_; try simp only [Act.put, List.getElem_toArray, List.getElem_cons_zero, List.getElem_cons_succ, List.setIfInBounds_toArray, List.set_cons_zero, List.set_cons_succ])
  (refine wpAnyH_take (i := 9) (v := ?_) rfl (by kernel_rfl) (by kernel_rfl) (by kernel_rfl) (fun _ _ _ h => h) (Or.inl ⟨by rfl, by intro w hSw; (try dsimp only at hSw); go_simp; try with_reducible rfl⟩) (by assumption) ?_; try simp only [Act.put, List.getElem_toArray, List.getElem_cons_zero, List.getElem_cons_succ, List.setIfInBounds_toArray, List.set_cons_zero, List.set_cons_succ])
  (refine wpAnyH_take (i := 10) (v := ?_) rfl (by kernel_rfl) (by kernel_rfl) (by kernel_rfl) (fun _ _ _ h => h) (Or.inl ⟨by rfl, by intro w hSw; (try dsimp only at hSw); go_simp; try with_reducible rfl⟩) (by assumption) ?_; try simp only [Act.put, List.getElem_toArray, List.getElem_cons_zero, List.getElem_cons_succ, List.setIfInBounds_toArray, List.set_cons_zero, List.set_cons_succ])
  (refine wpAnyH_ready (rs := [2]) (by kernel_rfl) (by simp) (AllReadyH.cons rfl (fun K hK => ?_) AllReadyH.nil); rw [if_pos (by rfl)]; simp only [List.getElem_toArray, List.getElem_cons_zero, List.getElem_cons_succ]; go_wp2_with ((go_at_call 31; refine (itoaT_any x _ (by omega) (by omega) (HT.out.below hHeld.2.2.2 hlow)).mono ?_; rintro e w1 ⟨rfl, hb1⟩; have hS1 := And.intro (stay hb1 hHeld.1) (And.intro (stay hb1 hHeld.2.1) (And.intro (stay hb1 hHeld.2.2.1) (bel_call hHeld.2.2.2 hb1))))); refine hK.out _ _ hS1 (fun hHeld => ?_); clear hK K; try simp only [Act.put, List.getElem_toArray, List.getElem_cons_zero, List.getElem_cons_succ, List.setIfInBounds_toArray, List.set_cons_zero, List.set_cons_succ])
  (refine wpAnyH_take (i := 3) (v := ?_) rfl (by kernel_rfl) (by kernel_rfl) (by kernel_rfl) (fun _ _ _ h => h) (Or.inl ⟨by rfl, by intro w hSw; (try dsimp only at hSw); go_simp; try with_reducible rfl⟩) (by assumption) ?_; try simp only [Act.put, List.getElem_toArray, List.getElem_cons_zero, List.getElem_cons_succ, List.setIfInBounds_toArray, List.set_cons_zero, List.set_cons_succ])
  (refine wpAnyH_ready (rs := [6]) (by kernel_rfl) (by simp) (AllReadyH.cons rfl (fun K hK => ?_) AllReadyH.nil); rw [if_pos (by rfl)]; simp only [List.getElem_toArray, List.getElem_cons_zero, List.getElem_cons_succ]; go_wp2_with ((go_at_call 31; refine (itoaT_any y _ (by omega) (by omega) (HT.out.below hHeld.2.2.2 hlow)).mono ?_; rintro e w2 ⟨rfl, hb2⟩; have hS2 := And.intro (stay hb2 hHeld.1) (And.intro (stay hb2 hHeld.2.1) (And.intro (stay hb2 hHeld.2.2.1) (bel_call hHeld.2.2.2 hb2))))); refine hK.out _ _ hS2 (fun hHeld => ?_); clear hK K; try simp only [Act.put, List.getElem_toArray, List.getElem_cons_zero, List.getElem_cons_succ, List.setIfInBounds_toArray, List.set_cons_zero, List.set_cons_succ])
  (refine wpAnyH_take (i := 7) (v := ?_) rfl (by kernel_rfl) (by kernel_rfl) (by kernel_rfl) (fun _ _ _ h => h) (Or.inl ⟨by rfl, by intro w hSw; (try dsimp only at hSw); go_simp; try with_reducible rfl⟩) (by assumption) ?_; try simp only [Act.put, List.getElem_toArray, List.getElem_cons_zero, List.getElem_cons_succ, List.setIfInBounds_toArray, List.set_cons_zero, List.set_cons_succ])
  (refine wpAnyH_take (i := 8) (v := ?_) rfl (by kernel_rfl) (by kernel_rfl) (by kernel_rfl) (fun _ _ _ h => h) (Or.inl ⟨by rfl, by intro w hSw; (try dsimp only at hSw); go_simp; try with_reducible rfl⟩) (by assumption) ?_; try simp only [Act.put, List.getElem_toArray, List.getElem_cons_zero, List.getElem_cons_succ, List.setIfInBounds_toArray, List.set_cons_zero, List.set_cons_succ])
  (refine wpAnyH_ready (rs := [11]) (by kernel_rfl) (by simp) (AllReadyH.cons rfl (fun K hK => ?_) AllReadyH.nil); rw [if_pos (by rfl)]; simp only [List.getElem_toArray, List.getElem_cons_zero, List.getElem_cons_succ]; go_wp2_with ((go_at_call 31; refine (itoaT_any z _ (by omega) (by omega) (HT.out.below hHeld.2.2.2 hlow)).mono ?_; rintro e w3 ⟨rfl, hb3⟩; have hS3 := And.intro (stay hb3 hHeld.1) (And.intro (stay hb3 hHeld.2.1) (And.intro (stay hb3 hHeld.2.2.1) (bel_call hHeld.2.2.2 hb3))))); refine hK.out _ _ hS3 (fun hHeld => ?_); clear hK K; try simp only [Act.put, List.getElem_toArray, List.getElem_cons_zero, List.getElem_cons_succ, List.setIfInBounds_toArray, List.set_cons_zero, List.set_cons_succ])
  (refine wpAnyH_take (i := 12) (v := ?_) rfl (by kernel_rfl) (by kernel_rfl) (by kernel_rfl) (fun _ _ _ h => h) (Or.inl ⟨by rfl, by intro w hSw; (try dsimp only at hSw); go_simp; try with_reducible rfl⟩) (by assumption) ?_; try simp only [Act.put, List.getElem_toArray, List.getElem_cons_zero, List.getElem_cons_succ, List.setIfInBounds_toArray, List.set_cons_zero, List.set_cons_succ])
  (refine wpAnyH_take (i := 13) (v := ?_) rfl (by kernel_rfl) (by kernel_rfl) (by kernel_rfl) (fun _ _ _ h => h) (Or.inl ⟨by rfl, by intro w hSw; (try dsimp only at hSw); go_simp; try with_reducible rfl⟩) (by assumption) ?_; try simp only [Act.put, List.getElem_toArray, List.getElem_cons_zero, List.getElem_cons_succ, List.setIfInBounds_toArray, List.set_cons_zero, List.set_cons_succ])
  refine wpAnyH_done (by kernel_rfl) ?_ _
  go_wp2_with fail
  go_ret
  exact ⟨rfl, hHeld.2.2.2⟩

set_option maxHeartbeats 2000000 in
theorem lockTextT_any (a b : Int) (w : World) (ha : 1 ≤ a ∧ a ≤ 6) (hb : 2 ≤ b ∧ b ≤ 10) (hT : TabW w) :
    Calls Tryd.prog 48 #[.agg #[.int .i64 a, .int .i64 b]] w fun e w' => e = .returned (.string (lkB a b)) ∧ Below w.heap.size w w' := by
  have HT := Lib.hid hT
  have hlow := hT.low
  clear hT
  obtain ⟨a1, a6⟩ := ha
  obtain ⟨b2, b10⟩ := hb
  have h1 := numB_size3 (n := a) (by omega) (by omega)
  have h2 := numB_size3 (n := b) (by omega) (by omega)
  have h120 : (⟨#[120]⟩ : ByteArray).size = 1 := rfl
  obtain ⟨u1, hu1⟩ : ∃ u, numB a ++ ⟨#[120]⟩ = u := ⟨_, rfl⟩
  obtain ⟨u2, hu2⟩ : ∃ u, u1 ++ numB b = u := ⟨_, rfl⟩
  have hs1 : u1.size ≤ 4 := by rw [← hu1, ByteArray.size_append]; omega
  have HU : Hid (lkB a b = u2) := Lib.hid (by rw [← hu2, ← hu1]; rfl)
  have e1 : ∀ W : World, (Op.stringOp .add (numB a) ⟨#[120]⟩).run Tryd.prog W = .ok (.string u1) W := fun W => by rw [← hu1]; exact run_string_add_sum _ _ _ (by omega)
  have e2 : ∀ W : World, (Op.stringOp .add u1 (numB b)).run Tryd.prog W = .ok (.string u2) W := fun W => by rw [← hu2]; exact run_string_add_sum _ _ _ (by omega)
  rw [HU.out]
  clear hu1 hu2 hs1 h1 h2 h120
  obtain ⟨W0, hW0⟩ : ∃ W, w.alloc (.cells #[.int .i64 a, .int .i64 b] 43) = W := ⟨_, rfl⟩
  have C0 : Cells W0 w.heap.size 2 (fun j => #[Value.int .i64 a, .int .i64 b].toList.getD j undef) := by rw [← hW0]; exact Cells.new (n := 2) rfl rfl
  have hB0 : Below w.heap.size w W0 := by rw [← hW0]; exact (Below.refl _ _).alloc (Nat.le_refl _) _
  have p0 : W0.cell? ⟨w.heap.size, 0, none⟩ = some (.int .i64 a) := C0.cell (show 0 < 2 by omega)
  have p1 : W0.cell? ⟨w.heap.size, 1, none⟩ = some (.int .i64 b) := C0.cell (show 1 < 2 by omega)
  clear C0
  go_enter Tryd.func48, Tryd.ntmps48
  go_wp2_with fail
  clear hW0
  refine wp_region_held_drew (S := (fun W => W.cell? ⟨w.heap.size, 0, none⟩ = some (.int .i64 a) ∧ W.cell? ⟨w.heap.size, 1, none⟩ = some (.int .i64 b) ∧ Below w.heap.size w W)) (by kernel_rfl) ⟨p0, p1, bel_drew hB0⟩ (fun hHeld => ?_)
  clear p0 p1 hB0
  (refine wpAnyH_take (i := 0) (v := ?_) rfl (by kernel_rfl) (by kernel_rfl) (by kernel_rfl) (fun _ _ _ h => h) (Or.inl ⟨by rfl, by intro w hSw; (try dsimp only at hSw); go_simp; try with_reducible rfl⟩) (by assumption) ?_; try simp only [Act.put, List.getElem_toArray, List.getElem_cons_zero, List.setIfInBounds_toArray, List.set_cons_zero, List.set_cons_succ])
  (refine wpAnyH_take (i := 1) (v := ?_) rfl (by kernel_rfl) (by kernel_rfl) (by kernel_rfl) (fun _ _ _ h => h) (Or.inl ⟨by rfl, by intro w hSw; (try dsimp only at hSw); go_simp; try with_reducible rfl⟩) (by assumption) ?_; try simp only [Act.put, List.getElem_toArray, List.getElem_cons_zero, List.getElem_cons_succ, List.setIfInBounds_toArray, List.set_cons_zero, List.set_cons_succ])
  (refine wpAnyH_take (i := 4) (v := ?_) rfl (by kernel_rfl) (by kernel_rfl) (by kernel_rfl) (fun _ _ _ h => h) (Or.inl ⟨by rfl, by intro w hSw; (try dsimp only at hSw); go_simp; try with_reducible rfl⟩) (by assumption) ?_; try simp only [Act.put, List.getElem_toArray, List.getElem_cons_zero, List.getElem_cons_succ, List.setIfInBounds_toArray, List.set_cons_zero, List.set_cons_succ])
  (refine wpAnyH_take (i := 5) (v := ?_) rfl (by kernel_rfl) (by kernel_rfl) (by kernel_rfl) (fun _ _ _ h => h) (Or.inl ⟨by rfl, by intro w hSw; (try dsimp only at hSw); go_simp; try with_reducible rfl⟩) (by assumption) ?_; try simp only [Act.put, List.getElem_toArray, List.getElem_cons_zero, List.getElem_cons_succ, List.setIfInBounds_toArray, List.set_cons_zero, List.set_cons_succ])
  (refine wpAnyH_ready (rs := [2]) (by kernel_rfl) (by simp) (AllReadyH.cons rfl (fun K hK => ?_) AllReadyH.nil); rw [if_pos (by rfl)]; simp only [List.getElem_toArray, List.getElem_cons_zero, List.getElem_cons_succ]; go_wp2_with ((go_at_call 31; refine (itoaT_any a _ (by omega) (by omega) (HT.out.below hHeld.2.2 hlow)).mono ?_; rintro e w1 ⟨rfl, hb1⟩; have hS1 := And.intro (stay hb1 hHeld.1) (And.intro (stay hb1 hHeld.2.1) (bel_call hHeld.2.2 hb1)))); refine hK.out _ _ hS1 (fun hHeld => ?_); clear hK K; try simp only [Act.put, List.getElem_toArray, List.getElem_cons_zero, List.getElem_cons_succ, List.setIfInBounds_toArray, List.set_cons_zero, List.set_cons_succ])
  (refine wpAnyH_take (i := 3) (v := ?_) rfl (by kernel_rfl) (by kernel_rfl) (by kernel_rfl) (fun _ _ _ h => h) (Or.inl ⟨by rfl, by intro w hSw; (try dsimp only at hSw); go_simp; try with_reducible rfl⟩) (by assumption) ?_; try simp only [Act.put, List.getElem_toArray, List.getElem_cons_zero, List.getElem_cons_succ, List.setIfInBounds_toArray, List.set_cons_zero, List.set_cons_succ])
  (refine wpAnyH_ready (rs := [6]) (by kernel_rfl) (by simp) (AllReadyH.cons rfl (fun K hK => ?_) AllReadyH.nil); rw [if_pos (by rfl)]; simp only [List.getElem_toArray, List.getElem_cons_zero, List.getElem_cons_succ]; go_wp2_with ((go_at_call 31; refine (itoaT_any b _ (by omega) (by omega) (HT.out.below hHeld.2.2 hlow)).mono ?_; rintro e w2 ⟨rfl, hb2⟩; have hS2 := And.intro (stay hb2 hHeld.1) (And.intro (stay hb2 hHeld.2.1) (bel_call hHeld.2.2 hb2)))); refine hK.out _ _ hS2 (fun hHeld => ?_); clear hK K; try simp only [Act.put, List.getElem_toArray, List.getElem_cons_zero, List.getElem_cons_succ, List.setIfInBounds_toArray, List.set_cons_zero, List.set_cons_succ])
  (refine wpAnyH_take (i := 7) (v := ?_) rfl (by kernel_rfl) (by kernel_rfl) (by kernel_rfl) (fun _ _ _ h => h) (Or.inl ⟨by rfl, by intro w hSw; (try dsimp only at hSw); go_simp; try with_reducible rfl⟩) (by assumption) ?_; try simp only [Act.put, List.getElem_toArray, List.getElem_cons_zero, List.getElem_cons_succ, List.setIfInBounds_toArray, List.set_cons_zero, List.set_cons_succ])
  (refine wpAnyH_take (i := 8) (v := ?_) rfl (by kernel_rfl) (by kernel_rfl) (by kernel_rfl) (fun _ _ _ h => h) (Or.inl ⟨by rfl, by intro w hSw; (try dsimp only at hSw); go_simp; try with_reducible rfl⟩) (by assumption) ?_; try simp only [Act.put, List.getElem_toArray, List.getElem_cons_zero, List.getElem_cons_succ, List.setIfInBounds_toArray, List.set_cons_zero, List.set_cons_succ])
  refine wpAnyH_done (by kernel_rfl) ?_ _
  go_wp2_with fail
  go_ret
  exact ⟨rfl, hHeld.2.2⟩

set_option maxHeartbeats 8000000 in
theorem pzText_any (a b : Int) (A : Option Addr) (n c : Nat) (cs : List Clu) (w : World) (hg : pzB a b cs = true) (hA : ArgC w A n cs) :
    Calls Tryd.prog 43 #[.agg #[.int .i64 a, .int .i64 b, .slice A n c]] w fun e w' => e = .returned (.string (pzU a b cs n)) ∧ Below w.heap.size w w' := by
  have HH := Lib.hid (pzH hg hA.len)
  have HA := Lib.hid hA
  obtain ⟨a1, a6, b2, b10, n6⟩ : 1 ≤ a ∧ a ≤ 6 ∧ 2 ≤ b ∧ b ≤ 10 ∧ n ≤ 6 := ⟨HH.out.a1, HH.out.a6, HH.out.b2, HH.out.b10, HH.out.n6⟩
  clear hg hA
  have h1 := numB_size3 (n := a) (by omega) (by omega)
  have h2 := numB_size3 (n := b) (by omega) (by omega)
  have h120 : (⟨#[120]⟩ : ByteArray).size = 1 := rfl
  have h58 : (⟨#[58]⟩ : ByteArray).size = 1 := rfl
  obtain ⟨u1, hu1⟩ : ∃ u, numB a ++ ⟨#[120]⟩ = u := ⟨_, rfl⟩
  obtain ⟨u2, hu2⟩ : ∃ u, u1 ++ numB b = u := ⟨_, rfl⟩
  obtain ⟨u3, hu3⟩ : ∃ u, u2 ++ ⟨#[58]⟩ = u := ⟨_, rfl⟩
  have hs1 : u1.size ≤ 4 := by rw [← hu1, ByteArray.size_append]; omega
  have hs2 : u2.size ≤ 7 := by rw [← hu2, ByteArray.size_append]; omega
  have HU : Hid (pzU a b cs 0 = u3) := Lib.hid (by rw [← hu3, ← hu2, ← hu1]; rfl)
  have e1 : ∀ W : World, (Op.stringOp .add (numB a) ⟨#[120]⟩).run Tryd.prog W = .ok (.string u1) W := fun W => by rw [← hu1]; exact run_string_add_sum _ _ _ (by omega)
  have e2 : ∀ W : World, (Op.stringOp .add u1 (numB b)).run Tryd.prog W = .ok (.string u2) W := fun W => by rw [← hu2]; exact run_string_add_sum _ _ _ (by omega)
  have e3 : ∀ W : World, (Op.stringOp .add u2 ⟨#[58]⟩).run Tryd.prog W = .ok (.string u3) W := fun W => by rw [← hu3]; exact run_string_add_sum _ _ _ (by omega)
  clear hu1 hu2 hu3 hs1 hs2 h1 h2 h120 h58
  obtain ⟨W0, hW0⟩ : ∃ W, w.alloc (.cells #[.int .i64 a, .int .i64 b, .slice A n c] 46) = W := ⟨_, rfl⟩
  have C0 : Cells W0 w.heap.size 3 (fun j => #[Value.int .i64 a, .int .i64 b, .slice A n c].toList.getD j undef) := by rw [← hW0]; exact Cells.new (n := 3) rfl rfl
  have hB0 : Below w.heap.size w W0 := by rw [← hW0]; exact (Below.refl _ _).alloc (Nat.le_refl _) _
  have p0 : W0.cell? ⟨w.heap.size, 0, none⟩ = some (.int .i64 a) := C0.cell (show 0 < 3 by omega)
  have p1 : W0.cell? ⟨w.heap.size, 1, none⟩ = some (.int .i64 b) := C0.cell (show 1 < 3 by omega)
  have p2 : W0.cell? ⟨w.heap.size, 2, none⟩ = some (.slice A n c) := C0.cell (show 2 < 3 by omega)
  clear C0
  go_enter Tryd.func43, Tryd.ntmps43
  go_wp2_with fail
  clear hW0
  refine wp_region_held_drew (S := (fun W => W.cell? ⟨w.heap.size, 0, none⟩ = some (.int .i64 a) ∧ W.cell? ⟨w.heap.size, 1, none⟩ = some (.int .i64 b) ∧ W.cell? ⟨w.heap.size, 2, none⟩ = some (.slice A n c) ∧ Below w.heap.size w W)) (by kernel_rfl) ⟨p0, p1, p2, bel_drew hB0⟩ (fun hHeld => ?_)
  clear p0 p1 p2 hB0
  (refine wpAnyH_take (i := 0) (v := ?_) rfl (by kernel_rfl) (by kernel_rfl) (by kernel_rfl) (fun _ _ _ h => h) (Or.inl ⟨by rfl, by intro w hSw; (try dsimp only at hSw); go_simp; try with_reducible rfl⟩) (by assumption) ?_; try simp only [Act.put, List.getElem_toArray, List.getElem_cons_zero, List.setIfInBounds_toArray, List.set_cons_zero, List.set_cons_succ])
  (refine wpAnyH_take (i := 1) (v := ?_) rfl (by kernel_rfl) (by kernel_rfl) (by kernel_rfl) (fun _ _ _ h => h) (Or.inl ⟨by rfl, by intro w hSw; (try dsimp only at hSw); go_simp; try with_reducible rfl⟩) (by assumption) ?_; try simp only [Act.put, List.getElem_toArray, List.getElem_cons_zero, List.getElem_cons_succ, List.setIfInBounds_toArray, List.set_cons_zero, List.set_cons_succ])
  (refine wpAnyH_take (i := 2) (v := ?_) rfl (by kernel_rfl) (by kernel_rfl) (by kernel_rfl) (fun _ _ _ h => h) (Or.inl ⟨by rfl, by intro w hSw; (try dsimp only at hSw); go_simp; try with_reducible rfl⟩) (by assumption) ?_; try simp only [Act.put, List.getElem_toArray, List.getElem_cons_zero, List.getElem_cons_succ, List.setIfInBounds_toArray, List.set_cons_zero, List.set_cons_succ])
  (refine wpAnyH_take (i := 5) (v := ?_) rfl (by kernel_rfl) (by kernel_rfl) (by kernel_rfl) (fun _ _ _ h => h) (Or.inl ⟨by rfl, by intro w hSw; (try dsimp only at hSw); go_simp; try with_reducible rfl⟩) (by assumption) ?_; try simp only [Act.put, List.getElem_toArray, List.getElem_cons_zero, List.getElem_cons_succ, List.setIfInBounds_toArray, List.set_cons_zero, List.set_cons_succ])
  (refine wpAnyH_take (i := 6) (v := ?_) rfl (by kernel_rfl) (by kernel_rfl) (by kernel_rfl) (fun _ _ _ h => h) (Or.inl ⟨by rfl, by intro w hSw; (try dsimp only at hSw); go_simp; try with_reducible rfl⟩) (by assumption) ?_; try simp only [Act.put, List.getElem_toArray, List.getElem_cons_zero, List.getElem_cons_succ, List.setIfInBounds_toArray, List.set_cons_zero, List.set_cons_succ])
  (refine wpAnyH_take (i := 7) (v := ?_) rfl (by kernel_rfl) (by kernel_rfl) (by kernel_rfl) (fun _ _ _ h => h) (Or.inl ⟨by rfl, by intro w hSw; (try dsimp only at hSw); go_simp; try with_reducible rfl⟩) (by assumption) ?_; try simp only [Act.put, List.getElem_toArray, List.getElem_cons_zero, List.getElem_cons_succ, List.setIfInBounds_toArray, List.set_cons_zero, List.set_cons_succ])
  (refine wpAnyH_ready (rs := [3]) (by kernel_rfl) (by simp) (AllReadyH.cons rfl (fun K hK => ?_) AllReadyH.nil); rw [if_pos (by rfl)]; simp only [List.getElem_toArray, List.getElem_cons_zero, List.getElem_cons_succ]; go_wp2_with ((go_at_call 59; refine (l1Num_big a _ (by omega) (by omega)).mono ?_; rintro e w1 ⟨rfl, hb1⟩; have hS1 := And.intro (stay hb1 hHeld.1) (And.intro (stay hb1 hHeld.2.1) (And.intro (stay hb1 hHeld.2.2.1) (bel_call hHeld.2.2.2 hb1))))); refine hK.out _ _ hS1 (fun hHeld => ?_); clear hK K; try simp only [Act.put, List.getElem_toArray, List.getElem_cons_zero, List.getElem_cons_succ, List.setIfInBounds_toArray, List.set_cons_zero, List.set_cons_succ])
  (refine wpAnyH_take (i := 4) (v := ?_) rfl (by kernel_rfl) (by kernel_rfl) (by kernel_rfl) (fun _ _ _ h => h) (Or.inl ⟨by rfl, by intro w hSw; (try dsimp only at hSw); go_simp; try with_reducible rfl⟩) (by assumption) ?_; try simp only [Act.put, List.getElem_toArray, List.getElem_cons_zero, List.getElem_cons_succ, List.setIfInBounds_toArray, List.set_cons_zero, List.set_cons_succ])
  (refine wpAnyH_ready (rs := [8]) (by kernel_rfl) (by simp) (AllReadyH.cons rfl (fun K hK => ?_) AllReadyH.nil); rw [if_pos (by rfl)]; simp only [List.getElem_toArray, List.getElem_cons_zero, List.getElem_cons_succ]; go_wp2_with ((go_at_call 59; refine (l1Num_big b _ (by omega) (by omega)).mono ?_; rintro e w2 ⟨rfl, hb2⟩; have hS2 := And.intro (stay hb2 hHeld.1) (And.intro (stay hb2 hHeld.2.1) (And.intro (stay hb2 hHeld.2.2.1) (bel_call hHeld.2.2.2 hb2))))); refine hK.out _ _ hS2 (fun hHeld => ?_); clear hK K; try simp only [Act.put, List.getElem_toArray, List.getElem_cons_zero, List.getElem_cons_succ, List.setIfInBounds_toArray, List.set_cons_zero, List.set_cons_succ])
  (refine wpAnyH_take (i := 9) (v := ?_) rfl (by kernel_rfl) (by kernel_rfl) (by kernel_rfl) (fun _ _ _ h => h) (Or.inl ⟨by rfl, by intro w hSw; (try dsimp only at hSw); go_simp; try with_reducible rfl⟩) (by assumption) ?_; try simp only [Act.put, List.getElem_toArray, List.getElem_cons_zero, List.getElem_cons_succ, List.setIfInBounds_toArray, List.set_cons_zero, List.set_cons_succ])
  (refine wpAnyH_take (i := 10) (v := ?_) rfl (by kernel_rfl) (by kernel_rfl) (by kernel_rfl) (fun _ _ _ h => h) (Or.inl ⟨by rfl, by intro w hSw; (try dsimp only at hSw); go_simp; try with_reducible rfl⟩) (by assumption) ?_; try simp only [Act.put, List.getElem_toArray, List.getElem_cons_zero, List.getElem_cons_succ, List.setIfInBounds_toArray, List.set_cons_zero, List.set_cons_succ])
  (refine wpAnyH_take (i := 11) (v := ?_) rfl (by kernel_rfl) (by kernel_rfl) (by kernel_rfl) (fun _ _ _ h => h) (Or.inl ⟨by rfl, by intro w hSw; (try dsimp only at hSw); go_simp; try with_reducible rfl⟩) (by assumption) ?_; try simp only [Act.put, List.getElem_toArray, List.getElem_cons_zero, List.getElem_cons_succ, List.setIfInBounds_toArray, List.set_cons_zero, List.set_cons_succ])
  refine wpAnyH_done (by kernel_rfl) ?_ _
  obtain ⟨_, _, p2, hB2⟩ := hHeld
  have X2 := Lib.hid hB2
  clear hB2 e1 e2 e3
  go_wp2_with fail
  clear p2
  go_loopw [3, 20] (fun s i wr => ∃ k : Nat, k ≤ n ∧ i = .int .i64 k ∧ s = .string (pzU a b cs k) ∧ Below w.heap.size w wr) (fun _ i _ => n - (intOf i).toNat)
  case atStart => exact ⟨0, by omega, rfl, by rw [HU.out], X2.out⟩
  case round =>
    clear X2
    obtain ⟨k, hk, rfl, rfl, hB⟩ := hrel
    have HB := Lib.hid hB
    clear hB
    by_cases hlt : k < n
    · obtain ⟨b0, off, rfl, hb0, hcs⟩ := (HA.out.below HB.out).at_.resolve_left (by omega)
      obtain ⟨o0, o1, o2⟩ := hcs k hlt
      have hclu := HH.out.clu k hlt
      have hz := pzU_size HH.out k hk
      have HSU := Lib.hid (pzU_succ a b cs k)
      clear hcs
      generalize cs.getD k cu0 = C at o0 o1 o2 hclu HSU
      obtain ⟨x, y, z⟩ := C
      obtain ⟨x0, x4, y0, y9, z0, z9⟩ : 0 ≤ x ∧ x ≤ 4 ∧ 0 ≤ y ∧ y ≤ 124 ∧ 0 ≤ z ∧ z ≤ 60 := hclu
      change wr.cell? ⟨b0, off + k * 3, none⟩ = some (.int .i64 x) at o0
      change wr.cell? ⟨b0, off + k * 3 + 1, none⟩ = some (.int .i64 y) at o1
      change wr.cell? ⟨b0, off + k * 3 + 2, none⟩ = some (.int .i64 z) at o2
      have h1 := numB_size3 (n := x) (by omega) (by omega)
      have h2 := numB_size3 (n := y) (by omega) (by omega)
      have h3 := numB_size3 (n := z) (by omega) (by omega)
      have h46 : (⟨#[46]⟩ : ByteArray).size = 1 := rfl
      have h44 : (⟨#[44]⟩ : ByteArray).size = 1 := rfl
      generalize pzU a b cs k = t0 at hz HSU ⊢
      obtain ⟨tc, htc⟩ : ∃ u, t0 ++ ⟨#[44]⟩ = u := ⟨_, rfl⟩
      have hztc : tc.size ≤ 9 + 12 * k := by rw [← htc, ByteArray.size_append]; omega
      have ec : ∀ W : World, (Op.stringOp .add t0 ⟨#[44]⟩).run Tryd.prog W = .ok (.string tc) W := fun W => by rw [← htc]; exact run_string_add_sum _ _ _ (by omega)
      obtain ⟨v1, hv1⟩ : ∃ u, numB x ++ ⟨#[46]⟩ = u := ⟨_, rfl⟩
      obtain ⟨v2, hv2⟩ : ∃ u, v1 ++ numB y = u := ⟨_, rfl⟩
      obtain ⟨v3, hv3⟩ : ∃ u, v2 ++ ⟨#[46]⟩ = u := ⟨_, rfl⟩
      obtain ⟨v4, hv4⟩ : ∃ u, v3 ++ numB z = u := ⟨_, rfl⟩
      have hs1 : v1.size ≤ 4 := by rw [← hv1, ByteArray.size_append]; omega
      have hs2 : v2.size ≤ 7 := by rw [← hv2, ByteArray.size_append]; omega
      have hs3 : v3.size ≤ 8 := by rw [← hv3, ByteArray.size_append]; omega
      have hs4 : v4.size ≤ 11 := by rw [← hv4, ByteArray.size_append]; omega
      have f1 : ∀ W : World, (Op.stringOp .add (numB x) ⟨#[46]⟩).run Tryd.prog W = .ok (.string v1) W := fun W => by rw [← hv1]; exact run_string_add_sum _ _ _ (by omega)
      have f2 : ∀ W : World, (Op.stringOp .add v1 (numB y)).run Tryd.prog W = .ok (.string v2) W := fun W => by rw [← hv2]; exact run_string_add_sum _ _ _ (by omega)
      have f3 : ∀ W : World, (Op.stringOp .add v2 ⟨#[46]⟩).run Tryd.prog W = .ok (.string v3) W := fun W => by rw [← hv3]; exact run_string_add_sum _ _ _ (by omega)
      have f4 : ∀ W : World, (Op.stringOp .add v3 (numB z)).run Tryd.prog W = .ok (.string v4) W := fun W => by rw [← hv4]; exact run_string_add_sum _ _ _ (by omega)
      obtain ⟨t1, ht1⟩ : ∃ t, (if k = 0 then t0 else tc) = t := ⟨_, rfl⟩
      obtain ⟨t2, ht2⟩ : ∃ t, t1 ++ v4 = t := ⟨_, rfl⟩
      have hzt : t1.size ≤ 9 + 12 * k := by rw [← ht1]; split <;> omega
      have f5 : ∀ W : World, (Op.stringOp .add t1 v4).run Tryd.prog W = .ok (.string t2) W := fun W => by rw [← ht2]; exact run_string_add_sum _ _ _ (by omega)
      have HSK : Hid (pzU a b cs (k + 1) = t2) := Lib.hid (by
        rw [HSU.out, ← ht2, ← ht1, ← htc, ← hv4, ← hv3, ← hv2, ← hv1]; rfl)
      clear HSU hv1 hv2 hv3 hv4 hs1 hs2 hs3 hs4 ht2 htc hzt hztc hz h1 h2 h3 h46 h44
      obtain ⟨W1, hW1⟩ : ∃ W, wr.alloc (.cells #[.int .i64 x, .int .i64 y, .int .i64 z] 77) = W := ⟨_, rfl⟩
      have C1 : Cells W1 wr.heap.size 3 (fun j => #[Value.int .i64 x, .int .i64 y, .int .i64 z].toList.getD j undef) := by rw [← hW1]; exact Cells.new (n := 3) rfl rfl
      have hB1 : Below w.heap.size w W1 := by rw [← hW1]; exact HB.out.alloc HB.out.size _
      have HSZ : Hid (w.heap.size ≤ wr.heap.size) := Lib.hid HB.out.size
      have q0 : W1.cell? ⟨wr.heap.size, 0, none⟩ = some (.int .i64 x) := C1.cell (show 0 < 3 by omega)
      have q1 : W1.cell? ⟨wr.heap.size, 1, none⟩ = some (.int .i64 y) := C1.cell (show 1 < 3 by omega)
      have q2 : W1.cell? ⟨wr.heap.size, 2, none⟩ = some (.int .i64 z) := C1.cell (show 2 < 3 by omega)
      have key : ∀ (hpos : True), True := fun _ => trivial
      clear C1 key
      by_cases h0 : k = 0
      · subst h0
        rw [if_pos rfl] at ht1
        subst ht1
        rw [Nat.zero_mul, Nat.add_zero] at o0 o1 o2
        go_wp2_with fail
        clear hW1
        refine wp_region_held_drew (S := (fun W => W.cell? ⟨wr.heap.size, 0, none⟩ = some (.int .i64 x) ∧ W.cell? ⟨wr.heap.size, 1, none⟩ = some (.int .i64 y) ∧ W.cell? ⟨wr.heap.size, 2, none⟩ = some (.int .i64 z) ∧ Below w.heap.size w W)) (by kernel_rfl) ⟨q0, q1, q2, bel_drew hB1⟩ (fun hHeld => ?_)
        clear q0 q1 q2 hB1
        (refine wpAnyH_take (i := 0) (v := ?_) rfl (by kernel_rfl) (by kernel_rfl) (by kernel_rfl) (fun _ _ _ h => h) (Or.inl ⟨by rfl, by intro w hSw; (try dsimp only at hSw); go_simp; try with_reducible rfl⟩) (by assumption) ?_; try simp only [Act.put, List.getElem_toArray, List.getElem_cons_zero, List.setIfInBounds_toArray, List.set_cons_zero, List.set_cons_succ])
        (refine wpAnyH_take (i := 1) (v := ?_) rfl (by kernel_rfl) (by kernel_rfl) (by kernel_rfl) (fun _ _ _ h => h) (Or.inl ⟨by rfl, by intro w hSw; (try dsimp only at hSw); go_simp; try with_reducible rfl⟩) (by assumption) ?_; try simp only [Act.put, List.getElem_toArray, List.getElem_cons_zero, List.getElem_cons_succ, List.setIfInBounds_toArray, List.set_cons_zero, List.set_cons_succ])
        (refine wpAnyH_take (i := 2) (v := ?_) rfl (by kernel_rfl) (by kernel_rfl) (by kernel_rfl) (fun _ _ _ h => h) (Or.inl ⟨by rfl, by intro w hSw; (try dsimp only at hSw); go_simp; try with_reducible rfl⟩) (by assumption) ?_; try simp only [Act.put, List.getElem_toArray, List.getElem_cons_zero, List.getElem_cons_succ, List.setIfInBounds_toArray, List.set_cons_zero, List.set_cons_succ])
        (refine wpAnyH_take (i := 5) (v := ?_) rfl (by kernel_rfl) (by kernel_rfl) (by kernel_rfl) (fun _ _ _ h => h) (Or.inl ⟨by rfl, by intro w hSw; (try dsimp only at hSw); go_simp; try with_reducible rfl⟩) (by assumption) ?_; try simp only [Act.put, List.getElem_toArray, List.getElem_cons_zero, List.getElem_cons_succ, List.setIfInBounds_toArray, List.set_cons_zero, List.set_cons_succ])
        (refine wpAnyH_take (i := 6) (v := ?_) rfl (by kernel_rfl) (by kernel_rfl) (by kernel_rfl) (fun _ _ _ h => h) (Or.inl ⟨by rfl, by intro w hSw; (try dsimp only at hSw); go_simp; try with_reducible rfl⟩) (by assumption) ?_; try simp only [Act.put, List.getElem_toArray, List.getElem_cons_zero, List.getElem_cons_succ, List.setIfInBounds_toArray, List.set_cons_zero, List.set_cons_succ])
        (refine wpAnyH_take (i := 10) (v := ?_) rfl (by kernel_rfl) (by kernel_rfl) (by kernel_rfl) (fun _ _ _ h => h) (Or.inl ⟨by rfl, by intro w hSw; (try dsimp only at hSw); go_simp; try with_reducible rfl⟩) (by assumption) ?_; try simp only [Act.put, List.getElem_toArray, List.getElem_cons_zero, List.getElem_cons_succ, List.setIfInBounds_toArray, List.set_cons_zero, List.set_cons_succ])
        (refine wpAnyH_take (i := 11) (v := ?_) rfl (by kernel_rfl) (by kernel_rfl) (by kernel_rfl) (fun _ _ _ h => h) (Or.inl ⟨by rfl, by intro w hSw; (try dsimp only at hSw); go_simp; try with_reducible rfl⟩) (by assumption) ?_; try simp only [Act.put, List.getElem_toArray, List.getElem_cons_zero, List.getElem_cons_succ, List.setIfInBounds_toArray, List.set_cons_zero, List.set_cons_succ])
        (refine wpAnyH_ready (rs := [3]) (by kernel_rfl) (by simp) (AllReadyH.cons rfl (fun K hK => ?_) AllReadyH.nil); rw [if_pos (by rfl)]; simp only [List.getElem_toArray, List.getElem_cons_zero, List.getElem_cons_succ]; go_wp2_with ((go_at_call 59; refine (l1Num_big x _ (by omega) (by omega)).mono ?_; rintro e w5 ⟨rfl, hb5⟩; have hS5 := And.intro (stay hb5 hHeld.1) (And.intro (stay hb5 hHeld.2.1) (And.intro (stay hb5 hHeld.2.2.1) (bel_call hHeld.2.2.2 hb5))))); refine hK.out _ _ hS5 (fun hHeld => ?_); clear hK K; try simp only [Act.put, List.getElem_toArray, List.getElem_cons_zero, List.getElem_cons_succ, List.setIfInBounds_toArray, List.set_cons_zero, List.set_cons_succ])
        (refine wpAnyH_take (i := 4) (v := ?_) rfl (by kernel_rfl) (by kernel_rfl) (by kernel_rfl) (fun _ _ _ h => h) (Or.inl ⟨by rfl, by intro w hSw; (try dsimp only at hSw); go_simp; try with_reducible rfl⟩) (by assumption) ?_; try simp only [Act.put, List.getElem_toArray, List.getElem_cons_zero, List.getElem_cons_succ, List.setIfInBounds_toArray, List.set_cons_zero, List.set_cons_succ])
        (refine wpAnyH_ready (rs := [7]) (by kernel_rfl) (by simp) (AllReadyH.cons rfl (fun K hK => ?_) AllReadyH.nil); rw [if_pos (by rfl)]; simp only [List.getElem_toArray, List.getElem_cons_zero, List.getElem_cons_succ]; go_wp2_with ((go_at_call 59; refine (l1Num_big y _ (by omega) (by omega)).mono ?_; rintro e w6 ⟨rfl, hb6⟩; have hS6 := And.intro (stay hb6 hHeld.1) (And.intro (stay hb6 hHeld.2.1) (And.intro (stay hb6 hHeld.2.2.1) (bel_call hHeld.2.2.2 hb6))))); refine hK.out _ _ hS6 (fun hHeld => ?_); clear hK K; try simp only [Act.put, List.getElem_toArray, List.getElem_cons_zero, List.getElem_cons_succ, List.setIfInBounds_toArray, List.set_cons_zero, List.set_cons_succ])
        (refine wpAnyH_take (i := 8) (v := ?_) rfl (by kernel_rfl) (by kernel_rfl) (by kernel_rfl) (fun _ _ _ h => h) (Or.inl ⟨by rfl, by intro w hSw; (try dsimp only at hSw); go_simp; try with_reducible rfl⟩) (by assumption) ?_; try simp only [Act.put, List.getElem_toArray, List.getElem_cons_zero, List.getElem_cons_succ, List.setIfInBounds_toArray, List.set_cons_zero, List.set_cons_succ])
        (refine wpAnyH_take (i := 9) (v := ?_) rfl (by kernel_rfl) (by kernel_rfl) (by kernel_rfl) (fun _ _ _ h => h) (Or.inl ⟨by rfl, by intro w hSw; (try dsimp only at hSw); go_simp; try with_reducible rfl⟩) (by assumption) ?_; try simp only [Act.put, List.getElem_toArray, List.getElem_cons_zero, List.getElem_cons_succ, List.setIfInBounds_toArray, List.set_cons_zero, List.set_cons_succ])
        (refine wpAnyH_ready (rs := [12]) (by kernel_rfl) (by simp) (AllReadyH.cons rfl (fun K hK => ?_) AllReadyH.nil); rw [if_pos (by rfl)]; simp only [List.getElem_toArray, List.getElem_cons_zero, List.getElem_cons_succ]; go_wp2_with ((go_at_call 59; refine (l1Num_big z _ (by omega) (by omega)).mono ?_; rintro e w7 ⟨rfl, hb7⟩; have hS7 := And.intro (stay hb7 hHeld.1) (And.intro (stay hb7 hHeld.2.1) (And.intro (stay hb7 hHeld.2.2.1) (bel_call hHeld.2.2.2 hb7))))); refine hK.out _ _ hS7 (fun hHeld => ?_); clear hK K; try simp only [Act.put, List.getElem_toArray, List.getElem_cons_zero, List.getElem_cons_succ, List.setIfInBounds_toArray, List.set_cons_zero, List.set_cons_succ])
        (refine wpAnyH_take (i := 13) (v := ?_) rfl (by kernel_rfl) (by kernel_rfl) (by kernel_rfl) (fun _ _ _ h => h) (Or.inl ⟨by rfl, by intro w hSw; (try dsimp only at hSw); go_simp; try with_reducible rfl⟩) (by assumption) ?_; try simp only [Act.put, List.getElem_toArray, List.getElem_cons_zero, List.getElem_cons_succ, List.setIfInBounds_toArray, List.set_cons_zero, List.set_cons_succ])
        (refine wpAnyH_take (i := 14) (v := ?_) rfl (by kernel_rfl) (by kernel_rfl) (by kernel_rfl) (fun _ _ _ h => h) (Or.inl ⟨by rfl, by intro w hSw; (try dsimp only at hSw); go_simp; try with_reducible rfl⟩) (by assumption) ?_; try simp only [Act.put, List.getElem_toArray, List.getElem_cons_zero, List.getElem_cons_succ, List.setIfInBounds_toArray, List.set_cons_zero, List.set_cons_succ])
        (refine wpAnyH_take (i := 15) (v := ?_) rfl (by kernel_rfl) (by kernel_rfl) (by kernel_rfl) (fun _ _ _ h => h) (Or.inl ⟨by rfl, by intro w hSw; (try dsimp only at hSw); go_simp; try with_reducible rfl⟩) (by assumption) ?_; try simp only [Act.put, List.getElem_toArray, List.getElem_cons_zero, List.getElem_cons_succ, List.setIfInBounds_toArray, List.set_cons_zero, List.set_cons_succ])
        refine wpAnyH_done (by kernel_rfl) ?_ _
        have HB4 := Lib.hid hHeld.2.2.2
        clear hHeld
        go_wp2_with fail
        go_roundw
        case rel => exact ⟨0 + 1, by omega, by go_num, by rw [HSK.out], HB4.out⟩
        case measure => simp [intOf]; omega
      · rw [if_neg h0] at ht1
        subst ht1
        have hki : (0 : Int) < (k : Int) := by omega
        go_wp2_with fail
        clear hW1
        refine wp_region_held_drew (S := (fun W => W.cell? ⟨wr.heap.size, 0, none⟩ = some (.int .i64 x) ∧ W.cell? ⟨wr.heap.size, 1, none⟩ = some (.int .i64 y) ∧ W.cell? ⟨wr.heap.size, 2, none⟩ = some (.int .i64 z) ∧ Below w.heap.size w W)) (by kernel_rfl) ⟨q0, q1, q2, bel_drew hB1⟩ (fun hHeld => ?_)
        clear q0 q1 q2 hB1
        (refine wpAnyH_take (i := 0) (v := ?_) rfl (by kernel_rfl) (by kernel_rfl) (by kernel_rfl) (fun _ _ _ h => h) (Or.inl ⟨by rfl, by intro w hSw; (try dsimp only at hSw); go_simp; try with_reducible rfl⟩) (by assumption) ?_; try simp only [Act.put, List.getElem_toArray, List.getElem_cons_zero, List.setIfInBounds_toArray, List.set_cons_zero, List.set_cons_succ])
        (refine wpAnyH_take (i := 1) (v := ?_) rfl (by kernel_rfl) (by kernel_rfl) (by kernel_rfl) (fun _ _ _ h => h) (Or.inl ⟨by rfl, by intro w hSw; (try dsimp only at hSw); go_simp; try with_reducible rfl⟩) (by assumption) ?_; try simp only [Act.put, List.getElem_toArray, List.getElem_cons_zero, List.getElem_cons_succ, List.setIfInBounds_toArray, List.set_cons_zero, List.set_cons_succ])
        (refine wpAnyH_take (i := 2) (v := ?_) rfl (by kernel_rfl) (by kernel_rfl) (by kernel_rfl) (fun _ _ _ h => h) (Or.inl ⟨by rfl, by intro w hSw; (try dsimp only at hSw); go_simp; try with_reducible rfl⟩) (by assumption) ?_; try simp only [Act.put, List.getElem_toArray, List.getElem_cons_zero, List.getElem_cons_succ, List.setIfInBounds_toArray, List.set_cons_zero, List.set_cons_succ])
        (refine wpAnyH_take (i := 5) (v := ?_) rfl (by kernel_rfl) (by kernel_rfl) (by kernel_rfl) (fun _ _ _ h => h) (Or.inl ⟨by rfl, by intro w hSw; (try dsimp only at hSw); go_simp; try with_reducible rfl⟩) (by assumption) ?_; try simp only [Act.put, List.getElem_toArray, List.getElem_cons_zero, List.getElem_cons_succ, List.setIfInBounds_toArray, List.set_cons_zero, List.set_cons_succ])
        (refine wpAnyH_take (i := 6) (v := ?_) rfl (by kernel_rfl) (by kernel_rfl) (by kernel_rfl) (fun _ _ _ h => h) (Or.inl ⟨by rfl, by intro w hSw; (try dsimp only at hSw); go_simp; try with_reducible rfl⟩) (by assumption) ?_; try simp only [Act.put, List.getElem_toArray, List.getElem_cons_zero, List.getElem_cons_succ, List.setIfInBounds_toArray, List.set_cons_zero, List.set_cons_succ])
        (refine wpAnyH_take (i := 10) (v := ?_) rfl (by kernel_rfl) (by kernel_rfl) (by kernel_rfl) (fun _ _ _ h => h) (Or.inl ⟨by rfl, by intro w hSw; (try dsimp only at hSw); go_simp; try with_reducible rfl⟩) (by assumption) ?_; try simp only [Act.put, List.getElem_toArray, List.getElem_cons_zero, List.getElem_cons_succ, List.setIfInBounds_toArray, List.set_cons_zero, List.set_cons_succ])
        (refine wpAnyH_take (i := 11) (v := ?_) rfl (by kernel_rfl) (by kernel_rfl) (by kernel_rfl) (fun _ _ _ h => h) (Or.inl ⟨by rfl, by intro w hSw; (try dsimp only at hSw); go_simp; try with_reducible rfl⟩) (by assumption) ?_; try simp only [Act.put, List.getElem_toArray, List.getElem_cons_zero, List.getElem_cons_succ, List.setIfInBounds_toArray, List.set_cons_zero, List.set_cons_succ])
        (refine wpAnyH_ready (rs := [3]) (by kernel_rfl) (by simp) (AllReadyH.cons rfl (fun K hK => ?_) AllReadyH.nil); rw [if_pos (by rfl)]; simp only [List.getElem_toArray, List.getElem_cons_zero, List.getElem_cons_succ]; go_wp2_with ((go_at_call 59; refine (l1Num_big x _ (by omega) (by omega)).mono ?_; rintro e w5 ⟨rfl, hb5⟩; have hS5 := And.intro (stay hb5 hHeld.1) (And.intro (stay hb5 hHeld.2.1) (And.intro (stay hb5 hHeld.2.2.1) (bel_call hHeld.2.2.2 hb5))))); refine hK.out _ _ hS5 (fun hHeld => ?_); clear hK K; try simp only [Act.put, List.getElem_toArray, List.getElem_cons_zero, List.getElem_cons_succ, List.setIfInBounds_toArray, List.set_cons_zero, List.set_cons_succ])
        (refine wpAnyH_take (i := 4) (v := ?_) rfl (by kernel_rfl) (by kernel_rfl) (by kernel_rfl) (fun _ _ _ h => h) (Or.inl ⟨by rfl, by intro w hSw; (try dsimp only at hSw); go_simp; try with_reducible rfl⟩) (by assumption) ?_; try simp only [Act.put, List.getElem_toArray, List.getElem_cons_zero, List.getElem_cons_succ, List.setIfInBounds_toArray, List.set_cons_zero, List.set_cons_succ])
        (refine wpAnyH_ready (rs := [7]) (by kernel_rfl) (by simp) (AllReadyH.cons rfl (fun K hK => ?_) AllReadyH.nil); rw [if_pos (by rfl)]; simp only [List.getElem_toArray, List.getElem_cons_zero, List.getElem_cons_succ]; go_wp2_with ((go_at_call 59; refine (l1Num_big y _ (by omega) (by omega)).mono ?_; rintro e w6 ⟨rfl, hb6⟩; have hS6 := And.intro (stay hb6 hHeld.1) (And.intro (stay hb6 hHeld.2.1) (And.intro (stay hb6 hHeld.2.2.1) (bel_call hHeld.2.2.2 hb6))))); refine hK.out _ _ hS6 (fun hHeld => ?_); clear hK K; try simp only [Act.put, List.getElem_toArray, List.getElem_cons_zero, List.getElem_cons_succ, List.setIfInBounds_toArray, List.set_cons_zero, List.set_cons_succ])
        (refine wpAnyH_take (i := 8) (v := ?_) rfl (by kernel_rfl) (by kernel_rfl) (by kernel_rfl) (fun _ _ _ h => h) (Or.inl ⟨by rfl, by intro w hSw; (try dsimp only at hSw); go_simp; try with_reducible rfl⟩) (by assumption) ?_; try simp only [Act.put, List.getElem_toArray, List.getElem_cons_zero, List.getElem_cons_succ, List.setIfInBounds_toArray, List.set_cons_zero, List.set_cons_succ])
        (refine wpAnyH_take (i := 9) (v := ?_) rfl (by kernel_rfl) (by kernel_rfl) (by kernel_rfl) (fun _ _ _ h => h) (Or.inl ⟨by rfl, by intro w hSw; (try dsimp only at hSw); go_simp; try with_reducible rfl⟩) (by assumption) ?_; try simp only [Act.put, List.getElem_toArray, List.getElem_cons_zero, List.getElem_cons_succ, List.setIfInBounds_toArray, List.set_cons_zero, List.set_cons_succ])
        (refine wpAnyH_ready (rs := [12]) (by kernel_rfl) (by simp) (AllReadyH.cons rfl (fun K hK => ?_) AllReadyH.nil); rw [if_pos (by rfl)]; simp only [List.getElem_toArray, List.getElem_cons_zero, List.getElem_cons_succ]; go_wp2_with ((go_at_call 59; refine (l1Num_big z _ (by omega) (by omega)).mono ?_; rintro e w7 ⟨rfl, hb7⟩; have hS7 := And.intro (stay hb7 hHeld.1) (And.intro (stay hb7 hHeld.2.1) (And.intro (stay hb7 hHeld.2.2.1) (bel_call hHeld.2.2.2 hb7))))); refine hK.out _ _ hS7 (fun hHeld => ?_); clear hK K; try simp only [Act.put, List.getElem_toArray, List.getElem_cons_zero, List.getElem_cons_succ, List.setIfInBounds_toArray, List.set_cons_zero, List.set_cons_succ])
        (refine wpAnyH_take (i := 13) (v := ?_) rfl (by kernel_rfl) (by kernel_rfl) (by kernel_rfl) (fun _ _ _ h => h) (Or.inl ⟨by rfl, by intro w hSw; (try dsimp only at hSw); go_simp; try with_reducible rfl⟩) (by assumption) ?_; try simp only [Act.put, List.getElem_toArray, List.getElem_cons_zero, List.getElem_cons_succ, List.setIfInBounds_toArray, List.set_cons_zero, List.set_cons_succ])
        (refine wpAnyH_take (i := 14) (v := ?_) rfl (by kernel_rfl) (by kernel_rfl) (by kernel_rfl) (fun _ _ _ h => h) (Or.inl ⟨by rfl, by intro w hSw; (try dsimp only at hSw); go_simp; try with_reducible rfl⟩) (by assumption) ?_; try simp only [Act.put, List.getElem_toArray, List.getElem_cons_zero, List.getElem_cons_succ, List.setIfInBounds_toArray, List.set_cons_zero, List.set_cons_succ])
        (refine wpAnyH_take (i := 15) (v := ?_) rfl (by kernel_rfl) (by kernel_rfl) (by kernel_rfl) (fun _ _ _ h => h) (Or.inl ⟨by rfl, by intro w hSw; (try dsimp only at hSw); go_simp; try with_reducible rfl⟩) (by assumption) ?_; try simp only [Act.put, List.getElem_toArray, List.getElem_cons_zero, List.getElem_cons_succ, List.setIfInBounds_toArray, List.set_cons_zero, List.set_cons_succ])
        refine wpAnyH_done (by kernel_rfl) ?_ _
        have HB4 := Lib.hid hHeld.2.2.2
        clear hHeld
        go_wp2_with fail
        go_roundw
        case rel => exact ⟨k + 1, by omega, by go_num, by rw [HSK.out], HB4.out⟩
        case measure => simp [intOf]; omega
    · obtain rfl : k = n := by omega
      go_wp2_with fail
      go_ret
      exact ⟨rfl, HB.out⟩

end Go.Proofs.YtgdjbclkdnmebaaDoor
