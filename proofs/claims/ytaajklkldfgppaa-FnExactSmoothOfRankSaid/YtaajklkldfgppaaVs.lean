/- Whether pins have all depths of others, and whether a key opens, as the model and the program tell it. For at most 9 depths and 7 places. -/
import Derived.Test.YtaajklkldfgppaaVr
namespace Go.Proofs.Ytaajklkldfgppaa
open Go.ChangeShapes Go.WideShapes Go.ChangeAt Go.RowKit Go.Joins

/-- The same masks. -/
def sameM (f g : Nat → Nat) : Bool := decide (f 0 = g 0) && decide (f 1 = g 1) && decide (f 2 = g 2) && decide (f 3 = g 3) && decide (f 4 = g 4) && decide (f 5 = g 5) && decide (f 6 = g 6)

/-- All depths of others. -/
def hasM (dn : Nat) (ks ls : List (List Int)) (n : Nat) : Bool := sameM (mkP (jnL (fun x y => x && y) dn ks ls n)) (mkP ls)

theorem size_intV (w : World) : (sizeOf (3 : TypeId)).run Try.prog w = .ok 1 w := by kernel_rfl

set_option maxHeartbeats 4000000 in
theorem eqIn_cuts (d : Nat) (x0 x1 x2 x3 x4 x5 x6 y0 y1 y2 y3 y4 y5 y6 : Int) (w : World) : (Op.equalIn (d + 2) 76 (.agg #[.int .i64 x0, .int .i64 x1, .int .i64 x2, .int .i64 x3, .int .i64 x4, .int .i64 x5, .int .i64 x6]) (.agg #[.int .i64 y0, .int .i64 y1, .int .i64 y2, .int .i64 y3, .int .i64 y4, .int .i64 y5, .int .i64 y6])).run Try.prog w = .ok (decide (x0 = y0) && decide (x1 = y1) && decide (x2 = y2) && decide (x3 = y3) && decide (x4 = y4) && decide (x5 = y5) && decide (x6 = y6)) w := by
  have hu : Try.prog.underlying 76 = some (.array 7 3) := by kernel_rfl
  rw [Op.equalIn]
  simp only [Sem.run_bind, run_underlying hu, Result.andThen_ok, size_intV]
  rw [Std.Legacy.Range.forIn_eq_forIn_range']
  have hr : List.range' 0 (Std.Legacy.Range.size [0:7]) = [0, 1, 2, 3, 4, 5, 6] := by decide
  rw [hr]
  by_cases h0 : x0 = y0
  · by_cases h1 : x1 = y1
    · by_cases h2 : x2 = y2
      · by_cases h3 : x3 = y3
        · by_cases h4 : x4 = y4
          · by_cases h5 : x5 = y5
            · by_cases h6 : x6 = y6
              · simp [List.forIn_cons, go_sem, h0, h1, h2, h3, h4, h5, h6]
              · simp [List.forIn_cons, go_sem, h0, h1, h2, h3, h4, h5, h6]
            · simp [List.forIn_cons, go_sem, h0, h1, h2, h3, h4, h5]
          · simp [List.forIn_cons, go_sem, h0, h1, h2, h3, h4]
        · simp [List.forIn_cons, go_sem, h0, h1, h2, h3]
      · simp [List.forIn_cons, go_sem, h0, h1, h2]
    · simp [List.forIn_cons, go_sem, h0, h1]
  · simp [List.forIn_cons, go_sem, h0]

theorem cast_dec (a b : Nat) : decide ((a : Int) = (b : Int)) = decide (a = b) := decide_eq_decide.2 (by omega)

theorem eqIn_masks (f g : Nat → Nat) (w : World) : (Op.equalIn 10000 76 (cutV fun j => (f j : Int)) (cutV fun j => (g j : Int))).run Try.prog w = .ok (sameM f g) w := by
  unfold cutV sameM
  rw [eqIn_cuts 9998]
  simp only [cast_dec]

theorem call_two {P : Program} {K : FuncId} {args : Array Value} {X : Ending → World → Prop} {w W : World} {g1 g2 : Nat} {x0 x1 x2 x3 : Value} (h : W.cell? ⟨g1, 0, none⟩ = some x0 ∧ W.cell? ⟨g1, 1, none⟩ = some x1 ∧ W.cell? ⟨g2, 0, none⟩ = some x2 ∧ W.cell? ⟨g2, 1, none⟩ = some x3 ∧ Below w.heap.size w W)
    (c : Calls P K args W fun e w' => X e w' ∧ Below W.heap.size W w') : Calls P K args W fun e w' => X e w' ∧ w'.cell? ⟨g1, 0, none⟩ = some x0 ∧ w'.cell? ⟨g1, 1, none⟩ = some x1 ∧ w'.cell? ⟨g2, 0, none⟩ = some x2 ∧ w'.cell? ⟨g2, 1, none⟩ = some x3 ∧ Below w.heap.size w w' :=
  c.mono fun _ w' ⟨he, hb⟩ => by
    obtain ⟨h0, h1, h2, h3, h4⟩ := h
    have keep : ∀ (p : Addr) x, W.cell? p = some x → w'.cell? p = some x := fun p x hx => (hb.cell (p := p) (World.block_lt_of_cell? W p hx)).trans hx
    exact ⟨he, keep _ _ h0, keep _ _ h1, keep _ _ h2, keep _ _ h3, bel_call h4 hb⟩

set_option maxRecDepth 100000 in
set_option maxHeartbeats 4000000 in
theorem has_any (dn : Nat) (d2 : Int) (A1 A2 : Option Addr) (n n2 c1' c2' : Nat) (ks ls : List (List Int)) (w : World) (hn : n ≤ 7) (hn2 : n2 ≤ 7) (hd : dn ≤ 9) (h1 : KnobsA w A1 n ks) (h2 : KnobsA w A2 n2 ls) (s1 : SmallP ks) (s2 : SmallP ls) :
    Calls Try.prog 33 #[.agg #[.int .i64 (dn : Int), .slice A1 n c1'], .agg #[.int .i64 d2, .slice A2 n2 c2']] w fun e w' => e = .returned (.bool (hasM dn ks ls n)) ∧ Below w.heap.size w w' := by
  have H1 := Lib.hid h1
  have H2 := Lib.hid h2
  have S1 := Lib.hid s1
  have S2 := Lib.hid s2
  have hB0 : Below w.heap.size w ((w.alloc (.cells #[.int .i64 (dn : Int), .slice A1 n c1'] 26)).alloc (.cells #[.int .i64 d2, .slice A2 n2 c2'] 26)) := by (repeat (first | assumption | exact Below.refl _ _ | (refine Below.alloc ?_ (by first | omega | (simp; done) | (simp; omega)) _) | (refine Below.setCell ?_ (by first | omega | (simp; done) | (simp; omega)) _) | refine bel_drewN ?_ _ | refine bel_drew ?_ | (refine bel_call ?_ (by assumption))))
  have d0 : ((w.alloc (.cells #[.int .i64 (dn : Int), .slice A1 n c1'] 26)).alloc (.cells #[.int .i64 d2, .slice A2 n2 c2'] 26)).cell? ⟨w.heap.size, 0, none⟩ = some (.int .i64 (dn : Int)) := ((Cells.new (n := 2) rfl rfl).alloc _).cell (show 0 < 2 by omega)
  have d1 : ((w.alloc (.cells #[.int .i64 (dn : Int), .slice A1 n c1'] 26)).alloc (.cells #[.int .i64 d2, .slice A2 n2 c2'] 26)).cell? ⟨w.heap.size, 1, none⟩ = some (.slice A1 n c1') := ((Cells.new (n := 2) rfl rfl).alloc _).cell (show 1 < 2 by omega)
  have d2' : ((w.alloc (.cells #[.int .i64 (dn : Int), .slice A1 n c1'] 26)).alloc (.cells #[.int .i64 d2, .slice A2 n2 c2'] 26)).cell? ⟨w.heap.size + 1, 0, none⟩ = some (.int .i64 d2) := (Cells.new (n := 2) (by simp) rfl).cell (show 0 < 2 by omega)
  have d3 : ((w.alloc (.cells #[.int .i64 (dn : Int), .slice A1 n c1'] 26)).alloc (.cells #[.int .i64 d2, .slice A2 n2 c2'] 26)).cell? ⟨w.heap.size + 1, 1, none⟩ = some (.slice A2 n2 c2') := (Cells.new (n := 2) (by simp) rfl).cell (show 1 < 2 by omega)
  have HSJ : Hid (SmallP (jnL (fun x y => x && y) dn ks ls n)) := Lib.hid (jnL_small hd)
  have HNJ : Hid (Nine (jnL (fun x y => x && y) dn ks ls n)) := Lib.hid (jnL_nine hd)
  have HLJ : Hid ((jnL (fun x y => x && y) dn ks ls n).length = n) := Lib.hid (jnL_length ..)
  have HHM : Hid (hasM dn ks ls n = sameM (mkP (jnL (fun x y => x && y) dn ks ls n)) (mkP ls)) := Lib.hid rfl
  rw [HHM.out]
  have HCO : Hid (∀ W, KnobsA W A1 n ks → KnobsA W A2 n2 ls → Calls Try.prog 65 #[.agg #[.int .i64 (dn : Int), .slice A1 n c1'], .agg #[.int .i64 d2, .slice A2 n2 c2']] W (PinsGot W dn (jnL (fun x y => x && y) dn ks ls n))) := Lib.hid (fun W a b => common_any dn d2 A1 A2 n n2 c1' c2' ks ls W hn hn2 hd a b S1.out S2.out)
  clear h1 h2 s1 s2 HHM
  generalize jnL (fun x y => x && y) dn ks ls n = K0 at HSJ HNJ HLJ HCO ⊢
  have HEQ := Lib.hid (fun W => eqIn_masks (mkP K0) (mkP ls) W)
  unfold cutV at HEQ
  generalize sameM (mkP K0) (mkP ls) = b at HEQ ⊢
  go_enter Try.func33, Try.ntmps33
  go_wp2_with fail
  refine wp_region_held_drew (S := (fun w' => w'.cell? ⟨w.heap.size, 0, none⟩ = some (.int .i64 (dn : Int)) ∧ w'.cell? ⟨w.heap.size, 1, none⟩ = some (.slice A1 n c1') ∧ w'.cell? ⟨w.heap.size + 1, 0, none⟩ = some (.int .i64 d2) ∧ w'.cell? ⟨w.heap.size + 1, 1, none⟩ = some (.slice A2 n2 c2') ∧ Below w.heap.size w w')) (by kernel_rfl) ⟨d0, d1, d2', d3, bel_drew hB0⟩ (fun hHeld => ?_)
  clear d0 d1 d2' d3 hB0
  (refine wpAnyH_take (i := 0) (v := ?_) rfl (by kernel_rfl) (by kernel_rfl) (by kernel_rfl) (fun _ _ _ h => h) (Or.inl ⟨by rfl, by intro w hSw; (try dsimp only at hSw); go_simp; try with_reducible rfl⟩) (by assumption) ?_; try simp only [Act.put, List.getElem_toArray, List.getElem_cons_zero, List.setIfInBounds_toArray, List.set_cons_zero, List.set_cons_succ])
  (refine wpAnyH_take (i := 1) (v := ?_) rfl (by kernel_rfl) (by kernel_rfl) (by kernel_rfl) (fun _ _ _ h => h) (Or.inl ⟨by rfl, by intro w hSw; (try dsimp only at hSw); go_simp; try with_reducible rfl⟩) (by assumption) ?_; try simp only [Act.put, List.getElem_toArray, List.getElem_cons_zero, List.getElem_cons_succ, List.setIfInBounds_toArray, List.set_cons_zero, List.set_cons_succ])
  (refine wpAnyH_take (i := 4) (v := ?_) rfl (by kernel_rfl) (by kernel_rfl) (by kernel_rfl) (fun _ _ _ h => h) (Or.inl ⟨by rfl, by intro w hSw; (try dsimp only at hSw); go_simp; try with_reducible rfl⟩) (by assumption) ?_; try simp only [Act.put, List.getElem_toArray, List.getElem_cons_zero, List.getElem_cons_succ, List.setIfInBounds_toArray, List.set_cons_zero, List.set_cons_succ])
  (refine wpAnyH_ready (rs := [2]) (by kernel_rfl) (by simp) (AllReadyH.cons rfl (fun K hK => ?_) AllReadyH.nil); rw [if_pos (by rfl)]; simp only [List.getElem_toArray, List.getElem_cons_zero, List.getElem_cons_succ]; go_wp2_with ((go_at_call 65; refine (call_two hHeld ((HCO.out _ (H1.out.below hHeld.2.2.2.2) (H2.out.below hHeld.2.2.2.2)).mono fun e w' ⟨v, h1, h2, h3⟩ => ⟨show ∃ v, e = .returned (.agg #[.int .i64 (dn : Int), v]) ∧ ∃ B, RowP w' B v K0 from ⟨v, h1, _, h2⟩, h3⟩)).mono ?_; rintro e w2 ⟨⟨v2, rfl, B2, hR2⟩, hS2⟩; obtain ⟨A3, c3, rfl⟩ := hR2.slice; rw [HLJ.out] at hR2 ⊢; have HR2 := Lib.hid hR2)); refine hK.out _ _ hS2 (fun hHeld => ?_); clear hK K; try simp only [Act.put, List.getElem_toArray, List.getElem_cons_zero, List.getElem_cons_succ, List.setIfInBounds_toArray, List.set_cons_zero, List.set_cons_succ])
  (refine wpAnyH_ready (rs := [3]) (by kernel_rfl) (by simp) (AllReadyH.cons rfl (fun K hK => ?_) AllReadyH.nil); rw [if_pos (by rfl)]; simp only [List.getElem_toArray, List.getElem_cons_zero, List.getElem_cons_succ]; go_wp2_with ((go_at_call 66; refine (call_two hHeld ((cuts_any _ _ _ _ K0 _ hn (HR2.out.knobs (nine_max HNJ.out)) HSJ.out).mono fun e w' h => h)).mono ?_; rintro e w3 ⟨rfl, hS3⟩; unfold cutV)); refine hK.out _ _ hS3 (fun hHeld => ?_); clear hK K; try simp only [Act.put, List.getElem_toArray, List.getElem_cons_zero, List.getElem_cons_succ, List.setIfInBounds_toArray, List.set_cons_zero, List.set_cons_succ])
  (refine wpAnyH_ready (rs := [5]) (by kernel_rfl) (by simp) (AllReadyH.cons rfl (fun K hK => ?_) AllReadyH.nil); rw [if_pos (by rfl)]; simp only [List.getElem_toArray, List.getElem_cons_zero, List.getElem_cons_succ]; go_wp2_with ((go_at_call 66; refine (call_two hHeld ((cuts_any _ _ _ _ ls _ hn2 (H2.out.below hHeld.2.2.2.2) S2.out).mono fun e w' h => h)).mono ?_; rintro e w4 ⟨rfl, hS4⟩; unfold cutV)); refine hK.out _ _ hS4 (fun hHeld => ?_); clear hK K; try simp only [Act.put, List.getElem_toArray, List.getElem_cons_zero, List.getElem_cons_succ, List.setIfInBounds_toArray, List.set_cons_zero, List.set_cons_succ])
  have e1 := HEQ.out
  (refine wpAnyH_take (i := 6) (v := .bool b) rfl (by kernel_rfl) (by kernel_rfl) (by kernel_rfl) (fun _ _ _ h => h) (Or.inl ⟨by rfl, by intro w hSw; (try dsimp only at hSw); (simp only [execOp]; go_simp)⟩) (by assumption) ?_; try simp only [Act.put, List.getElem_toArray, List.getElem_cons_zero, List.getElem_cons_succ, List.setIfInBounds_toArray, List.set_cons_zero, List.set_cons_succ])
  (refine wpAnyH_take (i := 7) (v := ?_) rfl (by kernel_rfl) (by kernel_rfl) (by kernel_rfl) (fun _ _ _ h => h) (Or.inl ⟨by rfl, by intro w hSw; (try dsimp only at hSw); go_simp; try with_reducible rfl⟩) (by assumption) ?_; try simp only [Act.put, List.getElem_toArray, List.getElem_cons_zero, List.getElem_cons_succ, List.setIfInBounds_toArray, List.set_cons_zero, List.set_cons_succ])
  refine wpAnyH_done (by kernel_rfl) ?_ _
  go_wp2_with fail
  go_ret
  exact ⟨rfl, hS4.2.2.2.2⟩

end Go.Proofs.Ytaajklkldfgppaa
