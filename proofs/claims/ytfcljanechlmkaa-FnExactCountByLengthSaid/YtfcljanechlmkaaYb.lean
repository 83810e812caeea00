/- Dials: the program's own functions on a dial, a value of two numbers. For dials of 2 to 100 marks where a number is taken around. -/
import Derived.Test.YtfcljanechlmkaaYa
namespace Go.Proofs.Ytfcljanechlmkaa
open Go.ChangeShapes Go.WideShapes Go.ChangeAt Go.RowKit Go.Joins

theorem loadVar_cells {P : Program} {w : World} {g : Nat} {ty : TypeId} {vs : List Value} {d : TypeDesc} (hc : ∀ j v, vs[j]? = some v → w.cell? ⟨g, j, none⟩ = some v)
    (hu : P.underlying ty = some d) (hd : (match d with | .struct _ | .array _ _ => true | _ => false) = true) (hi : (P.info? ty).map (·.size) = some vs.length) :
    (loadVar ty ⟨g, 0, none⟩).run P w = .ok (.agg vs.toArray) w := by
  have hl : (loadCells ⟨g, 0, none⟩ vs.length).run P w = .ok vs.toArray w :=
    run_loadCells_list (P := P) w ⟨g, 0, none⟩ vs (fun j v hv => by
      have hadd : (⟨g, 0, none⟩ : Addr).add j = ⟨g, j, none⟩ := by unfold Addr.add; split <;> simp_all
      rw [hadd]
      exact hc j v hv)
  cases hq : P.info? ty with
  | none => simp [hq] at hi
  | some i =>
    have hs : i.size = vs.length := by simpa [hq] using hi
    have hagg : (isAgg ty).run P w = .ok true w := by
      unfold isAgg
      rw [Sem.run_bind, run_underlying hu w]
      cases d <;> simp_all
    simp [loadVar, Sem.run_bind, hagg, sizeOf, typeInfo, hq, hs, hl]

theorem dial_res {fn : Func} {p : Tmp} (hf : fn.results = #[.cell p 46]) (tmps : Array Value) (w : World) (g : Nat) (x y : Int) (hp : tmps.getD p undef = .pointer (some ⟨g, 0, none⟩)) (h0 : w.cell? ⟨g, 0, none⟩ = some (.int .i64 x)) (h1 : w.cell? ⟨g, 1, none⟩ = some (.int .i64 y)) :
    (results fn tmps).run Try.prog w = .ok (.agg #[.int .i64 x, .int .i64 y]) w := by
  have hp' : tmps[p]?.getD undef = .pointer (some ⟨g, 0, none⟩) := by simpa using hp
  have hl := loadVar_cells (P := Try.prog) (w := w) (g := g) (ty := 46) (vs := [.int .i64 x, .int .i64 y]) (fun j v hv => by
    match j, hv with
    | 0, hv => cases hv; exact h0
    | 1, hv => cases hv; exact h1) Try.underlying46 rfl (by kernel_rfl)
  simp [results, hf, hp', asAddr, hl]

theorem reading_any (m r x : Int) (w : World) :
    Calls Try.prog 65 #[.agg #[.int .i64 m, .int .i64 r], .int .i64 x] w fun e w' => e = .returned (.agg #[.int .i64 m, .int .i64 x]) ∧ Below w.heap.size w w' := by
  go_enter Try.func65, Try.ntmps65
  go_wp2_with (go_at_call 96; refine (marks_any _ _ _).mono ?_; rintro e w1 ⟨rfl, hb⟩; obtain ⟨hc, hf, hz⟩ := bcell hb; have hz0 : w.heap.size < w1.heap.size := by (try simp at hz); omega)
  have C1 := (Cells.new (W := w.alloc (.cells #[.int .i64 m, .int .i64 r] 46)) (cs := #[.int .i64 0, .int .i64 0]) (t := 46) (g := w.heap.size + 1) (n := 2) (by simp) rfl).call hb
  have C2 := (C1.set_ (show 0 < 2 by omega) (.int .i64 m)).set_ (show 1 < 2 by omega) (.int .i64 x)
  refine bodyPost_ret (v := .agg #[.int .i64 m, .int .i64 x]) (dial_res Try.results65 _ _ (w.heap.size + 1) _ _ rfl (C2.cell (show 0 < 2 by omega)) (C2.cell (show 1 < 2 by omega))) rfl ⟨rfl, ?_⟩
  (repeat (first | assumption | exact Below.refl _ _ | (refine Below.alloc ?_ (by first | omega | (simp; done) | (simp; omega)) _) | (refine Below.setCell ?_ (by first | omega | (simp; done) | (simp; omega)) _) | refine bel_drewN ?_ _ | refine bel_drew ?_ | (refine bel_call ?_ (by assumption))))

/-- A dial in a block of its own. -/
def DialAt (w0 : World) (m r : Int) (w' : World) : Prop := w'.cell? ⟨w0.heap.size, 0, none⟩ = some (.int .i64 m) ∧ w'.cell? ⟨w0.heap.size, 1, none⟩ = some (.int .i64 r) ∧ Below w0.heap.size w0 w' ∧ w0.heap.size < w'.heap.size

theorem DialAt.new (w : World) (m r : Int) : DialAt w m r (w.alloc (.cells #[.int .i64 m, .int .i64 r] 46)) := ⟨by simp, by simp, by (repeat (first | assumption | exact Below.refl _ _ | (refine Below.alloc ?_ (by first | omega | (simp; done) | (simp; omega)) _) | (refine Below.setCell ?_ (by first | omega | (simp; done) | (simp; omega)) _) | refine bel_drewN ?_ _ | refine bel_drew ?_ | (refine bel_call ?_ (by assumption)))), by simp⟩

theorem DialAt.drew {w0 w : World} {m r : Int} (h : DialAt w0 m r w) : DialAt w0 m r w.drew := ⟨h.1, h.2.1, bel_drew h.2.2.1, h.2.2.2⟩

set_option maxHeartbeats 1000000 in
theorem isValid_any (m r : Int) (w : World) :
    Calls Try.prog 58 #[.agg #[.int .i64 m, .int .i64 r]] w fun e w' => e = .returned (.bool (dmB m r)) ∧ Below w.heap.size w w' := by
  have h' := @marks_yes m
  obtain ⟨u, HM⟩ : ∃ u, Hid (marksB m = u) := ⟨_, Lib.hid rfl⟩
  have HV : Hid (dmB m r = (u && (decide (0 ≤ r) && decide (r < m)))) := Lib.hid (by rw [← HM.out]; unfold dmB marksB; rw [Bool.eq_iff_iff]; simp; omega)
  clear h'
  have D0 := DialAt.new w m r
  go_enter Try.func58, Try.ntmps58
  go_wp2_with fail
  obtain ⟨wo, e0⟩ : ∃ wo : World, wo = w.alloc (.cells #[.int .i64 m, .int .i64 r] 46) := ⟨_, rfl⟩
  rw [← e0] at D0 ⊢
  clear e0
  obtain ⟨d0, d1, dB, dz⟩ := D0
  rcases u with _ | _
  · first
    | (go_region_with (first | (go_at_call 96; refine (marks_any _ _ _).mono ?_; rintro e w1 ⟨rfl, hb⟩; obtain ⟨hc, hf, hz⟩ := bcell hb; have hz0 : w.heap.size < w1.heap.size := by (try simp at hz); omega) | (go_at_call 91; refine (areMarks_any _ _).mono ?_; rw [HM.out]; rintro e w2 ⟨rfl, rfl⟩)))
    | fail
    all_goals go_wp2
    all_goals go_ret
    all_goals exact ⟨ret_bool (by rw [HV.out]; rfl), bel_call (bel_drew dB) (by assumption)⟩
  · by_cases h1 : 0 ≤ r
    · go_region_held3 (fun w' => w'.cell? ⟨w.heap.size, 0, none⟩ = some (.int .i64 m) ∧ w'.cell? ⟨w.heap.size, 1, none⟩ = some (.int .i64 r) ∧ Below w.heap.size w w' ∧ w.heap.size < w'.heap.size) (first | assumption | exact ⟨d0, d1, bel_drew dB, dz⟩ | go_keep)
        (first | (go_at_call 96; refine (call_held2 (by assumption) (marks_any _ _ _)).mono ?_; rintro e w1 ⟨rfl, hS⟩) | (go_at_call 61; refine (call_held2 (by assumption) (read_any _ _ _)).mono ?_; rintro e w1 ⟨rfl, hS⟩) | (go_at_call 91; refine (areMarks_any _ _).mono ?_; rw [HM.out]; rintro e w2 ⟨rfl, rfl⟩))
      all_goals go_wp2
      all_goals go_ret
      all_goals exact ⟨ret_bool (by rw [HV.out, decide_eq_true h1]; simp), hS.2.2.1⟩
    · have h2 : decide (0 ≤ r) = false := decide_eq_false h1
      refine wp_region_held_drew (S := (fun w' => w'.cell? ⟨w.heap.size, 0, none⟩ = some (.int .i64 m) ∧ w'.cell? ⟨w.heap.size, 1, none⟩ = some (.int .i64 r) ∧ Below w.heap.size w w' ∧ w.heap.size < w'.heap.size)) (by kernel_rfl) ⟨d0, d1, bel_drew dB, dz⟩ (fun hHeld => ?_)
      (refine wpAnyH_take (i := 0) (v := ?_) rfl (by kernel_rfl) (by kernel_rfl) (by kernel_rfl) (fun _ _ _ h => h) (Or.inl ⟨by rfl, by intro w hSw; (try dsimp only at hSw); go_simp; try with_reducible rfl⟩) (by assumption) ?_; try simp only [Act.put, List.getElem_toArray, List.getElem_cons_zero, List.setIfInBounds_toArray, List.set_cons_zero, List.set_cons_succ])
      (refine wpAnyH_ready (rs := [1]) (by kernel_rfl) (by simp) (AllReadyH.cons rfl (fun K hK => ?_) AllReadyH.nil); rw [if_pos (by rfl)]; simp only [List.getElem_toArray, List.getElem_cons_zero, List.getElem_cons_succ]; go_wp2_with ((go_at_call 96; refine (call_held2 hHeld (marks_any _ _ _)).mono ?_; rintro e w1 ⟨rfl, hS1⟩)); refine hK.out _ _ hS1 (fun hHeld => ?_); clear hK K; try simp only [Act.put, List.getElem_toArray, List.getElem_cons_zero, List.getElem_cons_succ, List.setIfInBounds_toArray, List.set_cons_zero, List.set_cons_succ])
      (refine wpAnyH_ready (rs := [2]) (by kernel_rfl) (by simp) (AllReadyH.cons rfl (fun K hK => ?_) AllReadyH.nil); rw [if_pos (by rfl)]; simp only [List.getElem_toArray, List.getElem_cons_zero, List.getElem_cons_succ]; go_wp2_with ((go_at_call 91; refine (areMarks_any _ _).mono ?_; rw [HM.out]; rintro e w2 ⟨rfl, rfl⟩)); refine hK.out _ _ hS1 (fun hHeld => ?_); clear hK K; try simp only [Act.put, List.getElem_toArray, List.getElem_cons_zero, List.getElem_cons_succ, List.setIfInBounds_toArray, List.set_cons_zero, List.set_cons_succ])
      (refine wpAnyH_take (i := 3) (v := ?_) rfl (by kernel_rfl) (by kernel_rfl) (by kernel_rfl) (fun _ _ _ h => h) (Or.inl ⟨by rfl, by intro w hSw; (try dsimp only at hSw); go_simp; try with_reducible rfl⟩) (by assumption) ?_; try simp only [Act.put, List.getElem_toArray, List.getElem_cons_zero, List.getElem_cons_succ, List.setIfInBounds_toArray, List.set_cons_zero, List.set_cons_succ])
      (refine wpAnyH_take (i := 4) (v := ?_) rfl (by kernel_rfl) (by kernel_rfl) (by kernel_rfl) (fun _ _ _ h => h) (Or.inl ⟨by rfl, by intro w hSw; (try dsimp only at hSw); go_simp; try with_reducible rfl⟩) (by assumption) ?_; try simp only [Act.put, List.getElem_toArray, List.getElem_cons_zero, List.getElem_cons_succ, List.setIfInBounds_toArray, List.set_cons_zero, List.set_cons_succ])
      (refine wpAnyH_ready (rs := [5]) (by kernel_rfl) (by simp) (AllReadyH.cons rfl (fun K hK => ?_) AllReadyH.nil); rw [if_pos (by rfl)]; simp only [List.getElem_toArray, List.getElem_cons_zero, List.getElem_cons_succ]; go_wp2_with ((go_at_call 61; refine (call_held2 hHeld (read_any _ _ _)).mono ?_; rintro e w3 ⟨rfl, hS3⟩)); refine hK.out _ _ hS3 (fun hHeld => ?_); clear hK K; try simp only [Act.put, List.getElem_toArray, List.getElem_cons_zero, List.getElem_cons_succ, List.setIfInBounds_toArray, List.set_cons_zero, List.set_cons_succ])
      (refine wpAnyH_take (i := 6) (v := .bool false) rfl (by kernel_rfl) (by kernel_rfl) (by kernel_rfl) (fun _ _ _ h => h) (Or.inl ⟨by rfl, by intro w hSw; (try dsimp only at hSw); go_simp⟩) (by assumption) ?_; try simp only [Act.put, List.getElem_toArray, List.getElem_cons_zero, List.getElem_cons_succ, List.setIfInBounds_toArray, List.set_cons_zero, List.set_cons_succ])
      (refine wpAnyH_take (i := 7) (v := ?_) rfl (by kernel_rfl) (by kernel_rfl) (by kernel_rfl) (fun _ _ _ h => h) (Or.inl ⟨by rfl, by intro w hSw; (try dsimp only at hSw); go_simp; try with_reducible rfl⟩) (by assumption) ?_; try simp only [Act.put, List.getElem_toArray, List.getElem_cons_zero, List.getElem_cons_succ, List.setIfInBounds_toArray, List.set_cons_zero, List.set_cons_succ])
      (refine wpAnyH_take (i := 8) (v := ?_) rfl (by kernel_rfl) (by kernel_rfl) (by kernel_rfl) (fun _ _ _ h => h) (Or.inl ⟨by rfl, by intro w hSw; (try dsimp only at hSw); go_simp; try with_reducible rfl⟩) (by assumption) ?_; try simp only [Act.put, List.getElem_toArray, List.getElem_cons_zero, List.getElem_cons_succ, List.setIfInBounds_toArray, List.set_cons_zero, List.set_cons_succ])
      (refine wpAnyH_take (i := 9) (v := undef) rfl (by kernel_rfl) (by kernel_rfl) (by kernel_rfl) (fun _ _ _ h => h) (Or.inr ⟨by rfl, rfl⟩) (by assumption) ?_; try simp only [Act.put, List.getElem_toArray, List.getElem_cons_zero, List.getElem_cons_succ, List.setIfInBounds_toArray, List.set_cons_zero, List.set_cons_succ])
      (refine wpAnyH_take (i := 10) (v := undef) rfl (by kernel_rfl) (by kernel_rfl) (by kernel_rfl) (fun _ _ _ h => h) (Or.inr ⟨by rfl, rfl⟩) (by assumption) ?_; try simp only [Act.put, List.getElem_toArray, List.getElem_cons_zero, List.getElem_cons_succ, List.setIfInBounds_toArray, List.set_cons_zero, List.set_cons_succ])
      (refine wpAnyH_take (i := 11) (v := undef) rfl (by kernel_rfl) (by kernel_rfl) (by kernel_rfl) (fun _ _ _ h => h) (Or.inr ⟨by rfl, rfl⟩) (by assumption) ?_; try simp only [Act.put, List.getElem_toArray, List.getElem_cons_zero, List.getElem_cons_succ, List.setIfInBounds_toArray, List.set_cons_zero, List.set_cons_succ])
      (refine wpAnyH_take (i := 12) (v := undef) rfl (by kernel_rfl) (by kernel_rfl) (by kernel_rfl) (fun _ _ _ h => h) (Or.inr ⟨by rfl, rfl⟩) (by assumption) ?_; try simp only [Act.put, List.getElem_toArray, List.getElem_cons_zero, List.getElem_cons_succ, List.setIfInBounds_toArray, List.set_cons_zero, List.set_cons_succ])
      (refine wpAnyH_take (i := 13) (v := undef) rfl (by kernel_rfl) (by kernel_rfl) (by kernel_rfl) (fun _ _ _ h => h) (Or.inr ⟨by rfl, rfl⟩) (by assumption) ?_; try simp only [Act.put, List.getElem_toArray, List.getElem_cons_zero, List.getElem_cons_succ, List.setIfInBounds_toArray, List.set_cons_zero, List.set_cons_succ])
      (refine wpAnyH_take (i := 14) (v := ?_) rfl (by kernel_rfl) (by kernel_rfl) (by kernel_rfl) (fun _ _ _ h => h) (Or.inl ⟨by rfl, by intro w hSw; (try dsimp only at hSw); go_simp; try with_reducible rfl⟩) (by assumption) ?_; try simp only [Act.put, List.getElem_toArray, List.getElem_cons_zero, List.getElem_cons_succ, List.setIfInBounds_toArray, List.set_cons_zero, List.set_cons_succ])
      (refine wpAnyH_take (i := 15) (v := ?_) rfl (by kernel_rfl) (by kernel_rfl) (by kernel_rfl) (fun _ _ _ h => h) (Or.inl ⟨by rfl, by intro w hSw; (try dsimp only at hSw); go_simp; try with_reducible rfl⟩) (by assumption) ?_; try simp only [Act.put, List.getElem_toArray, List.getElem_cons_zero, List.getElem_cons_succ, List.setIfInBounds_toArray, List.set_cons_zero, List.set_cons_succ])
      refine wpAnyH_done (by kernel_rfl) ?_ _
      go_wp2
      go_ret
      exact ⟨ret_bool (by rw [HV.out, h2]; simp), hS3.2.2.1⟩

set_option maxHeartbeats 1000000 in
theorem around_any (m r x : Int) (w : World) (h2 : 2 ≤ m) (h1 : m ≤ 100) :
    Calls Try.prog 88 #[.agg #[.int .i64 m, .int .i64 r], .int .i64 x] w fun e w' => e = .returned (.int .i64 (modI m x)) ∧ Below w.heap.size w w' := by
  obtain ⟨t1, t2, t3, t4⟩ := tmod_bdM h2 h1 x
  have HT := Lib.hid t4
  clear t4
  have hn0 : ¬ m = 0 := by omega
  have hw1 : IntKind.i64.wrap (x.tmod m) = x.tmod m := IntWalk.i64_in _ (by omega)
  have hw2 : IntKind.i64.wrap (x.tmod m + m) = x.tmod m + m := IntWalk.i64_in _ (by omega)
  have hw3 : IntKind.i64.wrap ((x.tmod m + m).tmod m) = modI m x := by rw [Int.tmod_eq_emod_of_nonneg t3, HT.out]; exact IntWalk.i64_in _ (by have := modI_bd h2 x; unfold modI at this; omega)
  have D0 := DialAt.new w m r
  obtain ⟨wo, e0⟩ : ∃ wo : World, wo = w.alloc (.cells #[.int .i64 m, .int .i64 r] 46) := ⟨_, rfl⟩
  by_cases hx : 0 ≤ x
  · have l := Int.emod_nonneg x (show m ≠ 0 by omega)
    have g := Int.emod_lt_of_pos x (show 0 < m by omega)
    go_enter Try.func88, Try.ntmps88
    go_wp2_with fail
    rw [← e0] at D0 ⊢
    clear e0
    obtain ⟨d0, d1, dB, dz⟩ := D0
    go_region_held3 (fun w' => w'.cell? ⟨w.heap.size, 0, none⟩ = some (.int .i64 m) ∧ w'.cell? ⟨w.heap.size, 1, none⟩ = some (.int .i64 r) ∧ Below w.heap.size w w' ∧ w.heap.size < w'.heap.size) (first | assumption | exact ⟨d0, d1, bel_drew dB, dz⟩ | go_keep)
      (first | (go_at_call 96; refine (call_held2 (by assumption) (marks_any _ _ _)).mono ?_; rintro e w1 ⟨rfl, hS⟩))
    all_goals go_wp2
    all_goals go_ret
    all_goals exact ⟨ret_int (by rw [Int.tmod_eq_emod_of_nonneg t3, HT.out]; rfl), hS.2.2.1⟩
  · go_enter Try.func88, Try.ntmps88
    go_wp2_with fail
    rw [← e0] at D0 ⊢
    clear e0
    obtain ⟨d0, d1, dB, dz⟩ := D0
    go_region_held3 (fun w' => w'.cell? ⟨w.heap.size, 0, none⟩ = some (.int .i64 m) ∧ w'.cell? ⟨w.heap.size, 1, none⟩ = some (.int .i64 r) ∧ Below w.heap.size w w' ∧ w.heap.size < w'.heap.size) (first | assumption | exact ⟨d0, d1, bel_drew dB, dz⟩ | go_keep)
      (first | (go_at_call 96; refine (call_held2 (by assumption) (marks_any _ _ _)).mono ?_; rintro e w1 ⟨rfl, hS⟩))
    all_goals go_wp2
    all_goals go_ret
    all_goals exact ⟨ret_int (by rw [Int.tmod_eq_emod_of_nonneg t3, HT.out]; rfl), hS.2.2.1⟩

end Go.Proofs.Ytfcljanechlmkaa
