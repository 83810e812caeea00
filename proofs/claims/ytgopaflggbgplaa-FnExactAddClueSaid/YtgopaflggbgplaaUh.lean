/- Whether a code fits a clue, as both programs tell it. No conditions. -/
import Derived.Test.YtgopaflggbgplaaUg
namespace Go.Proofs.Ytgopaflggbgplaa
open Go.ChangeShapes Go.WideShapes Go.ChangeAt Go.RowKit Go.Joins

theorem askC_0 {a b x : Int} (h : askC a b 0 x = true) : ∃ i : Nat, x = i ∧ (i : Int) ≤ a - 1 := by
  have := inB_yes (show inB x 0 (a - 1) = true from h)
  exact ⟨x.toNat, by omega, by omega⟩

theorem askC_c {a b x : Int} (hp : puzB a b = true) (h : inB x 0 (countZ a b - 1) = true) : ∃ i : Nat, x = i ∧ i < cnN a b := by
  have h1 := inB_yes h
  have h2 := puzB_cn hp
  exact ⟨x.toNat, by omega, by omega⟩

theorem askC_no {a b k x : Int} (h : askC a b k x = true) : k = 0 ∨ k = 1 ∨ k = 2 ∨ k = 3 ∨ k = 4 := by
  by_cases h0 : k = 0
  · exact .inl h0
  by_cases h1 : k = 1
  · exact .inr (.inl h1)
  by_cases h2 : k = 2
  · exact .inr (.inr (.inl h2))
  by_cases h3 : k = 3
  · exact .inr (.inr (.inr (.inl h3)))
  by_cases h4 : k = 4
  · exact .inr (.inr (.inr (.inr h4)))
  unfold askC at h
  rw [if_neg h0, if_neg h1, if_neg h2, if_neg h3, if_neg h4] at h
  cases h

/-- pzV of the kinds but the sum's: where it is told by a wheel, a number, a divisor. -/
theorem pzValue_any (a b k x : Int) (s : ByteArray) (w : World) (hp : puzB a b = true) (hs : askB a b s = true) (h : askC a b k x = true) (hk : k ≠ 1) :
    Calls Try.prog 57 #[.agg #[.int .i64 a, .int .i64 b], .int .i64 k, .int .i64 x, .string s] w fun e w' => e = .returned (.int .i64 (pzV a b k x s)) ∧ Below w.heap.size w w' := by
  have hA := asked hs
  rcases askC_no h with e | e | e | e | e <;> subst e
  · obtain ⟨i, rfl, hi⟩ := askC_0 h
    exact pzValue_0 a b i s w hs (by have := hA.size; omega)
  · exact absurd rfl hk
  · obtain ⟨i, rfl, hi⟩ := askC_c hp h
    have hg := good_yes hA.good
    obtain ⟨n, rfl⟩ : ∃ n : Nat, a = n := ⟨a.toNat, by omega⟩
    exact pzValue_2 n b i s w hs (by have := (puzB_cn hp).2; omega)
  · obtain ⟨i, rfl, hi⟩ := askC_c hp h
    have hg := good_yes hA.good
    obtain ⟨n, rfl⟩ : ∃ n : Nat, a = n := ⟨a.toNat, by omega⟩
    exact pzValue_3 n b i s w hs (by have := (puzB_cn hp).2; omega)
  · have := inB_yes (show inB x 2 9 = true from h)
    exact pzValue_4 a b x s w hs this.1 this.2

theorem clueOf_any (a b k x : Int) (s : ByteArray) (w : World) (hp : puzB a b = true) (hs : askB a b s = true) (h : askC a b k x = true) :
    Calls Try.prog 45 #[.agg #[.int .i64 a, .int .i64 b], .string s, .int .i64 k, .int .i64 x] w fun e w' => e = .returned (.agg #[.int .i64 (clK a b k x s).1, .int .i64 (clK a b k x s).2.1, .int .i64 (clK a b k x s).2.2]) ∧ Below w.heap.size w w' := by
  have hA := asked hs
  rcases askC_no h with e | e | e | e | e <;> subst e
  · obtain ⟨i, rfl, hi⟩ := askC_0 h
    exact clueOf_0 a b i s w hs (by have := hA.size; omega)
  · exact clueOf_1 a b x s w hs
  · obtain ⟨i, rfl, hi⟩ := askC_c hp h
    exact clueOf_2 a b i s w hs hi
  · obtain ⟨i, rfl, hi⟩ := askC_c hp h
    exact clueOf_3 a b i s w hs hi
  · have := inB_yes (show inB x 2 9 = true from h)
    exact clueOf_4 a b x s w hs this.1 this.2

theorem eq_int_dec (x y : Int) : (x == y) = decide (x = y) := by by_cases h : x = y <;> simp [h]

set_option maxHeartbeats 2000000 in
theorem pzFits_any (a b k x y : Int) (s : ByteArray) (w : World) (hp : puzB a b = true) (hs : askB a b s = true) (h : cluB a b (k, x, y) = true) :
    Calls Try.prog 68 #[.agg #[.int .i64 a, .int .i64 b], .agg #[.int .i64 k, .int .i64 x, .int .i64 y], .string s] w fun e w' => e = .returned (.bool (fitC a b s (k, x, y))) ∧ Below w.heap.size w w' := by
  have HS := Lib.hid hs
  have HP := Lib.hid hp
  have HQ := Lib.hid (cluB_ask h)
  dsimp only at HQ
  have X0 := Lib.hid (show Below w.heap.size w ((w.alloc (.cells #[.int .i64 a, .int .i64 b] 30)).alloc (.cells #[.int .i64 k, .int .i64 x, .int .i64 y] 37)) from ((Below.refl _ _).alloc (Nat.le_refl _) _).alloc (by simp) _)
  have D0 := Lib.hid (Cells.new (W := w.alloc (.cells #[.int .i64 a, .int .i64 b] 30)) (cs := #[.int .i64 k, .int .i64 x, .int .i64 y]) (t := 37) (g := w.heap.size + 1) (n := 3) (by simp) rfl)
  by_cases h1 : k = 1
  · subst h1
    obtain ⟨v, hv⟩ : ∃ v, sumAt (dg s) s.size = v := ⟨_, rfl⟩
    have HV := Lib.hid hv
    have HF : Hid (fitC a b s (1, x, y) = (v == x)) := Lib.hid (by rw [fitC_sum, eq_int_dec, ← hv]; rfl)
    clear hp hs h hv
    go_enter Try.func68, Try.ntmps68
    go_wp2_with fail
    go_region_with (go_at_call 57; refine (pzValue_1 _ _ _ _ _ HS.out).mono ?_; rw [HV.out]; rintro e w1 ⟨rfl, hb1⟩; have DD := Lib.hid (D0.out.call (below_undrew hb1)); have m0 : w1.cell? ⟨w.heap.size + 1, 0, none⟩ = some (.int .i64 1) := DD.out.cell (show 0 < 3 by omega); have m1 : w1.cell? ⟨w.heap.size + 1, 1, none⟩ = some (.int .i64 x) := DD.out.cell (show 1 < 3 by omega))
    all_goals
      have X2 := Lib.hid (bel_call X0.out (below_undrew hb1))
      clear hb1 m0 m1 DD
      go_wp2_with fail
      go_ret
      exact ⟨ret_bool HF.out.symm, X2.out⟩
  · have HK := Lib.hid h1
    have hk1 : (k == 1) = false := by simpa using h1
    obtain ⟨v, hv⟩ : ∃ v, pzV a b k x s = v := ⟨_, rfl⟩
    have HV := Lib.hid hv
    have HF : Hid (fitC a b s (k, x, y) = (v == y)) := Lib.hid (by rw [fitC_other h1, eq_int_dec, ← hv])
    clear hp hs h hv h1
    go_enter Try.func68, Try.ntmps68
    go_wp2_with fail
    go_region_with (go_at_call 57; refine (pzValue_any _ _ _ _ _ _ HP.out HS.out HQ.out HK.out).mono ?_; rw [HV.out]; rintro e w1 ⟨rfl, hb1⟩; have DD := Lib.hid (D0.out.call (below_undrew hb1)); have m0 : w1.cell? ⟨w.heap.size + 1, 0, none⟩ = some (.int .i64 k) := DD.out.cell (show 0 < 3 by omega); have m1 : w1.cell? ⟨w.heap.size + 1, 1, none⟩ = some (.int .i64 x) := DD.out.cell (show 1 < 3 by omega); have m2 : w1.cell? ⟨w.heap.size + 1, 2, none⟩ = some (.int .i64 y) := DD.out.cell (show 2 < 3 by omega))
    all_goals
      have X2 := Lib.hid (bel_call X0.out (below_undrew hb1))
      clear hb1 m0 m1 m2 DD
      go_wp2_with fail
      go_ret
      exact ⟨ret_bool HF.out.symm, X2.out⟩

theorem eql_clue (k x y u v t : Int) (w : World) : (binOp .eql 37 (.agg #[.int .i64 k, .int .i64 x, .int .i64 y]) (.agg #[.int .i64 u, .int .i64 v, .int .i64 t])).run Try.prog w = .ok (.bool (decide ((k, x, y) = (u, v, t)))) w := by
  have h1 : Try.prog.underlying 37 = some (.struct (Try.prog.fieldsOf 37)) := by kernel_rfl
  have h2 : Try.prog.stoodInHeld 37 = false := by kernel_rfl
  have h3 : (Try.prog.fieldsOf 37).toList.map (fun f => (f.name, f.type, f.offset)) = [("Kind", 3, 0), ("A", 3, 1), ("B", 3, 2)] := by kernel_rfl
  rw [run_eql_struct, run_equalIn_agg _ _ _ _ _ h1 h2]
  generalize (Try.prog.fieldsOf 37).toList = L at h3
  rcases L with _ | ⟨f, _ | ⟨g, _ | ⟨h, _ | ⟨i, t⟩⟩⟩⟩
  · simp at h3
  · simp at h3
  · simp at h3
  · simp only [List.map_cons, List.map_nil, List.cons.injEq, Prod.mk.injEq, and_true] at h3
    obtain ⟨⟨n1, t1, o1⟩, ⟨n2, t2, o2⟩, n3, t3, o3⟩ := h3
    by_cases hk : k = u <;> by_cases hx : x = v <;> by_cases hy : y = t <;> simp [Op.eqFields, n1, n2, n3, t1, t2, t3, o1, o2, o3, go_sem, hk, hx, hy]
  · simp at h3

end Go.Proofs.Ytgopaflggbgplaa
