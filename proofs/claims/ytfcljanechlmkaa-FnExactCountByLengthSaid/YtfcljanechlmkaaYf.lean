/- Stops of steps, as the program tells them. For at most 1048576 numbers. -/
import Derived.Test.YtfcljanechlmkaaYe
namespace Go.Proofs.Ytfcljanechlmkaa
open Go.ChangeShapes Go.WideShapes Go.ChangeAt Go.RowKit Go.Joins

theorem turner_any (m r : Int) (w : World) :
    Calls Try.prog 60 #[.agg #[.int .i64 m, .int .i64 r]] w fun e w' => e = .returned (.func (.func 97) #[] #[.pointer (some ⟨w.heap.size, 0, none⟩)]) ∧ w' = w.alloc (.cells #[.int .i64 m, .int .i64 r] 46) := by
  have hmf : ∀ (fn : Fn) (first cap : Array Value) (w : World), (Instr.makeFunc fn first cap).run Try.prog w = .ok (.func fn first cap) w := fun _ _ _ _ => rfl
  go_enter Try.func60, Try.ntmps60
  go_wp2
  go_ret
  exact ⟨rfl, rfl⟩

theorem posN_take {m s : Int} {xs : List Int} {k i : Nat} (h : k ≤ i) : posN m s (xs.take i) k = posN m s xs k :=
  posN_congr k (fun j hj => by simp only [List.getD, List.getElem?_take]; rw [if_pos (by omega)])

theorem ints_cut {w : World} {A : Option Addr} {n i : Nat} {xs : List Int} (h : IntsA w A n xs) (hi : i ≤ n) : IntsA w A i (xs.take i) :=
  ⟨by rw [List.length_take, h.len]; omega, h.at_.elim (fun h0 => .inl (by omega)) (fun ⟨b, off, e, hb, hc⟩ => .inr ⟨b, off, e, hb, fun k hk => by
    rw [hc k (by omega)]
    simp only [List.getD, List.getElem?_take]
    rw [if_pos (by omega)]⟩)⟩

set_option maxHeartbeats 2000000 in
theorem stopsOf_any (m s : Int) (A : Option Addr) (n c : Nat) (xs : List Int) (w : World) (hn : n ≤ 1048576) (hnc : n ≤ c) (hA : IntsA w A n xs) :
    Calls Try.prog 21 #[.int .i64 m, .int .i64 s, .slice A n c] w (IntsL w (soZ m s xs) (soB m s xs)) := by
  obtain ⟨i0, hi, hy0, hy1, hy2⟩ := info_parts info_int
  have HL := Lib.hid hA.len
  have HA := Lib.hid hA
  clear hA
  obtain ⟨u, hu⟩ : ∃ u, dmB m s = u := ⟨_, rfl⟩
  obtain ⟨v, hv⟩ : ∃ v, stepsB xs = v := ⟨_, rfl⟩
  have HU := Lib.hid hu
  have HV := Lib.hid hv
  have HB0 := Lib.hid (show Below w.heap.size w (w.alloc (.cells #[.int .i64 m, .int .i64 s] 46)) from (Below.refl _ _).alloc (Nat.le_refl _) _)
  have HD0 := Lib.hid (dialF_new w m s rfl)
  rcases u with _ | _
  · have HB : Hid (soB m s xs = false) := Lib.hid (by unfold soB; rw [hu]; rfl)
    have HZ : Hid (soZ m s xs = []) := Lib.hid (by unfold soZ; rw [HB.out]; rfl)
    go_enter Try.func21, Try.ntmps21
    go_wp2_with (go_at_call 58; refine (isValid_any _ _ _).mono ?_; rw [HU.out]; rintro e w1 ⟨rfl, hb1⟩)
    go_ret2
    rw [HZ.out, HB.out]
    exact ints_none (bel_call HB0.out hb1)
  rcases v with _ | _
  · have HB : Hid (soB m s xs = false) := Lib.hid (by unfold soB; rw [hu, hv]; rfl)
    have HZ : Hid (soZ m s xs = []) := Lib.hid (by unfold soZ; rw [HB.out]; rfl)
    go_enter Try.func21, Try.ntmps21
    go_wp2_with (first | (go_at_call 58; refine (isValid_any _ _ _).mono ?_; rw [HU.out]; rintro e w1 ⟨rfl, hb1⟩; have HB1 := Lib.hid (bel_call HB0.out hb1)) | (go_at_call 59; refine (areSteps_any _ _ _ xs _ hn (HA.out.below HB1.out)).mono ?_; rw [HV.out]; rintro e w2 ⟨rfl, hw2⟩; replace hw2 := hw2.symm; subst hw2))
    go_ret2
    rw [HZ.out, HB.out]
    exact ints_none HB1.out
  have HB : Hid (soB m s xs = true) := Lib.hid (by unfold soB; rw [hu, hv]; rfl)
  have HZ : Hid (soZ m s xs = stL m s xs n) := Lib.hid (by unfold soZ; rw [HB.out, HL.out]; rfl)
  obtain ⟨m2, m1, _, _⟩ := dm_yes hu
  have hl12 := steps_len hv
  rw [HL.out] at hl12
  clear hu hv
  go_enter Try.func21, Try.ntmps21
  go_wp2_with (first
    | (go_at_call 58; refine (isValid_any _ _ _).mono ?_; rw [HU.out]; rintro e w1 ⟨rfl, hb1⟩
       have HB1 := Lib.hid (bel_call HB0.out hb1)
       have HD1 := Lib.hid (HD0.out.call hb1)
       have l0 : w1.cell? ⟨w.heap.size, 0, none⟩ = some (.int .i64 m) := HD1.out.cell (show 0 < 2 by omega)
       have l1 : w1.cell? ⟨w.heap.size, 1, none⟩ = some (.int .i64 s) := HD1.out.cell (show 1 < 2 by omega)
       clear hb1)
    | (go_at_call 59; refine (areSteps_any _ _ _ xs _ hn (HA.out.below HB1.out)).mono ?_; rw [HV.out]; rintro e w2 ⟨rfl, hw2⟩; replace hw2 := hw2.symm; subst hw2)
    | (go_at_call 60; refine (turner_any _ _ _).mono ?_; rintro e _ ⟨rfl, rfl⟩))
  obtain ⟨w3, hw3⟩ : ∃ w3, w3 = w1.alloc (.cells #[.int .i64 m, .int .i64 s] 46) := ⟨_, rfl⟩
  have HB3 : Hid (Below w.heap.size w w3) := Lib.hid (by rw [hw3]; exact HB1.out.alloc HB1.out.size _)
  have HD3 : Hid (Cells w3 w1.heap.size 2 (dialF m s)) := Lib.hid (by rw [hw3]; exact dialF_new w1 m s rfl)
  rw [← hw3]
  obtain ⟨D, hDe⟩ : ∃ D, w1.heap.size = D := ⟨_, rfl⟩
  rw [hDe] at HD3 ⊢
  obtain ⟨R, hRe⟩ : ∃ R, w3.heap.size = R := ⟨_, rfl⟩
  have hR0 : w.heap.size ≤ R := by rw [← hRe]; exact HB3.out.size
  have hRD : D < R := by rw [← hRe]; exact HD3.out.lt
  clear hw3 l0 l1 hDe
  go_loopw [10, 27] (fun v i wr => ∃ k : Nat, k ≤ n ∧ i = .int .i64 k ∧ wr.ownsRow R 3 1 v k (iv (stL m s xs k)) ∧ Below R w3 wr ∧ R ≤ wr.heap.size) (fun _ i _ => n - (intOf i).toNat)
  case atStart => exact ⟨0, by omega, rfl, World.ownsRow_nil _ _ _ _, Below.refl _ _, by omega⟩
  case round =>
    obtain ⟨k, hk, rfl, hO, hB, hR1⟩ := hrel
    have HO := Lib.hid hO
    have HBr := Lib.hid hB
    clear hO hB
    by_cases hlt : k < n
    · have HBw : Hid (Below w.heap.size w wr) := Lib.hid (HB3.out.trans (HBr.out.mono hR0))
      obtain ⟨b, off, rfl, hb, hc⟩ := (HA.out.below HBw.out).at_.resolve_left (by omega)
      clear hc
      have HP : Hid (posN m s (xs.take (k + 1)) (k + 1) = posN m s xs (k + 1)) := Lib.hid (posN_take (Nat.le_refl _))
      have HS : Hid (stL m s xs (k + 1) = stL m s xs k ++ [posN m s xs (k + 1)]) := Lib.hid rfl
      have HX : Hid (∀ j, j < k + 1 → -1000 ≤ (xs.take (k + 1)).getD j 0 ∧ (xs.take (k + 1)).getD j 0 ≤ 1000) := Lib.hid (fun j hj => by
        have := step_at HV.out (k := j) (by rw [HL.out]; omega)
        simp only [List.getD, List.getElem?_take]
        rw [if_pos (by omega)]
        exact this.2)
      obtain ⟨q, hq⟩ : ∃ q, posN m s xs (k + 1) = q := ⟨_, rfl⟩
      rw [hq] at HP HS
      clear hq
      have HDr := Lib.hid (HD3.out.below HBr.out hRD)
      have HAr : Hid (IntsA wr (some ⟨b, off, none⟩) (k + 1) (xs.take (k + 1))) := Lib.hid (ints_cut (HA.out.below HBw.out) (by omega))
      go_wp2_with (first
        | (go_at_call 97; refine (behind_any m s D _ (k + 1) _ _ _ HU.out (by omega) HX.out HDr.out HAr.out).mono ?_; rw [HP.out]; rintro e w4 ⟨rfl, hb4⟩)
        | (go_at_call 61; refine (read_any _ _ _).mono ?_; rintro e w5 ⟨rfl, hb5⟩
           have HB5 := Lib.hid (((Below.refl wr.heap.size wr).trans hb4).trans (hb5.mono hb4.size))
           have HO5 := Lib.hid (row_kept HO.out HB5.out)
           have z5 := HB5.out.size
           clear hb4 hb5)
        | (at_builtin; refine wpList_append_own _ rfl _ _ 22 rfl R 3 i0 (.int .i64 0) 1 8 Try.underlying22 hi hy0 hy1 hy2 rfl (by decide) _ _ _ rfl (HO5.out.alloc _) ⟨w5.heap.size, 0, none⟩ 1 1 [.int .i64 q] rfl rfl (new_one rfl) (by simp [Value.oneCell']) (by unfold maxLen; omega) (by omega) (by simp; omega) ?_; intro v9 w9 hown9 hgrow9 hiff9; clear hiff9))
      have HO9 : Hid (w9.ownsRow R 3 1 v9 (k + 1) (iv (stL m s xs (k + 1)))) := Lib.hid (by rw [HS.out, iv, List.map_append]; exact hown9)
      have HB9 : Hid (Below R w3 w9) := Lib.hid (((HBr.out.trans (HB5.out.mono hR1)).alloc (by omega) _).grown hgrow9 (by simp; omega) (fun j hj => (HO5.out.lt j hj).1))
      have z9 : R ≤ w9.heap.size := by have := hgrow9.size; rw [World.size_alloc] at this; omega
      clear hown9 hgrow9
      go_wp2_with fail
      go_roundw
      case rel => exact ⟨k + 1, by omega, by go_num, HO9.out, HB9.out, z9⟩
      case measure => simp [intOf]; omega
    · obtain rfl : k = n := by omega
      obtain ⟨A9, c9, hv, hL⟩ := LI.of_row (xs := stL m s xs k) (by rw [stL_length]; exact HO.out) (by rw [stL_length]; omega)
      rw [stL_length] at hv
      subst hv
      go_wp2_with fail
      go_ret2
      rw [HZ.out, HB.out]
      exact ints_mk rfl (stL_length _ _ _ _) (hL.wide hR0 (Nat.le_refl _)) (HB3.out.trans (HBr.out.mono hR0))

end Go.Proofs.Ytfcljanechlmkaa
