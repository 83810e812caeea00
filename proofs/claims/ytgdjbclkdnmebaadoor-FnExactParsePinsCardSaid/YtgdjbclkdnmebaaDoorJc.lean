/- The text of pins, as both programs write it. For pins with at most 1048576 numbers. -/
import Derived.Test.YtgdjbclkdnmebaaDoorJb
import Derived.Test.YtgdjbclkdnmebaaDoorJa
namespace Go.Proofs.YtgdjbclkdnmebaaDoor
set_option maxRecDepth 100000
open Go.ChangeShapes Go.WideShapes Go.ChangeAt Go.RowKit Go.Joins

set_option maxHeartbeats 4000000 in
theorem keText_any (d : Int) (A : Option Addr) (n c : Nat) (ks : List (List Int)) (w : World) (hg : pinsB d ks = true) (hA : KnobsC w A n ks) :
    Calls Tryd.prog 27 #[.agg #[.int .i64 d, .slice A n c]] w fun e w' => e = .returned (.string (pxU d ks n)) ∧ Below w.heap.size w w' := by
  have HH := Lib.hid (pxH hg hA.len)
  have HA := Lib.hid hA
  obtain ⟨d1, d9, n1, n7⟩ : 1 ≤ d ∧ d ≤ 9 ∧ 1 ≤ n ∧ n ≤ 7 := ⟨HH.out.d1, HH.out.d9, HH.out.n1, HH.out.n7⟩
  have X0 := Lib.hid (show Below w.heap.size w (w.alloc (.cells #[.int .i64 d, .slice A n c] 28)) from (Below.refl _ _).alloc (Nat.le_refl _) _)
  have C0 := Lib.hid (show Cells (w.alloc (.cells #[.int .i64 d, .slice A n c] 28)) w.heap.size 2 (pF d (.slice A n c)) from Cells.new (n := 2) rfl rfl)
  have hadd1 := fun W => (HH.out.head W).1
  clear hg hA
  go_enter Tryd.func27, Tryd.ntmps27
  go_wp2_with (go_at_call 59; refine (l1Num_all d _ (by omega) (by omega)).mono ?_; rintro e w1 ⟨rfl, hb1⟩
               have X1 := Lib.hid (bel_call X0.out hb1)
               have C1 := Lib.hid (C0.out.call hb1)
               have j1 : w1.cell? ⟨w.heap.size, 1, none⟩ = some (.slice A n c) := C1.out.cell (show 1 < 2 by omega)
               clear hb1)
  clear j1 hadd1 C0 X0
  go_loopw [3, 13] (fun s i wr => ∃ k : Nat, k ≤ n ∧ i = .int .i64 k ∧ s = .string (pxU d ks k) ∧ Below w.heap.size w wr) (fun _ i _ => n - (intOf i).toNat)
  case atStart => exact ⟨0, by omega, rfl, rfl, X1.out⟩
  case round =>
    clear X1 C1
    obtain ⟨k, hk, rfl, rfl, hB⟩ := hrel
    have HB := Lib.hid hB
    clear hB
    by_cases hlt : k < n
    · obtain ⟨b0, off, rfl, hb0, hkn⟩ := (HA.out.below HB.out).at_.resolve_left (by omega)
      obtain ⟨gk, ck, o1, hCk⟩ := hkn k hlt
      have HCK := Lib.hid hCk
      obtain ⟨hdg, hln⟩ := HH.out.list hlt
      have HDG := Lib.hid hdg
      have hadd := fun W => HH.out.add hlt W
      obtain ⟨nk, hnk⟩ : ∃ nk, (ks.getD k []).length = nk := ⟨_, rfl⟩
      have HNK := Lib.hid hnk
      rw [hnk] at hln HCK o1
      clear hkn hCk hnk hdg
      obtain ⟨s1, hs1⟩ : ∃ s1, pxU d ks (k + 1) = s1 := ⟨_, rfl⟩
      have HS1 := Lib.hid hs1
      simp only [hs1] at hadd
      clear hs1
      generalize pxU d ks k = s0 at hadd ⊢
      generalize ks.getD k [] = y at HCK HDG hadd HNK
      by_cases h0 : k = 0
      · have hadd2 := fun W => (hadd W).1 h0
        clear hadd
        subst h0
        rw [Nat.add_zero] at o1
        go_wp2_with (go_at_call 60; refine (whText_n _ _ y HNK.out _ HCK.out HDG.out (by omega)).mono ?_; rintro e w3 ⟨rfl, hb3⟩)
        go_roundw
        case rel => exact ⟨0 + 1, by omega, by go_num, by rw [HS1.out], bel_call HB.out hb3⟩
        case measure => simp [intOf]; omega
      · have hadd2 := fun W => ((hadd W).2 h0).1
        have hadd3 := fun W => ((hadd W).2 h0).2
        have hki : (0 : Int) < (k : Int) := by omega
        clear hadd
        go_wp2_with (go_at_call 60; refine (whText_n _ _ y HNK.out _ HCK.out HDG.out (by omega)).mono ?_; rintro e w3 ⟨rfl, hb3⟩)
        go_roundw
        case rel => exact ⟨k + 1, by omega, by go_num, by rw [HS1.out], bel_call HB.out hb3⟩
        case measure => simp [intOf]; omega
    · obtain rfl : k = n := by omega
      go_wp2_with fail
      go_ret
      exact ⟨rfl, HB.out⟩

set_option maxHeartbeats 2000000 in
theorem specPinsText_any (d : Int) (A : Option Addr) (n c : Nat) (ks : List (List Int)) (w : World) (hm : n + lensAt ks n ≤ 1048576) (hA : KnobsC w A n ks) :
    Calls Tryd.prog 8 #[.agg #[.int .i64 d, .slice A n c]] w fun e w' => e = .returned (.tuple #[.string (pxB d ks), .bool (pinsB d ks)]) ∧ Below w.heap.size w w' := by
  have HA := Lib.hid hA
  have HL := Lib.hid hA.len
  have X0 := Lib.hid (show Below w.heap.size w (w.alloc (.cells #[.int .i64 d, .slice A n c] 28)) from (Below.refl _ _).alloc (Nat.le_refl _) _)
  have C0 := Lib.hid (show Cells (w.alloc (.cells #[.int .i64 d, .slice A n c] 28)) w.heap.size 2 (pF d (.slice A n c)) from Cells.new (n := 2) rfl rfl)
  clear hA
  by_cases hg : pinsB d ks = true
  · have HG := Lib.hid hg
    have HV : Hid (pxB d ks = pxU d ks n) := Lib.hid (by unfold pxB; rw [hg, if_pos rfl, HL.out])
    clear hg
    go_enter Tryd.func8, Tryd.ntmps8
    go_wp2_with (first
      | (go_at_call 26; refine (keGood_any _ _ _ _ ks _ hm ((HA.out.below X0.out).knobs hm)).mono ?_; rw [HG.out]; rintro e w1 ⟨rfl, hb1⟩
         have X1 := Lib.hid (bel_call X0.out hb1)
         have C1 := Lib.hid (C0.out.call hb1)
         have j0 : w1.cell? ⟨w.heap.size, 0, none⟩ = some (.int .i64 d) := C1.out.cell (show 0 < 2 by omega)
         have j1 : w1.cell? ⟨w.heap.size, 1, none⟩ = some (.slice A n c) := C1.out.cell (show 1 < 2 by omega)
         clear hb1)
      | (go_at_call 27; refine (keText_any _ _ _ _ ks _ HG.out (HA.out.below X1.out)).mono ?_; rintro e w2 ⟨rfl, hb2⟩))
    go_ret2
    exact ⟨by rw [HV.out, HG.out]; first | done | rfl, bel_call X1.out hb2⟩
  · have HG := Lib.hid (Bool.eq_false_iff.2 hg)
    have HV : Hid (pxB d ks = ⟨#[]⟩) := Lib.hid (by unfold pxB; rw [HG.out]; rfl)
    clear hg
    go_enter Tryd.func8, Tryd.ntmps8
    go_wp2_with (go_at_call 26; refine (keGood_any _ _ _ _ ks _ hm ((HA.out.below X0.out).knobs hm)).mono ?_; rw [HG.out]; rintro e w1 ⟨rfl, hb1⟩; have X1 := Lib.hid (bel_call X0.out hb1); clear hb1)
    go_ret2
    exact ⟨by rw [HV.out, HG.out]; first | done | rfl, X1.out⟩

theorem join_pins (A : Addr) (n c : Nat) (ks : List (List Int)) (w : World) (hl : ks.length = n) (h1 : 1 ≤ n) (hn : n ≤ 7) (hc : n ≤ c) (hz : (pxJ ks n).size ≤ 73) (hA : A.block < w.heap.size ∧ A = ⟨A.block, 0, none⟩) (hC : Cells w A.block n (strF (pxP ks n))) :
    Calls Tryd.prog 32 #[.slice (some A) n c, .string ⟨#[44]⟩] w fun e w' => e = .returned (.string (pxJ ks n)) ∧ Below w.heap.size w w' := by
  obtain ⟨hb, hA⟩ := hA
  have hp : (pxP ks n).length = n := pxP_length (by omega)
  have h := Go.Proofs.Tryd.strings_Join A.block 0 c (pxP ks n) ⟨#[44]⟩ w (fun j x hj => by
    have hj' : j < (pxP ks n).length := (List.getElem?_eq_some_iff.1 hj).1
    rw [Nat.zero_add, hC.cell (by omega)]
    unfold strF
    rw [List.getD, hj]
    rfl) hb (by omega) (by omega) (by
      have : (Lib.join ((pxP ks n).map (·.data.toList)) (⟨#[44]⟩ : ByteArray).data.toList).length = (pxJ ks n).size := rfl
      omega)
  rw [hp] at h
  rw [hA]
  exact h

set_option maxHeartbeats 4000000 in
theorem pinsTextK_any (d : Int) (A : Option Addr) (n c : Nat) (ks : List (List Int)) (w : World) (hm : n + lensAt ks n ≤ 1048576) (hK : KnobsA w A n ks) (hA : pinsB d ks = true → KnobsC w A n ks) :
    Calls Tryd.prog 10 #[.agg #[.int .i64 d, .slice A n c]] w fun e w' => e = .returned (.tuple #[.string (pxB d ks), .bool (pinsB d ks)]) ∧ Below w.heap.size w w' := by
  have HK := Lib.hid hK
  have HL := Lib.hid hK.len
  have X0 := Lib.hid (show Below w.heap.size w (w.alloc (.cells #[.int .i64 d, .slice A n c] 28)) from (Below.refl _ _).alloc (Nat.le_refl _) _)
  have C0 := Lib.hid (show Cells (w.alloc (.cells #[.int .i64 d, .slice A n c] 28)) w.heap.size 2 (pF d (.slice A n c)) from Cells.new (n := 2) rfl rfl)
  clear hK
  by_cases hg : pinsB d ks = true
  · have HA := Lib.hid (hA hg)
    obtain ⟨i0, hi, hz0, hz1, hz2⟩ := info_parts info_string
    have HG := Lib.hid hg
    have HH := Lib.hid (pxH hg HL.out)
    have HV : Hid (pxB d ks = pxU d ks n) := Lib.hid (by unfold pxB; rw [hg, if_pos rfl, HL.out])
    obtain ⟨d1, d9, n1, n7⟩ : 1 ≤ d ∧ d ≤ 9 ∧ 1 ≤ n ∧ n ≤ 7 := ⟨HH.out.d1, HH.out.d9, HH.out.n1, HH.out.n7⟩
    have HP0 : Hid (pxP ks 0 = []) := Lib.hid rfl
    clear hg
    go_enter Tryd.func10, Tryd.ntmps10
    go_wp2_with (go_at_call 29; refine (arePins_any _ _ _ _ ks _ hm (HK.out.below X0.out)).mono ?_; rw [HG.out]; rintro e w1 ⟨rfl, hb1⟩
                 have X1 := Lib.hid (bel_call X0.out hb1)
                 have C1 := Lib.hid (C0.out.call hb1)
                 have j1 : w1.cell? ⟨w.heap.size, 1, none⟩ = some (.slice A n c) := C1.out.cell (show 1 < 2 by omega)
                 have hz1' := C1.out.lt
                 clear hb1)
    obtain ⟨R0, hR0⟩ : ∃ R, w1.heap.size = R := ⟨_, rfl⟩
    clear j1
    go_loopw [4, 13] (fun s i wr => ∃ k : Nat, k ≤ n ∧ i = .int .i64 k ∧ wr.ownsRow R0 9 1 s k (sv (pxP ks k)) ∧ R0 ≤ wr.heap.size ∧ Below w.heap.size w wr ∧ Cells wr w.heap.size 2 (pF d (.slice A n c))) (fun _ i _ => n - (intOf i).toNat)
    case atStart => exact ⟨0, by omega, rfl, World.ownsRow_nil _ _ _ _, by omega, X1.out, C1.out⟩
    case round =>
      clear X1 C1
      obtain ⟨k, hk, rfl, hO, hRz, hB, hC⟩ := hrel
      have HO := Lib.hid hO
      have HB := Lib.hid hB
      have HC := Lib.hid hC
      clear hO hB hC
      by_cases hlt : k < n
      · obtain ⟨b0, off, rfl, hb0, hkn⟩ := (HA.out.below HB.out).at_.resolve_left (by omega)
        obtain ⟨gk, ck, o1, hCk⟩ := hkn k hlt
        have HCK := Lib.hid hCk
        obtain ⟨hdg, hln⟩ := HH.out.list hlt
        have HDG := Lib.hid hdg
        have HPS := Lib.hid (pxP_succ (ks := ks) (k := k) (by rw [HL.out]; exact hlt))
        obtain ⟨nk, hnk⟩ : ∃ nk, (ks.getD k []).length = nk := ⟨_, rfl⟩
        have HNK := Lib.hid hnk
        rw [hnk] at hln HCK o1
        clear hkn hCk hnk hdg
        generalize ks.getD k [] = y at HCK HDG HNK HPS
        go_wp2_with (first
          | (go_at_call 30; refine (codeOf_n _ _ y HNK.out _ HCK.out HDG.out (by omega)).mono ?_; rintro e w3 ⟨rfl, hb3⟩
             have HO3 := Lib.hid (HO.out.kept (row := none) ⟨hb3.os, hb3.tape, hb3.output, hb3.size, fun i hi _ => hb3.block i hi⟩ (Classical.em _))
             have HB3 := Lib.hid (bel_call HB.out hb3)
             have HC3 := Lib.hid (HC.out.call hb3)
             have hz3 := hb3.size
             clear hb3)
          | (at_builtin; refine wpList_append_own _ rfl _ _ 57 rfl R0 9 i0 (.string ByteArray.empty) 1 16 Tryd.underlying57 hi hz0 hz1 hz2 rfl (by decide) _ _ _ rfl (HO3.out.alloc _) ⟨w3.heap.size, 0, none⟩ 1 1 [.string (textOf y)] rfl rfl (news_of rfl) (by simp [Value.oneCell']) (by unfold maxLen; omega) (by omega) (by simp; omega) ?_; intro v9 w9 hown9 hgrow9 hiff9; clear hiff9))
        have HB9 := Lib.hid ((HB3.out.alloc HB3.out.size _).grown hgrow9 (by rw [World.size_alloc]; have := HB3.out.size; omega) (fun j hj => by have := (HO3.out.lt j hj).1; omega))
        have HC9 : Hid (Cells w9 w.heap.size 2 (pF d (.slice (some ⟨b0, off, none⟩) n c))) := Lib.hid (by
          have h1 := HC3.out.alloc (.cells #[.string (textOf y)] 9)
          have e1 := hgrow9.block w.heap.size h1.lt (fun e => by
            have := (HO3.out.lt w.heap.size e.symm).1
            omega)
          exact ⟨Nat.lt_of_lt_of_le h1.lt hgrow9.size, fun j hj => by
            have := h1.at_ j hj
            rw [World.cell?_of_block (a := ⟨w.heap.size, j, none⟩) e1, World.frozen?_of_block (a := ⟨w.heap.size, j, none⟩) e1]; exact this⟩)
        have HO9 := Lib.hid hown9
        have hz9 := hgrow9.size
        rw [World.size_alloc] at hz9
        clear hown9 hgrow9
        go_roundw
        case rel => exact ⟨k + 1, by omega, by go_num, by rw [HPS.out]; unfold sv; rw [List.map_append]; exact HO9.out, by omega, HB9.out, HC9.out⟩
        case measure => simp [intOf]; omega
      · obtain rfl : k = n := by omega
        obtain ⟨g, cg, rfl, hg1, hg2⟩ := HO.out.form (by omega)
        have hcap : k ≤ cg := by
          rcases HO.out.2 with ⟨e, _⟩ | ⟨g', cap, cur, e, _, _, hle, _⟩
          · cases e
          · injection e with _ _ e3
            omega
        have hrow : Cells wr g k (strF (pxP ks k)) := ⟨hg2, fun j hj => ⟨by
          have hl := pxP_length (ks := ks) (k := k) (by rw [HL.out]; exact Nat.le_refl _)
          rw [HO.out.cellAt j (by omega)]
          unfold sv strF
          rw [List.getElem?_map, List.getElem?_eq_getElem (by omega)]
          simp [List.getD, List.getElem?_eq_getElem (show j < (pxP ks k).length by omega)], HO.out.frozenAt j⟩⟩
        have HROW := Lib.hid hrow
        have x0 : wr.cell? ⟨w.heap.size, 0, none⟩ = some (.int .i64 d) := HC.out.cell (show 0 < 2 by omega)
        have hadd1 := fun W => (HH.out.head W).1
        have hadd2 := fun W => (HH.out.head W).2.1
        have hjz := (HH.out.head w).2.2
        have HU0 : Hid (pxU d ks 0 = numB d ++ ⟨#[61]⟩) := Lib.hid rfl
        rw [← HU0.out] at hadd2
        generalize pxU d ks 0 = u0 at hadd1 hadd2
        have HJ : Hid (∀ W : World, Below wr.heap.size wr W → Calls Tryd.prog 32 #[.slice (some ⟨g, 0, none⟩) k cg, .string ⟨#[44]⟩] W fun e w' => e = .returned (.string (pxJ ks k)) ∧ Below W.heap.size W w') := Lib.hid (fun W hb => join_pins ⟨g, 0, none⟩ k cg ks W HL.out n1 n7 hcap hjz ⟨Nat.lt_of_lt_of_le hg2 hb.size, rfl⟩ (HROW.out.call hb))
        clear hrow hjz HU0
        go_wp2_with (first
          | (go_at_call 31; refine (itoa_any d _ (by omega) (by omega)).mono ?_; rintro e w2 ⟨rfl, rfl⟩)
          | (go_at_call 32; refine (HJ.out _ (Below.refl _ _)).mono ?_; rintro e w3 ⟨rfl, hb3⟩))
        go_ret2
        exact ⟨by rw [HV.out, HG.out]; first | done | rfl, bel_call HB.out hb3⟩
  · have HG := Lib.hid (Bool.eq_false_iff.2 hg)
    have HV : Hid (pxB d ks = ⟨#[]⟩) := Lib.hid (by unfold pxB; rw [HG.out]; rfl)
    clear hg
    go_enter Tryd.func10, Tryd.ntmps10
    go_wp2_with (go_at_call 29; refine (arePins_any _ _ _ _ ks _ hm (HK.out.below X0.out)).mono ?_; rw [HG.out]; rintro e w1 ⟨rfl, hb1⟩; have X1 := Lib.hid (bel_call X0.out hb1); clear hb1)
    go_ret2
    exact ⟨by rw [HV.out, HG.out]; first | done | rfl, X1.out⟩

theorem pinsText_any (d : Int) (A : Option Addr) (n c : Nat) (ks : List (List Int)) (w : World) (hm : n + lensAt ks n ≤ 1048576) (hA : KnobsC w A n ks) :
    Calls Tryd.prog 10 #[.agg #[.int .i64 d, .slice A n c]] w fun e w' => e = .returned (.tuple #[.string (pxB d ks), .bool (pinsB d ks)]) ∧ Below w.heap.size w w' :=
  pinsTextK_any d A n c ks w hm (hA.knobs hm) (fun _ => hA)

end Go.Proofs.YtgdjbclkdnmebaaDoor
