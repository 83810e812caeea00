/- Whether a list is a closed order, as both programs tell it. For lists that can be. -/
import Derived.Test.YtpbnleohbegccaaOq
namespace Go.Proofs.Ytpbnleohbegccaa
open Go.ChangeShapes Go.WideShapes Go.ChangeAt Go.RowKit Go.Joins

theorem cl_bad {a b : Int} {ts : List ByteArray} (h : goodB a b = false) : clB a b ts = false := by unfold clB; rw [wo_bad h]; rfl

theorem cl_no {a b : Int} {ts : List ByteArray} (h : woB a b ts = false) : clB a b ts = false := by unfold clB; rw [h]; rfl

theorem cl_yes {a b : Int} {ts : List ByteArray} {m : Nat} (h : woB a b ts = true) (hl : ts.length = m + 1) : clB a b ts = otB a b (ts.getD m ByteArray.empty) (ts.getD 0 ByteArray.empty) := by
  unfold clB; rw [h, hl, Nat.add_sub_cancel]; rfl

theorem wo_parts {a b : Int} {ts : List ByteArray} (h : woB a b ts = true) : goodB a b = true ∧ orB a b ts = true ∧ ∃ m, ts.length = m + 1 := by
  unfold woB at h
  rw [Bool.and_eq_true, decide_eq_true_iff] at h
  obtain ⟨ho, hc⟩ := h
  have hg := (or_parts ho).1
  have hg' := good_yes hg
  refine ⟨hg, ho, ts.length - 1, ?_⟩
  obtain ⟨n, hn⟩ : ∃ n : Nat, a = n := ⟨a.toNat, by omega⟩
  subst hn
  rw [countZ_yes hg] at hc
  have := (pw_bd6 hg'.2.2.1 hg'.2.2.2 (k := n) (by omega)).1
  omega

theorem call_lie4X {P : Program} {K : FuncId} {args : Array Value} {v : Value} {wr W : World} {a0 a1 a2 a3 : Addr} {x0 x1 x2 x3 : Value} (f : Lie4 wr a0 a1 a2 a3 x0 x1 x2 x3)
    (h : W.cell? a0 = some x0 ∧ W.cell? a1 = some x1 ∧ W.cell? a2 = some x2 ∧ W.cell? a3 = some x3 ∧ Below wr.heap.size wr W) (c : Below wr.heap.size wr W → Calls P K args W fun e w' => e = .returned v ∧ Below W.heap.size W w') :
    Calls P K args W fun e w' => e = .returned v ∧ w'.cell? a0 = some x0 ∧ w'.cell? a1 = some x1 ∧ w'.cell? a2 = some x2 ∧ w'.cell? a3 = some x3 ∧ Below wr.heap.size wr w' :=
  call_lie4 f h (c h.2.2.2.2)

set_option maxRecDepth 100000 in
set_option maxHeartbeats 8000000 in
theorem specIsClosedOrder_any (a b : Int) (A : Option Addr) (n c : Nat) (ts : List ByteArray) (w : World) (hn : n ≤ maxLen) (hA : ArgS w A n ts) :
    Calls Try.prog 51 #[.agg #[.int .i64 a, .int .i64 b], .slice A n c] w fun e w' => e = .returned (.tuple #[.bool (clB a b ts), .bool (goodB a b)]) ∧ Below w.heap.size w w' := by
  have HA := Lib.hid hA
  have HN := Lib.hid hn
  have HL := Lib.hid hA.len
  unfold maxLen at hn
  clear hA
  have X0 := Lib.hid (show Below w.heap.size w (w.alloc (.cells #[.int .i64 a, .int .i64 b] 26)) from (Below.refl _ _).alloc (Nat.le_refl _) _)
  have C0 := Lib.hid (box_new (W := w) (a := a) (b := b) (t := 26) rfl)
  by_cases hg : goodB a b = true
  · have HG := Lib.hid hg
    clear hg
    by_cases hw : woB a b ts = true
    · have HW := Lib.hid hw
      obtain ⟨-, ho, m, hm⟩ := wo_parts hw
      obtain rfl : n = m + 1 := by rw [← HL.out]; exact hm
      obtain ⟨-, -, hok⟩ := or_parts ho
      rw [hm] at hok
      have hu := hok m (by omega)
      have hv := hok 0 (by omega)
      have HCL := Lib.hid (cl_yes hw hm)
      have H2 : Hid (twoB a b (ts.getD 0 ByteArray.empty) (ts.getD m ByteArray.empty) = true) := Lib.hid (by unfold twoB; rw [ok_ask hu, ok_ask hv]; rfl)
      obtain ⟨D, off, rfl, hbD, hcD⟩ := HA.out.at_.resolve_left (by omega)
      have o1 := hcD 0 (by omega)
      have o2 := hcD m (by omega)
      rw [Nat.add_zero] at o1
      clear hw ho hok hu hv hcD
      generalize ts.getD 0 ByteArray.empty = s at *
      generalize ts.getD m ByteArray.empty = t at *
      have HQ := Lib.hid ((ot_sym H2.out).symm.trans (ot_few H2.out))
      generalize hfz : fewZ a b s t = fz at HQ
      have HFZ := Lib.hid hfz
      have O1 := Lib.hid o1
      have O2 := Lib.hid o2
      clear hfz o1 o2 hm
      have hw1 : IntKind.i64.wrap (m : Int) = (m : Int) := IntWalk.i64_in _ (by omega)
      have hk0 : (0 : Int) < (m : Int) + 1 := by omega
      have hk2 : (0 : Int) ≤ (m : Int) := by omega
      have hk3 : (m : Int) < (m : Int) + 1 := by omega
      have hw2 : IntKind.i64.wrap ((m : Int) + 1 - 1) = (m : Int) := by rw [Int.add_sub_cancel]; exact hw1
      have hw3 : IntKind.i64.wrap (((m + 1 : Nat) : Int) - 1) = (m : Int) := by rw [← hw2]; rfl
      go_enter Try.func51, Try.ntmps51
      go_wp2_with (go_at_call 88; refine (whGood_any _ _ _).mono ?_; rw [HG.out]; rintro e w1 ⟨rfl, hb1⟩
                   have X1 := Lib.hid (bel_call X0.out hb1)
                   have C1 := Lib.hid (C0.out.call hb1)
                   clear hb1)
      have l0 : w1.cell? ⟨w.heap.size, 0, none⟩ = some (.int .i64 a) := C1.out.cell (show 0 < 2 by omega)
      have l1 : w1.cell? ⟨w.heap.size, 1, none⟩ = some (.int .i64 b) := C1.out.cell (show 1 < 2 by omega)
      have o1 : w1.cell? ⟨D, off, none⟩ = some (.string s) := (X1.out.cell (p := ⟨D, off, none⟩) hbD).trans O1.out
      have o2 : w1.cell? ⟨D, off + m, none⟩ = some (.string t) := (X1.out.cell (p := ⟨D, off + m, none⟩) hbD).trans O2.out
      have HA1 := Lib.hid (HA.out.below X1.out)
      have zw : w.heap.size < w1.heap.size := C1.out.lt
      have zD : D < w1.heap.size := Nat.lt_of_lt_of_le hbD X1.out.size
      have FF := Lib.hid (show Lie4 w1 ⟨w.heap.size, 0, none⟩ ⟨w.heap.size, 1, none⟩ ⟨D, off, none⟩ ⟨D, off + m, none⟩ (.int .i64 a) (.int .i64 b) (.string s) (.string t) from ⟨⟨l0, zw⟩, ⟨l1, zw⟩, ⟨o1, zD⟩, ⟨o2, zD⟩⟩)
      go_region_held3 (fun w' => w'.cell? ⟨w.heap.size, 0, none⟩ = some (.int .i64 a) ∧ w'.cell? ⟨w.heap.size, 1, none⟩ = some (.int .i64 b) ∧ w'.cell? ⟨D, off, none⟩ = some (.string s) ∧ w'.cell? ⟨D, off + m, none⟩ = some (.string t) ∧ Below w1.heap.size w1 w') (first | assumption | exact ⟨l0, l1, o1, o2, bel_drew (Below.refl _ _)⟩ | go_keep)
        (first
          | (go_at_call 91; refine (call_lie4X FF.out (by assumption) (fun hbS => orWhole_any _ _ _ _ _ ts _ HN.out HG.out (HA1.out.below hbS))).mono ?_; rw [HW.out]; rintro e w2 ⟨rfl, hS⟩)
          | (go_at_call 92; refine (call_lie4 FF.out (by assumption) (whDistance_any _ _ _ _ _ H2.out)).mono ?_; rw [HFZ.out]; rintro e w3 ⟨rfl, hS⟩))
      all_goals
        go_wp2_with fail
        go_ret2
        refine ⟨?_, X1.out.trans (hS.2.2.2.2.mono X1.out.size)⟩
        rw [HG.out, HCL.out, HQ.out]
        first | rfl | (by_cases e1 : fz = 1 <;> simp [e1])
    · have HW := Lib.hid (Bool.eq_false_iff.2 hw)
      have HCL := Lib.hid (cl_no HW.out)
      clear hw
      go_enter Try.func51, Try.ntmps51
      go_wp2_with (go_at_call 88; refine (whGood_any _ _ _).mono ?_; rw [HG.out]; rintro e w1 ⟨rfl, hb1⟩
                   have X1 := Lib.hid (bel_call X0.out hb1)
                   have C1 := Lib.hid (C0.out.call hb1)
                   clear hb1)
      have l0 : w1.cell? ⟨w.heap.size, 0, none⟩ = some (.int .i64 a) := C1.out.cell (show 0 < 2 by omega)
      have l1 : w1.cell? ⟨w.heap.size, 1, none⟩ = some (.int .i64 b) := C1.out.cell (show 1 < 2 by omega)
      have HA1 := Lib.hid (HA.out.below X1.out)
      have zw : w.heap.size < w1.heap.size := C1.out.lt
      have FF := Lib.hid (show Lie4 w1 ⟨w.heap.size, 0, none⟩ ⟨w.heap.size, 1, none⟩ ⟨w.heap.size, 0, none⟩ ⟨w.heap.size, 0, none⟩ (.int .i64 a) (.int .i64 b) (.int .i64 a) (.int .i64 a) from ⟨⟨l0, zw⟩, ⟨l1, zw⟩, ⟨l0, zw⟩, ⟨l0, zw⟩⟩)
      refine wp_region_held_drew (S := (fun w' => w'.cell? ⟨w.heap.size, 0, none⟩ = some (.int .i64 a) ∧ w'.cell? ⟨w.heap.size, 1, none⟩ = some (.int .i64 b) ∧ w'.cell? ⟨w.heap.size, 0, none⟩ = some (.int .i64 a) ∧ w'.cell? ⟨w.heap.size, 0, none⟩ = some (.int .i64 a) ∧ Below w1.heap.size w1 w')) (by kernel_rfl) ⟨l0, l1, l0, l0, bel_drew (Below.refl _ _)⟩ (fun hHeld => ?_)
      refine wpAnyH_take (i := 0) (v := ?_) rfl (by kernel_rfl) (by kernel_rfl) (by kernel_rfl) (fun _ _ _ h => h) (Or.inl ⟨by rfl, by intro w hSw; (try dsimp only at hSw); go_simp; try with_reducible rfl⟩) (by assumption) ?_
      try simp only [Act.put, List.getElem_toArray, List.getElem_cons_zero, List.setIfInBounds_toArray, List.set_cons_zero, List.set_cons_succ]
      refine wpAnyH_take (i := 1) (v := ?_) rfl (by kernel_rfl) (by kernel_rfl) (by kernel_rfl) (fun _ _ _ h => h) (Or.inl ⟨by rfl, by intro w hSw; (try dsimp only at hSw); go_simp; try with_reducible rfl⟩) (by assumption) ?_
      try simp only [Act.put, List.getElem_toArray, List.getElem_cons_zero, List.getElem_cons_succ, List.setIfInBounds_toArray, List.set_cons_zero, List.set_cons_succ]
      refine wpAnyH_ready (rs := [2]) (by kernel_rfl) (by simp) (AllReadyH.cons rfl (fun K hK => ?_) AllReadyH.nil)
      rw [if_pos (by rfl)]
      simp only [List.getElem_toArray, List.getElem_cons_zero, List.getElem_cons_succ]
      go_wp2_with (go_at_call 91; refine (call_lie4X FF.out (by assumption) (fun hbS => orWhole_any _ _ _ _ _ ts _ HN.out HG.out (HA1.out.below hbS))).mono ?_; rw [HW.out]; rintro e w2 ⟨rfl, hS⟩)
      refine hK.out _ _ hS (fun hHeld => ?_)
      clear hK K
      try simp only [Act.put, List.getElem_toArray, List.getElem_cons_zero, List.getElem_cons_succ, List.setIfInBounds_toArray, List.set_cons_zero, List.set_cons_succ]
      refine wpAnyH_take (i := 3) (v := ?_) rfl (by kernel_rfl) (by kernel_rfl) (by kernel_rfl) (fun _ _ _ h => h) (Or.inl ⟨by rfl, by intro w hSw; (try dsimp only at hSw); go_simp; try with_reducible rfl⟩) (by assumption) ?_
      try simp only [Act.put, List.getElem_toArray, List.getElem_cons_zero, List.getElem_cons_succ, List.setIfInBounds_toArray, List.set_cons_zero, List.set_cons_succ]
      refine wpAnyH_take (i := 4) (v := undef) rfl (by kernel_rfl) (by kernel_rfl) (by kernel_rfl) (fun _ _ _ h => h) (Or.inr ⟨by rfl, rfl⟩) (by assumption) ?_
      try simp only [Act.put, List.getElem_toArray, List.getElem_cons_zero, List.getElem_cons_succ, List.setIfInBounds_toArray, List.set_cons_zero, List.set_cons_succ]
      refine wpAnyH_take (i := 5) (v := undef) rfl (by kernel_rfl) (by kernel_rfl) (by kernel_rfl) (fun _ _ _ h => h) (Or.inr ⟨by rfl, rfl⟩) (by assumption) ?_
      try simp only [Act.put, List.getElem_toArray, List.getElem_cons_zero, List.getElem_cons_succ, List.setIfInBounds_toArray, List.set_cons_zero, List.set_cons_succ]
      refine wpAnyH_take (i := 6) (v := undef) rfl (by kernel_rfl) (by kernel_rfl) (by kernel_rfl) (fun _ _ _ h => h) (Or.inr ⟨by rfl, rfl⟩) (by assumption) ?_
      try simp only [Act.put, List.getElem_toArray, List.getElem_cons_zero, List.getElem_cons_succ, List.setIfInBounds_toArray, List.set_cons_zero, List.set_cons_succ]
      refine wpAnyH_take (i := 7) (v := undef) rfl (by kernel_rfl) (by kernel_rfl) (by kernel_rfl) (fun _ _ _ h => h) (Or.inr ⟨by rfl, rfl⟩) (by assumption) ?_
      try simp only [Act.put, List.getElem_toArray, List.getElem_cons_zero, List.getElem_cons_succ, List.setIfInBounds_toArray, List.set_cons_zero, List.set_cons_succ]
      refine wpAnyH_take (i := 8) (v := undef) rfl (by kernel_rfl) (by kernel_rfl) (by kernel_rfl) (fun _ _ _ h => h) (Or.inr ⟨by rfl, rfl⟩) (by assumption) ?_
      try simp only [Act.put, List.getElem_toArray, List.getElem_cons_zero, List.getElem_cons_succ, List.setIfInBounds_toArray, List.set_cons_zero, List.set_cons_succ]
      refine wpAnyH_take (i := 9) (v := undef) rfl (by kernel_rfl) (by kernel_rfl) (by kernel_rfl) (fun _ _ _ h => h) (Or.inr ⟨by rfl, rfl⟩) (by assumption) ?_
      try simp only [Act.put, List.getElem_toArray, List.getElem_cons_zero, List.getElem_cons_succ, List.setIfInBounds_toArray, List.set_cons_zero, List.set_cons_succ]
      refine wpAnyH_take (i := 10) (v := undef) rfl (by kernel_rfl) (by kernel_rfl) (by kernel_rfl) (fun _ _ _ h => h) (Or.inr ⟨by rfl, rfl⟩) (by assumption) ?_
      try simp only [Act.put, List.getElem_toArray, List.getElem_cons_zero, List.getElem_cons_succ, List.setIfInBounds_toArray, List.set_cons_zero, List.set_cons_succ]
      refine wpAnyH_take (i := 11) (v := undef) rfl (by kernel_rfl) (by kernel_rfl) (by kernel_rfl) (fun _ _ _ h => h) (Or.inr ⟨by rfl, rfl⟩) (by assumption) ?_
      try simp only [Act.put, List.getElem_toArray, List.getElem_cons_zero, List.getElem_cons_succ, List.setIfInBounds_toArray, List.set_cons_zero, List.set_cons_succ]
      refine wpAnyH_take (i := 12) (v := undef) rfl (by kernel_rfl) (by kernel_rfl) (by kernel_rfl) (fun _ _ _ h => h) (Or.inr ⟨by rfl, rfl⟩) (by assumption) ?_
      try simp only [Act.put, List.getElem_toArray, List.getElem_cons_zero, List.getElem_cons_succ, List.setIfInBounds_toArray, List.set_cons_zero, List.set_cons_succ]
      refine wpAnyH_take (i := 13) (v := undef) rfl (by kernel_rfl) (by kernel_rfl) (by kernel_rfl) (fun _ _ _ h => h) (Or.inr ⟨by rfl, rfl⟩) (by assumption) ?_
      try simp only [Act.put, List.getElem_toArray, List.getElem_cons_zero, List.getElem_cons_succ, List.setIfInBounds_toArray, List.set_cons_zero, List.set_cons_succ]
      refine wpAnyH_take (i := 14) (v := undef) rfl (by kernel_rfl) (by kernel_rfl) (by kernel_rfl) (fun _ _ _ h => h) (Or.inr ⟨by rfl, rfl⟩) (by assumption) ?_
      try simp only [Act.put, List.getElem_toArray, List.getElem_cons_zero, List.getElem_cons_succ, List.setIfInBounds_toArray, List.set_cons_zero, List.set_cons_succ]
      refine wpAnyH_take (i := 15) (v := undef) rfl (by kernel_rfl) (by kernel_rfl) (by kernel_rfl) (fun _ _ _ h => h) (Or.inr ⟨by rfl, rfl⟩) (by assumption) ?_
      try simp only [Act.put, List.getElem_toArray, List.getElem_cons_zero, List.getElem_cons_succ, List.setIfInBounds_toArray, List.set_cons_zero, List.set_cons_succ]
      refine wpAnyH_take (i := 16) (v := ?_) rfl (by kernel_rfl) (by kernel_rfl) (by kernel_rfl) (fun _ _ _ h => h) (Or.inl ⟨by rfl, by intro w hSw; (try dsimp only at hSw); go_simp; try with_reducible rfl⟩) (by assumption) ?_
      try simp only [Act.put, List.getElem_toArray, List.getElem_cons_zero, List.getElem_cons_succ, List.setIfInBounds_toArray, List.set_cons_zero, List.set_cons_succ]
      refine wpAnyH_take (i := 17) (v := ?_) rfl (by kernel_rfl) (by kernel_rfl) (by kernel_rfl) (fun _ _ _ h => h) (Or.inl ⟨by rfl, by intro w hSw; (try dsimp only at hSw); go_simp; try with_reducible rfl⟩) (by assumption) ?_
      try simp only [Act.put, List.getElem_toArray, List.getElem_cons_zero, List.getElem_cons_succ, List.setIfInBounds_toArray, List.set_cons_zero, List.set_cons_succ]
      refine wpAnyH_take (i := 18) (v := ?_) rfl (by kernel_rfl) (by kernel_rfl) (by kernel_rfl) (fun _ _ _ h => h) (Or.inl ⟨by rfl, by intro w hSw; (try dsimp only at hSw); go_simp; try with_reducible rfl⟩) (by assumption) ?_
      try simp only [Act.put, List.getElem_toArray, List.getElem_cons_zero, List.getElem_cons_succ, List.setIfInBounds_toArray, List.set_cons_zero, List.set_cons_succ]
      refine wpAnyH_done (by kernel_rfl) ?_ _
      go_wp2_with fail
      go_ret2
      exact ⟨by rw [HCL.out, HG.out]; rfl, X1.out.trans (hS.2.2.2.2.mono X1.out.size)⟩
  · have HG := Lib.hid (Bool.eq_false_iff.2 hg)
    clear hg
    go_enter Try.func51, Try.ntmps51
    go_wp2_with (go_at_call 88; refine (whGood_any _ _ _).mono ?_; rw [HG.out]; rintro e w1 ⟨rfl, hb⟩; obtain ⟨hc, hf, hz⟩ := bcell hb; have hz0 : w.heap.size < w1.heap.size := by (try simp at hz); omega)
    go_ret2
    refine ⟨by rw [HG.out, cl_bad HG.out]; first | done | rfl, ?_⟩
    (repeat (first | assumption | exact Below.refl _ _ | (refine Below.alloc ?_ (by first | omega | (simp; done) | (simp; omega)) _) | (refine Below.setCell ?_ (by first | omega | (simp; done) | (simp; omega)) _) | refine bel_drewN ?_ _ | refine bel_drew ?_ | (refine bel_call ?_ (by assumption))))

set_option maxRecDepth 100000 in
set_option maxHeartbeats 8000000 in
theorem isClosedOrder_any (a b : Int) (A : Option Addr) (n c : Nat) (ts : List ByteArray) (w : World) (hn : n ≤ maxLen) (hA : ArgS w A n ts) :
    Calls Try.prog 52 #[.agg #[.int .i64 a, .int .i64 b], .slice A n c] w fun e w' => e = .returned (.tuple #[.bool (clB a b ts), .bool (goodB a b)]) ∧ Below w.heap.size w w' := by
  have HA := Lib.hid hA
  have HN := Lib.hid hn
  have HL := Lib.hid hA.len
  have HZ := Lib.hid hA.sz
  unfold maxLen at hn
  clear hA
  have X0 := Lib.hid (show Below w.heap.size w (w.alloc (.cells #[.int .i64 a, .int .i64 b] 26)) from (Below.refl _ _).alloc (Nat.le_refl _) _)
  have C0 := Lib.hid (box_new (W := w) (a := a) (b := b) (t := 26) rfl)
  have HBOX : Hid (∀ w1, Below (w.alloc (.cells #[.int .i64 a, .int .i64 b] 26)).heap.size (w.alloc (.cells #[.int .i64 a, .int .i64 b] 26)) w1 → w1.cell? ⟨w.heap.size, 0, none⟩ = some (.int .i64 a) ∧ w1.cell? ⟨w.heap.size, 1, none⟩ = some (.int .i64 b)) := Lib.hid fun w1 h => ⟨(C0.out.call h).cell (show 0 < 2 by omega), (C0.out.call h).cell (show 1 < 2 by omega)⟩
  by_cases hw : woB a b ts = true
  · have HW := Lib.hid hw
    obtain ⟨hg, -, m, hm⟩ := wo_parts hw
    have HG := Lib.hid hg
    obtain rfl : n = m + 1 := by rw [← HL.out]; exact hm
    have HCL := Lib.hid (cl_yes hw hm)
    obtain ⟨D, off, rfl, hbD, hcD⟩ := HA.out.at_.resolve_left (by omega)
    have o1 := hcD 0 (by omega)
    have o2 := hcD m (by omega)
    have HS := Lib.hid (HZ.out 0 (by omega))
    have HT := Lib.hid (HZ.out m (by omega))
    rw [Nat.add_zero] at o1
    clear hw hcD hg hm
    generalize ts.getD 0 ByteArray.empty = s at *
    generalize ts.getD m ByteArray.empty = t at *
    obtain ⟨q, hq⟩ : ∃ q, otB a b t s = q := ⟨_, rfl⟩
    obtain ⟨p, hp⟩ : ∃ p, otP a b t s = p := ⟨_, rfl⟩
    rw [hq] at HCL
    have HQ := Lib.hid hq
    have HP := Lib.hid hp
    have O1 := Lib.hid o1
    have O2 := Lib.hid o2
    clear hq hp o1 o2
    have hw1 : IntKind.i64.wrap (m : Int) = (m : Int) := IntWalk.i64_in _ (by omega)
    have hk0 : (0 : Int) < (m : Int) + 1 := by omega
    have hk3 : (m : Int) < (m : Int) + 1 := by omega
    go_enter Try.func52, Try.ntmps52
    go_wp2_with (go_at_call 50; refine (isWholeOrder_any _ _ _ _ _ ts _ HN.out (HA.out.below X0.out)).mono ?_; rw [HW.out, HG.out]; rintro e w1 ⟨rfl, hb1⟩
                 have X1 := Lib.hid (bel_call X0.out hb1)
                 have C1 := Lib.hid (C0.out.call hb1)
                 have j0 : w1.cell? ⟨w.heap.size, 0, none⟩ = some (.int .i64 a) := C1.out.cell (show 0 < 2 by omega)
                 have j1 : w1.cell? ⟨w.heap.size, 1, none⟩ = some (.int .i64 b) := C1.out.cell (show 1 < 2 by omega)
                 clear hb1)
    have o1 : w1.cell? ⟨D, off, none⟩ = some (.string s) := (X1.out.cell (p := ⟨D, off, none⟩) hbD).trans O1.out
    have o2 : w1.cell? ⟨D, off + m, none⟩ = some (.string t) := (X1.out.cell (p := ⟨D, off + m, none⟩) hbD).trans O2.out
    have zD : D < w1.heap.size := Nat.lt_of_lt_of_le hbD X1.out.size
    have zw : w.heap.size < w1.heap.size := C1.out.lt
    have jA0 : (w1.alloc (.cells #[.int .i64 0, .int .i64 0] 33)).cell? ⟨w.heap.size, 0, none⟩ = some (.int .i64 a) := (World.cell?_alloc_lt _ _ _ zw).trans j0
    have jA1 : (w1.alloc (.cells #[.int .i64 0, .int .i64 0] 33)).cell? ⟨w.heap.size, 1, none⟩ = some (.int .i64 b) := (World.cell?_alloc_lt _ _ _ zw).trans j1
    have oA1 : (w1.alloc (.cells #[.int .i64 0, .int .i64 0] 33)).cell? ⟨D, off, none⟩ = some (.string s) := (World.cell?_alloc_lt _ _ _ zD).trans o1
    have oA2 : (w1.alloc (.cells #[.int .i64 0, .int .i64 0] 33)).cell? ⟨D, off + m, none⟩ = some (.string t) := (World.cell?_alloc_lt _ _ _ zD).trans o2
    go_region_law (go_simp; go_at_call 82; refine (oneTurn_any _ _ _ _ _ HT.out HS.out).mono ?_; rw [HP.out, HQ.out]; unfold turnV; rintro e w5 ⟨rfl, hb5⟩
                   have hz5 := hb5.size
                   first
                     | (have D5 := Lib.hid ((cells_two (w := w1) (x := 0) (y := 0) (t := 33) (g := w1.heap.size) rfl).drew.call hb5)
                        have r0 := D5.out.cell (show 0 < 2 by omega)
                        have r1 := D5.out.cell (show 1 < 2 by omega)
                        have f0 := D5.out.frozen (show 0 < 2 by omega)
                        have f1 := D5.out.frozen (show 1 < 2 by omega))
                     | skip)
    all_goals
      first
        | (have ST4 := Lib.hid (show Below w1.heap.size w1 ((w5.setCell ⟨w1.heap.size, 0, none⟩ (.int .i64 p.1)).setCell ⟨w1.heap.size, 1, none⟩ (.int .i64 p.2)) from ((bel_call (bel_drew ((Below.refl _ _).alloc (Nat.le_refl _) _)) hb5).setCell (p := ⟨w1.heap.size, 0, none⟩) (Nat.le_refl _) _).setCell (p := ⟨w1.heap.size, 1, none⟩) (Nat.le_refl _) _)
           clear D5 r0 r1 f0 f1 hb5 hz5)
        | (have ST4 := Lib.hid (show Below w1.heap.size w1 (w5.alloc (.cells #[.int .i64 p.1, .int .i64 p.2] 33)) from (bel_call (bel_drew (Below.refl _ _)) hb5).alloc hz5 _)
           clear hb5 hz5)
      go_wp2_with fail
      go_ret2
      exact ⟨by rw [HCL.out, HG.out]; rfl, X1.out.trans (ST4.out.mono X1.out.size)⟩
  · have HW := Lib.hid (Bool.eq_false_iff.2 hw)
    have HCL := Lib.hid (cl_no HW.out)
    clear hw
    go_enter Try.func52, Try.ntmps52
    go_wp2_with (go_at_call 50; refine (isWholeOrder_any _ _ _ _ _ ts _ HN.out (HA.out.below X0.out)).mono ?_; rw [HW.out]; rintro e w1 ⟨rfl, hb1⟩
                 have X1 := Lib.hid (bel_call X0.out hb1)
                 obtain ⟨j0, j1⟩ := HBOX.out _ hb1
                 clear hb1)
    go_ret2
    exact ⟨by rw [HCL.out]; rfl, X1.out⟩

end Go.Proofs.Ytpbnleohbegccaa
