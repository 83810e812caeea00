/- A clue that is none comes to the recovered door: whether clues hold one. For locks of puzzles. -/
import Derived.Test.YtgdjbclkdnmebaaDoorUd
namespace Go.Proofs.YtgdjbclkdnmebaaDoor
open Go.ChangeShapes Go.WideShapes Go.ChangeAt Go.RowKit Go.Joins

theorem cAll_snoc {cs : List Clu} {k : Nat} {p : Clu → Bool} (h : k < cs.length) (ha : (cs.take k).all p = true) (hd : p (cs.getD k cu0) = true) : (cs.take (k + 1)).all p = true := by
  rw [List.take_succ_eq_append_getElem h, List.all_append, ha]
  simpa [List.getD, List.getElem?_eq_getElem h] using hd

theorem cAll_not {cs : List Clu} {k : Nat} {p : Clu → Bool} (h : k < cs.length) (hd : p (cs.getD k cu0) = false) : cs.all p = false := by
  rw [List.all_eq_false]
  refine ⟨cs[k], List.getElem_mem _, ?_⟩
  simpa [List.getD, List.getElem?_eq_getElem h] using hd

theorem cAll_end {cs : List Clu} {k : Nat} {p : Clu → Bool} (h : cs.length ≤ k) (ha : (cs.take k).all p = true) : cs.all p = true := by
  rwa [List.take_of_length_le h] at ha

set_option maxHeartbeats 2000000 in
theorem meetsNone_any (a b : Int) (A : Option Addr) (n c : Nat) (cs : List Clu) (w : World) (hn : n ≤ maxLen) (hp : puzB a b = true) (hA : ArgC w A n cs) :
    Calls Tryd.prog 83 #[.agg #[.int .i64 a, .int .i64 b], .slice A n c] w fun e w' => e = .returned (.bool (!(cs.all (cluB a b)))) ∧ Below w.heap.size w w' := by
  have hmf : ∀ (fn : Fn) (first cap : Array Value) (w : World), (Instr.makeFunc fn first cap).run Tryd.prog w = .ok (.func fn first cap) w := fun _ _ _ _ => rfl
  unfold maxLen at hn
  have HL := Lib.hid hA.len
  have HP := Lib.hid hp
  have HAT := Lib.hid hA.at_
  obtain ⟨r, hr⟩ : ∃ r, cs.all (cluB a b) = r := ⟨_, rfl⟩
  rw [hr]
  have HRR := Lib.hid hr
  clear hp hA hr
  go_enter_defers Tryd.func83, Tryd.ntmps83
  go_wp2_with fail
  clear hmf
  go_loopw [10] (fun i wr => ∃ k : Nat, k ≤ n ∧ i = .int .i64 k ∧ (cs.take k).all (cluB a b) = true ∧ wr.cell? ⟨w.heap.size, 0, none⟩ = some (.int .i64 a) ∧ wr.cell? ⟨w.heap.size, 1, none⟩ = some (.int .i64 b) ∧ wr.cell? ⟨w.heap.size + 1, 0, none⟩ = some (.bool false) ∧ wr.frozen? ⟨w.heap.size + 1, 0, none⟩ = false ∧ w.heap.size + 1 < wr.heap.size ∧ Below w.heap.size w wr) (fun i _ => n - (intOf i).toNat)
  case atStart => exact ⟨0, by omega, rfl, rfl, by simp, by simp, by simp, by simp, by simp, by (repeat (first | assumption | exact Below.refl _ _ | (refine Below.alloc ?_ (by first | omega | (simp; done) | (simp; omega)) _) | (refine Below.setCell ?_ (by first | omega | (simp; done) | (simp; omega)) _) | refine bel_drewN ?_ _ | refine bel_drew ?_ | (refine bel_call ?_ (by assumption))))⟩
  case round =>
    obtain ⟨k, hk, rfl, hall, l0, l1, m0, z0, hz2, hB⟩ := hrel
    have HAL := Lib.hid hall
    clear hall
    have hz3 : w.heap.size < wr.heap.size := by omega
    by_cases hlt : k < n
    · obtain ⟨bk, off, rfl, hb, hc⟩ := HAT.out.resolve_left (by omega)
      have o0 : wr.cell? ⟨bk, off + k * 3, none⟩ = some (.int .i64 (cs.getD k cu0).1) := by rw [hB.cell (p := ⟨bk, off + k * 3, none⟩) hb]; exact (hc k hlt).1
      have o1 : wr.cell? ⟨bk, off + k * 3 + 1, none⟩ = some (.int .i64 (cs.getD k cu0).2.1) := by rw [hB.cell (p := ⟨bk, off + k * 3 + 1, none⟩) hb]; exact (hc k hlt).2.1
      have o2 : wr.cell? ⟨bk, off + k * 3 + 2, none⟩ = some (.int .i64 (cs.getD k cu0).2.2) := by rw [hB.cell (p := ⟨bk, off + k * 3 + 2, none⟩) hb]; exact (hc k hlt).2.2
      have HF1 : Hid (cluB a b (cs.getD k cu0) = true → (cs.take (k + 1)).all (cluB a b) = true) := Lib.hid (cAll_snoc (by rw [HL.out]; exact hlt) HAL.out)
      have HF0 : Hid (cluB a b (cs.getD k cu0) = false → r = false) := Lib.hid (fun e => by rw [← HRR.out]; exact cAll_not (by rw [HL.out]; exact hlt) e)
      obtain ⟨q, hq⟩ : ∃ q, q = cs.getD k cu0 := ⟨_, rfl⟩
      rw [← hq] at o0 o1 o2 HF1 HF0
      clear hq hc
      obtain ⟨x, y, z⟩ := q
      dsimp only at o0 o1 o2
      by_cases hcl : cluB a b (x, y, z) = true
      · have HC := Lib.hid hcl
        have HN := Lib.hid (HF1.out hcl)
        clear hcl
        go_wp2_with (go_at_call 103; refine (checkClue_ok _ _ _ _ _ _ HP.out HC.out).mono ?_; rintro e w3 ⟨rfl, hb3⟩)
        have hW : Below wr.heap.size wr w3 := by
          clear hB
          (repeat (first | assumption | exact Below.refl _ _ | (refine Below.alloc ?_ (by first | omega | (simp; done) | (simp; omega)) _) | (refine Below.setCell ?_ (by first | omega | (simp; done) | (simp; omega)) _) | refine bel_drewN ?_ _ | refine bel_drew ?_ | (refine bel_call ?_ (by assumption))))
        have HW := Lib.hid hW
        clear hW hb3
        go_roundw
        case rel => exact ⟨k + 1, by omega, by go_num, HN.out, by rw [HW.out.cell (p := ⟨w.heap.size, 0, none⟩) (by show w.heap.size < wr.heap.size; omega)]; exact l0, by rw [HW.out.cell (p := ⟨w.heap.size, 1, none⟩) (by show w.heap.size < wr.heap.size; omega)]; exact l1, by rw [HW.out.cell (p := ⟨w.heap.size + 1, 0, none⟩) hz2]; exact m0, by rw [HW.out.frozen (p := ⟨w.heap.size + 1, 0, none⟩) hz2]; exact z0, by have := HW.out.size; omega, bel_call hB HW.out⟩
        case measure => simp [intOf]; omega
      · have HC := Lib.hid (Bool.eq_false_iff.2 hcl)
        have HN := Lib.hid (HF0.out HC.out)
        clear hcl
        go_wp2_with (go_at_call 103; refine (checkClue_no _ _ _ _ _ _ HP.out HC.out).mono ?_; rintro e w3 ⟨rfl, hb3⟩)
        have hW : Below wr.heap.size wr w3 := by
          clear hB
          (repeat (first | assumption | exact Below.refl _ _ | (refine Below.alloc ?_ (by first | omega | (simp; done) | (simp; omega)) _) | (refine Below.setCell ?_ (by first | omega | (simp; done) | (simp; omega)) _) | refine bel_drewN ?_ _ | refine bel_drew ?_ | (refine bel_call ?_ (by assumption))))
        have HW := Lib.hid hW
        clear hW hb3
        have m1 : w3.cell? ⟨w.heap.size + 1, 0, none⟩ = some (.bool false) := by rw [HW.out.cell (p := ⟨w.heap.size + 1, 0, none⟩) hz2]; exact m0
        have z1 : w3.frozen? ⟨w.heap.size + 1, 0, none⟩ = false := by rw [HW.out.frozen (p := ⟨w.heap.size + 1, 0, none⟩) hz2]; exact z0
        refine leaves_cons (f := 102) (args := #[.pointer (some ⟨w.heap.size + 1, 0, none⟩)]) (by simp) (by simp [go_sem]) ?_
        refine (door_panicking ⟨w.heap.size + 1, 0, none⟩ _ _ [] _ m1 z1).mono ?_
        rintro e u' w'' ⟨rfl, rfl, rfl⟩
        simp [Leaves, settle, results, Tryd.results83, go_sem, m1]
        exact ⟨HN.out, (bel_call hB HW.out).setCell (by show w.heap.size ≤ w.heap.size + 1; omega) _⟩
    · have HN : Hid (r = true) := Lib.hid (by rw [← HRR.out]; exact cAll_end (by rw [HL.out]; omega) HAL.out)
      go_wp2_with fail
      refine leaves_cons (f := 102) (args := #[.pointer (some ⟨w.heap.size + 1, 0, none⟩)]) (by simp) (by simp [go_sem]) ?_
      refine (door_idle ⟨w.heap.size + 1, 0, none⟩ (.bool false) _ (by simp [go_sem, m0]) (by simp [go_sem, z0])).mono ?_
      rintro e u' w'' ⟨rfl, rfl, rfl⟩
      simp [Leaves, settle, results, Tryd.results83, go_sem, m0]
      exact ⟨HN.out, (hB.setCell (by show w.heap.size ≤ w.heap.size + 1; omega) _).setCell (by show w.heap.size ≤ w.heap.size + 1; omega) _⟩

set_option maxHeartbeats 2000000 in
theorem pzGood_any (a b : Int) (A : Option Addr) (n c : Nat) (cs : List Clu) (w : World) (hn : n ≤ maxLen) (hA : ArgC w A n cs) :
    Calls Tryd.prog 42 #[.agg #[.int .i64 a, .int .i64 b, .slice A n c]] w fun e w' => e = .returned (.bool (pzB a b cs)) ∧ Below w.heap.size w w' := by
  unfold maxLen at hn
  have HL := Lib.hid hA.len
  have HAT := Lib.hid hA.at_
  clear hA
  by_cases hp : puzB a b = true
  · have HP := Lib.hid hp
    by_cases h6 : n ≤ 6
    · have HV : Hid (pzB a b cs = cs.all (cluB a b)) := Lib.hid (by unfold pzB; rw [hp, decide_eq_true (show cs.length ≤ 6 by rw [HL.out]; exact h6)]; rfl)
      clear hp
      obtain ⟨r, hr⟩ : ∃ r, cs.all (cluB a b) = r := ⟨_, rfl⟩
      rw [HV.out, hr]
      have HRR := Lib.hid hr
      clear hr HV
      go_enter Tryd.func42, Tryd.ntmps42
      go_wp2_with (go_at_call 79; refine (pzLock_any _ _ _).mono ?_; rw [HP.out]; rintro e w1 ⟨rfl, hb⟩; obtain ⟨hc, hf, hz⟩ := bcell hb; have hz0 : w.heap.size < w1.heap.size := by (try simp at hz); omega)
      have hB1 : Below w.heap.size w w1 := by (repeat (first | assumption | exact Below.refl _ _ | (refine Below.alloc ?_ (by first | omega | (simp; done) | (simp; omega)) _) | (refine Below.setCell ?_ (by first | omega | (simp; done) | (simp; omega)) _) | refine bel_drewN ?_ _ | refine bel_drew ?_ | (refine bel_call ?_ (by assumption))))
      have q0 : w1.cell? ⟨w.heap.size, 0, none⟩ = some (.int .i64 a) := by rw [hc _ _ (by simp)]; simp
      have q1 : w1.cell? ⟨w.heap.size, 1, none⟩ = some (.int .i64 b) := by rw [hc _ _ (by simp)]; simp
      clear hc hf hz hb
      go_loopw [18] (fun i wr => ∃ k : Nat, k ≤ n ∧ i = .int .i64 k ∧ (cs.take k).all (cluB a b) = true ∧ wr.cell? ⟨w.heap.size, 0, none⟩ = some (.int .i64 a) ∧ wr.cell? ⟨w.heap.size, 1, none⟩ = some (.int .i64 b) ∧ w.heap.size < wr.heap.size ∧ Below w.heap.size w wr) (fun i _ => n - (intOf i).toNat)
      case atStart => exact ⟨0, by omega, rfl, rfl, q0, q1, hz0, hB1⟩
      case round =>
        clear q0 q1 hz0 hB1
        obtain ⟨k, hk, rfl, hall, l0, l1, hz3, hB⟩ := hrel
        have HAL := Lib.hid hall
        clear hall
        by_cases hlt : k < n
        · obtain ⟨bk, off, rfl, hb, hc⟩ := HAT.out.resolve_left (by omega)
          have o0 : wr.cell? ⟨bk, off + k * 3, none⟩ = some (.int .i64 (cs.getD k cu0).1) := by rw [hB.cell (p := ⟨bk, off + k * 3, none⟩) hb]; exact (hc k hlt).1
          have o1 : wr.cell? ⟨bk, off + k * 3 + 1, none⟩ = some (.int .i64 (cs.getD k cu0).2.1) := by rw [hB.cell (p := ⟨bk, off + k * 3 + 1, none⟩) hb]; exact (hc k hlt).2.1
          have o2 : wr.cell? ⟨bk, off + k * 3 + 2, none⟩ = some (.int .i64 (cs.getD k cu0).2.2) := by rw [hB.cell (p := ⟨bk, off + k * 3 + 2, none⟩) hb]; exact (hc k hlt).2.2
          have HF1 : Hid (cluB a b (cs.getD k cu0) = true → (cs.take (k + 1)).all (cluB a b) = true) := Lib.hid (cAll_snoc (by rw [HL.out]; exact hlt) HAL.out)
          have HF0 : Hid (cluB a b (cs.getD k cu0) = false → r = false) := Lib.hid (fun e => by rw [← HRR.out]; exact cAll_not (by rw [HL.out]; exact hlt) e)
          obtain ⟨q, hq⟩ : ∃ q, q = cs.getD k cu0 := ⟨_, rfl⟩
          rw [← hq] at o0 o1 o2 HF1 HF0
          clear hq hc
          obtain ⟨x, y, z⟩ := q
          dsimp only at o0 o1 o2
          by_cases hcl : cluB a b (x, y, z) = true
          · have HC := Lib.hid hcl
            have HN := Lib.hid (HF1.out hcl)
            clear hcl
            go_wp2_with (go_at_call 80; refine (pzClue_any _ _ _ _ _ _ HP.out).mono ?_; rw [HC.out]; rintro e w3 ⟨rfl, hb3⟩)
            have hW : Below wr.heap.size wr w3 := by
              clear hB
              (repeat (first | assumption | exact Below.refl _ _ | (refine Below.alloc ?_ (by first | omega | (simp; done) | (simp; omega)) _) | (refine Below.setCell ?_ (by first | omega | (simp; done) | (simp; omega)) _) | refine bel_drewN ?_ _ | refine bel_drew ?_ | (refine bel_call ?_ (by assumption))))
            have HW := Lib.hid hW
            clear hW hb3
            go_roundw
            case rel => exact ⟨k + 1, by omega, by go_num, HN.out, by rw [HW.out.cell (p := ⟨w.heap.size, 0, none⟩) hz3]; exact l0, by rw [HW.out.cell (p := ⟨w.heap.size, 1, none⟩) hz3]; exact l1, by have := HW.out.size; omega, bel_call hB HW.out⟩
            case measure => simp [intOf]; omega
          · have HC := Lib.hid (Bool.eq_false_iff.2 hcl)
            have HN := Lib.hid (HF0.out HC.out)
            clear hcl
            go_wp2_with (go_at_call 80; refine (pzClue_any _ _ _ _ _ _ HP.out).mono ?_; rw [HC.out]; rintro e w3 ⟨rfl, hb3⟩)
            have hW : Below wr.heap.size wr w3 := by
              clear hB
              (repeat (first | assumption | exact Below.refl _ _ | (refine Below.alloc ?_ (by first | omega | (simp; done) | (simp; omega)) _) | (refine Below.setCell ?_ (by first | omega | (simp; done) | (simp; omega)) _) | refine bel_drewN ?_ _ | refine bel_drew ?_ | (refine bel_call ?_ (by assumption))))
            go_ret
            exact ⟨ret_bool HN.out.symm, bel_call hB hW⟩
        · have HN : Hid (r = true) := Lib.hid (by rw [← HRR.out]; exact cAll_end (by rw [HL.out]; omega) HAL.out)
          go_wp2_with fail
          go_ret
          exact ⟨ret_bool HN.out.symm, hB⟩
    · have HV : Hid (pzB a b cs = false) := Lib.hid (by unfold pzB; rw [decide_eq_false (show ¬ cs.length ≤ 6 by rw [HL.out]; exact h6), Bool.and_false]; rfl)
      clear hp
      go_enter Tryd.func42, Tryd.ntmps42
      go_wp2_with (go_at_call 79; refine (pzLock_any _ _ _).mono ?_; rw [HP.out]; rintro e w1 ⟨rfl, hb⟩; obtain ⟨hc, hf, hz⟩ := bcell hb; have hz0 : w.heap.size < w1.heap.size := by (try simp at hz); omega)
      go_ret
      refine ⟨ret_bool HV.out.symm, ?_⟩
      (repeat (first | assumption | exact Below.refl _ _ | (refine Below.alloc ?_ (by first | omega | (simp; done) | (simp; omega)) _) | (refine Below.setCell ?_ (by first | omega | (simp; done) | (simp; omega)) _) | refine bel_drewN ?_ _ | refine bel_drew ?_ | (refine bel_call ?_ (by assumption))))
  · have HP := Lib.hid (Bool.eq_false_iff.2 hp)
    have HV : Hid (pzB a b cs = false) := Lib.hid (by unfold pzB; rw [HP.out]; rfl)
    clear hp
    go_enter Tryd.func42, Tryd.ntmps42
    go_wp2_with (go_at_call 79; refine (pzLock_any _ _ _).mono ?_; rw [HP.out]; rintro e w1 ⟨rfl, hb⟩; obtain ⟨hc, hf, hz⟩ := bcell hb; have hz0 : w.heap.size < w1.heap.size := by (try simp at hz); omega)
    go_ret
    refine ⟨ret_bool HV.out.symm, ?_⟩
    (repeat (first | assumption | exact Below.refl _ _ | (refine Below.alloc ?_ (by first | omega | (simp; done) | (simp; omega)) _) | (refine Below.setCell ?_ (by first | omega | (simp; done) | (simp; omega)) _) | refine bel_drewN ?_ _ | refine bel_drew ?_ | (refine bel_call ?_ (by assumption))))

set_option maxHeartbeats 1000000 in
theorem isPuzzle_any (a b : Int) (A : Option Addr) (n c : Nat) (cs : List Clu) (w : World) (hn : n ≤ maxLen) (hA : ArgC w A n cs) :
    Calls Tryd.prog 46 #[.agg #[.int .i64 a, .int .i64 b, .slice A n c]] w fun e w' => e = .returned (.bool (pzB a b cs)) ∧ Below w.heap.size w w' := by
  have HN := Lib.hid hn
  unfold maxLen at hn
  have HL := Lib.hid hA.len
  have hA1 := hA.below ((Below.refl _ _).alloc (Nat.le_refl _) (.cells #[.int .i64 a, .int .i64 b, .slice A n c] 46))
  have HA := Lib.hid hA1
  clear hA hA1
  by_cases hp : puzB a b = true
  · have HP := Lib.hid hp
    by_cases h6 : n ≤ 6
    · have HV : Hid (pzB a b cs = cs.all (cluB a b)) := Lib.hid (by unfold pzB; rw [hp, decide_eq_true (show cs.length ≤ 6 by rw [HL.out]; exact h6)]; rfl)
      clear hp
      obtain ⟨r, hr⟩ : ∃ r, cs.all (cluB a b) = r := ⟨_, rfl⟩
      rw [HV.out, hr]
      have HRR := Lib.hid hr
      clear hr HV
      go_enter Tryd.func46, Tryd.ntmps46
      go_wp2_with (first | (go_at_call 82; refine (isPuzzled_any _ _ _).mono ?_; rw [HP.out]; rintro e w1 ⟨rfl, hb⟩; obtain ⟨hc, hf, hz⟩ := bcell hb; have hz0 : w.heap.size < w1.heap.size := by (try simp at hz); omega) | (go_at_call 83; refine (meetsNone_any _ _ _ _ _ cs _ HN.out HP.out (HA.out.below hb)).mono ?_; rw [HRR.out]; rintro e w2 ⟨rfl, hb2⟩))
      go_ret
      refine ⟨rfl, ?_⟩
      (repeat (first | assumption | exact Below.refl _ _ | (refine Below.alloc ?_ (by first | omega | (simp; done) | (simp; omega)) _) | (refine Below.setCell ?_ (by first | omega | (simp; done) | (simp; omega)) _) | refine bel_drewN ?_ _ | refine bel_drew ?_ | (refine bel_call ?_ (by assumption))))
    · have HV : Hid (pzB a b cs = false) := Lib.hid (by unfold pzB; rw [decide_eq_false (show ¬ cs.length ≤ 6 by rw [HL.out]; exact h6), Bool.and_false]; rfl)
      clear hp
      go_enter Tryd.func46, Tryd.ntmps46
      go_wp2_with (go_at_call 82; refine (isPuzzled_any _ _ _).mono ?_; rw [HP.out]; rintro e w1 ⟨rfl, hb⟩; obtain ⟨hc, hf, hz⟩ := bcell hb; have hz0 : w.heap.size < w1.heap.size := by (try simp at hz); omega)
      go_ret
      refine ⟨ret_bool HV.out.symm, ?_⟩
      (repeat (first | assumption | exact Below.refl _ _ | (refine Below.alloc ?_ (by first | omega | (simp; done) | (simp; omega)) _) | (refine Below.setCell ?_ (by first | omega | (simp; done) | (simp; omega)) _) | refine bel_drewN ?_ _ | refine bel_drew ?_ | (refine bel_call ?_ (by assumption))))
  · have HP := Lib.hid (Bool.eq_false_iff.2 hp)
    have HV : Hid (pzB a b cs = false) := Lib.hid (by unfold pzB; rw [HP.out]; rfl)
    clear hp
    go_enter Tryd.func46, Tryd.ntmps46
    go_wp2_with (go_at_call 82; refine (isPuzzled_any _ _ _).mono ?_; rw [HP.out]; rintro e w1 ⟨rfl, hb⟩; obtain ⟨hc, hf, hz⟩ := bcell hb; have hz0 : w.heap.size < w1.heap.size := by (try simp at hz); omega)
    go_ret
    refine ⟨ret_bool HV.out.symm, ?_⟩
    (repeat (first | assumption | exact Below.refl _ _ | (refine Below.alloc ?_ (by first | omega | (simp; done) | (simp; omega)) _) | (refine Below.setCell ?_ (by first | omega | (simp; done) | (simp; omega)) _) | refine bel_drewN ?_ _ | refine bel_drew ?_ | (refine bel_call ?_ (by assumption))))

theorem pzB_one (a b : Int) (c : Clu) : pzB a b [c] = (puzB a b && cluB a b c) := by
  unfold pzB
  simp

theorem one_clue {w : World} {g : Nat} {k x y : Int} (hg : g = w.heap.size) : ArgC (w.alloc (.cells #[.int .i64 k, .int .i64 x, .int .i64 y] 77)) (some ⟨g, 0, none⟩) 1 [(k, x, y)] :=
  argC_of rfl ((Cells.new (n := 3) hg rfl).congr fun j hj => by
    have : j = 0 ∨ j = 1 ∨ j = 2 := by omega
    rcases this with rfl | rfl | rfl <;> rfl)

end Go.Proofs.YtgdjbclkdnmebaaDoor
