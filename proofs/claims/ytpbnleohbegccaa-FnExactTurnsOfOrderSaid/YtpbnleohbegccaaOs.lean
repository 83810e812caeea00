/- The turns of an order, as the model tells them. For lists that can be. -/
import Derived.Test.YtpbnleohbegccaaOm
import Derived.Test.YtpbnleohbegccaaOl
import Derived.Test.YtpbnleohbegccaaOf
namespace Go.Proofs.Ytpbnleohbegccaa
open Go.ChangeShapes Go.WideShapes Go.ChangeAt Go.RowKit Go.Joins

/-- What the making holds. -/
structure TsSt (w wr : World) (a b : Int) (ts : List ByteArray) (B0 k : Nat) (v : Value) : Prop where
  row : wr.ownsRow B0 33 2 v k (tv (trL a b ts (k + 1)))
  box : Cells wr w.heap.size 2 (b2F a b)
  bel : Below w.heap.size w wr
  big : w.heap.size < B0 ∧ B0 ≤ wr.heap.size

theorem TsSt.call {w wr w2 : World} {a b : Int} {ts : List ByteArray} {B0 k : Nat} {v : Value} (h : TsSt w wr a b ts B0 k v) (hb : Below wr.heap.size wr w2) : TsSt w w2 a b ts B0 k v :=
  ⟨own_below h.row hb, h.box.call hb, bel_call h.bel hb, ⟨h.big.1, Nat.le_trans h.big.2 hb.size⟩⟩

theorem TsSt.grown {w wr w2 : World} {a b : Int} {ts : List ByteArray} {B0 k : Nat} {v v' : Value} {k' : Nat} (h : TsSt w wr a b ts B0 k v) (hr : w2.ownsRow B0 33 2 v' k' (tv (trL a b ts (k' + 1)))) (hg : wr.grownBy w2 v.ownBlock) : TsSt w w2 a b ts B0 k' v' := by
  have hb := h.big
  have hne : ∀ g, v.ownBlock = some g → B0 ≤ g := fun g e => (h.row.lt g e).1
  refine ⟨hr, ?_, h.bel.grown hg h.bel.size (fun j hj => by have := hne _ hj; omega), ⟨hb.1, by have := hg.size; omega⟩⟩
  have e1 := hg.block w.heap.size h.box.lt (fun e => by have := hne _ e.symm; omega)
  exact ⟨Nat.lt_of_lt_of_le h.box.lt hg.size, fun j hj => by
    have := h.box.at_ j hj
    rw [World.cell?_of_block (a := ⟨w.heap.size, j, none⟩) e1, World.frozen?_of_block (a := ⟨w.heap.size, j, none⟩) e1]; exact this⟩

set_option maxRecDepth 100000 in
set_option maxHeartbeats 8000000 in
theorem specTurnsOfOrder_any (a b : Int) (A : Option Addr) (n c : Nat) (ts : List ByteArray) (w : World) (hn : n ≤ maxLen) (hA : ArgS w A n ts) :
    Calls Try.prog 53 #[.agg #[.int .i64 a, .int .i64 b], .slice A n c] w (TurnsOut w (orT a b ts) (orB a b ts)) := by
  have HA := Lib.hid hA
  have HN := Lib.hid hn
  have HL := Lib.hid hA.len
  clear hA hn
  have X0 := Lib.hid (show Below w.heap.size w (w.alloc (.cells #[.int .i64 a, .int .i64 b] 26)) from (Below.refl _ _).alloc (Nat.le_refl _) _)
  have C0 := Lib.hid (box_new (W := w) (a := a) (b := b) (t := 26) rfl)
  by_cases hg : goodB a b = true
  · have HG := Lib.hid hg
    clear hg
    have HBOX : Hid (∀ w1, Below (w.alloc (.cells #[.int .i64 a, .int .i64 b] 26)).heap.size (w.alloc (.cells #[.int .i64 a, .int .i64 b] 26)) w1 → w1.cell? ⟨w.heap.size, 0, none⟩ = some (.int .i64 a) ∧ w1.cell? ⟨w.heap.size, 1, none⟩ = some (.int .i64 b)) := Lib.hid fun w1 h => ⟨(C0.out.call h).cell (show 0 < 2 by omega), (C0.out.call h).cell (show 1 < 2 by omega)⟩
    by_cases ho : orB a b ts = true
    · have HO := Lib.hid ho
      obtain ⟨-, h1, hok⟩ := or_parts ho
      rw [HL.out] at h1 hok
      have HOK := Lib.hid hok
      obtain ⟨i0, hi, hy0, hy1, hy2⟩ := info_parts info_turn
      clear ho hok
      go_enter Try.func53, Try.ntmps53
      go_wp2_with (first
        | (go_at_call 88; refine (whGood_any _ _ _).mono ?_; rw [HG.out]; rintro e w1 ⟨rfl, hb1⟩
           obtain ⟨l0, l1⟩ := HBOX.out _ hb1
           have X1 := Lib.hid (bel_call X0.out hb1)
           have C1 := Lib.hid (C0.out.call hb1)
           clear hb1)
        | (go_at_call 90; refine (orGood_any _ _ _ _ _ ts _ HN.out HG.out (HA.out.below X1.out)).mono ?_; rw [HO.out]; rintro e w2 ⟨rfl, hb2⟩
           have X2 := Lib.hid (bel_call X1.out hb2)
           have C2 := Lib.hid (C1.out.call hb2)
           clear hb2))
      have ST0 := Lib.hid (show TsSt w w2 a b ts w2.heap.size 0 (.slice none 0 0) from
        ⟨by exact World.ownsRow_nil _ _ _ _, C2.out, X2.out, ⟨C2.out.lt, Nat.le_refl _⟩⟩)
      clear l0 l1 X1 C1 X2 C2
      generalize w2.heap.size = B0 at *
      go_loopw [6, 7] (fun v i wr => ∃ k : Nat, (k = 0 ∨ k + 1 ≤ n) ∧ i = .int .i64 (k + 1 : Nat) ∧ TsSt w wr a b ts B0 k v) (fun _ i _ => n - (intOf i).toNat)
      case atStart => exact ⟨0, .inl rfl, rfl, ST0.out⟩
      case round =>
        clear ST0
        obtain ⟨k, hk, rfl, hS⟩ := hrel
        have HST := Lib.hid hS
        clear hS
        by_cases hlt : k + 1 < n
        · obtain ⟨D, off, rfl, hbD, hcD⟩ := HA.out.at_.resolve_left (by omega)
          have o1 : wr.cell? ⟨D, off + k, none⟩ = some (.string (ts.getD k ByteArray.empty)) := (HST.out.bel.cell (p := ⟨D, off + k, none⟩) hbD).trans (hcD k (by omega))
          have o2 : wr.cell? ⟨D, off + (k + 1), none⟩ = some (.string (ts.getD (k + 1) ByteArray.empty)) := (HST.out.bel.cell (p := ⟨D, off + (k + 1), none⟩) hbD).trans (hcD (k + 1) hlt)
          have l0 : wr.cell? ⟨w.heap.size, 0, none⟩ = some (.int .i64 a) := HST.out.box.cell (show 0 < 2 by omega)
          have l1 : wr.cell? ⟨w.heap.size, 1, none⟩ = some (.int .i64 b) := HST.out.box.cell (show 1 < 2 by omega)
          have H2 : Hid (twoB a b (ts.getD k ByteArray.empty) (ts.getD (k + 1) ByteArray.empty) = true) := Lib.hid (by
            unfold twoB; rw [ok_ask (HOK.out k (by omega)), ok_ask (HOK.out (k + 1) hlt)]; rfl)
          have HOT := Lib.hid (ok_turn (HOK.out (k + 1) hlt))
          have HTR := Lib.hid (trL_snoc a b ts k)
          generalize ts.getD k ByteArray.empty = s at o1 H2 HOT HTR
          generalize ts.getD (k + 1) ByteArray.empty = t at o2 H2 HOT HTR
          obtain ⟨p, hp⟩ : ∃ p, otP a b s t = p := ⟨_, rfl⟩
          rw [hp] at HTR
          have HP := Lib.hid hp
          have hk0 : (0 : Int) ≤ (k : Int) + 1 := by omega
          have hk1 : k < n := by omega
          have hw1 : IntKind.i64.wrap (k : Int) = (k : Int) := IntWalk.i64_in _ (by omega)
          clear hp hcD hbD
          go_wp2_with fail
          go_region_law (first
            | (go_simp; go_at_call 81; refine (orTurn_any _ _ _ _ _ H2.out HOT.out).mono ?_; rw [HP.out]; unfold turnV; rintro e w5 ⟨rfl, hb5⟩
               have ST5 := Lib.hid (HST.out.call (show Below wr.heap.size wr w5 from bel_call (bel_drew (Below.refl _ _)) hb5))
               have ST6 := Lib.hid (ST5.out.call ((Below.refl _ _).alloc (Nat.le_refl _) (.cells #[.int .i64 p.1, .int .i64 p.2] 33))))
            | (refine step_app rfl (.tmp 23) (.tmp 35) 53 rfl B0 33 i0 (.agg #[.int .i64 0, .int .i64 0]) 2 16 Try.underlying53 hi hy0 hy1 hy2 rfl (by decide) u6 k (tv (trL a b ts (k + 1))) rfl ST6.out.row ⟨w5.heap.size, 0, none⟩ 1 1 [.int .i64 p.1, .int .i64 p.2] rfl rfl (news_at rfl) (by simp [Value.oneCell']) (by unfold maxLen; omega) (by omega) ST6.out.big.2 ?_; intro v' w6 hown' hgrow
               have ST7 : Hid (TsSt w w6 a b ts B0 (k + 1) v') := Lib.hid (ST6.out.grown (by rw [HTR.out, tv_app]; exact hown') hgrow)
               clear hgrow hown'))
          all_goals
            go_wp2_with fail
            go_roundw
            case rel => exact ⟨k + 1, .inr (by omega), by go_num, ST7.out⟩
            case measure => simp [intOf]; omega
        · go_wp2_with fail
          go_ret2
          rw [orT_yes HO.out, HO.out, HL.out]
          have hr := HST.out.row
          have hbg := HST.out.big
          have hl := trL_length a b ts n
          have e1 : trL a b ts n = trL a b ts (k + 1) := by
            rcases hk with rfl | hk
            · rcases Nat.eq_zero_or_pos n with rfl | h
              · rfl
              · obtain rfl : n = 1 := by omega
                rfl
            · obtain rfl : n = k + 1 := by omega
              rfl
          have hl1 := trL_length a b ts (k + 1)
          rw [e1] at hl ⊢
          exact turns_some (base := B0) (by omega) (by omega) (by rw [hl1]; exact hr) HST.out.bel
    · have HO := Lib.hid (Bool.eq_false_iff.2 ho)
      clear ho
      go_enter Try.func53, Try.ntmps53
      go_wp2_with (first
        | (go_at_call 88; refine (whGood_any _ _ _).mono ?_; rw [HG.out]; rintro e w1 ⟨rfl, hb1⟩
           obtain ⟨l0, l1⟩ := HBOX.out _ hb1
           have X1 := Lib.hid (bel_call X0.out hb1)
           clear hb1)
        | (go_at_call 90; refine (orGood_any _ _ _ _ _ ts _ HN.out HG.out (HA.out.below X1.out)).mono ?_; rw [HO.out]; rintro e w2 ⟨rfl, hb2⟩
           have X2 := Lib.hid (bel_call X1.out hb2)
           clear hb2))
      go_ret2
      rw [orT_no HO.out, HO.out]
      exact turns_none X2.out
  · have HG := Lib.hid (Bool.eq_false_iff.2 hg)
    have HO : Hid (orB a b ts = false) := Lib.hid (by unfold orB; rw [HG.out]; rfl)
    clear hg
    go_enter Try.func53, Try.ntmps53
    go_wp2_with (go_at_call 88; refine (whGood_any _ _ _).mono ?_; rw [HG.out]; rintro e w1 ⟨rfl, hb⟩; obtain ⟨hc, hf, hz⟩ := bcell hb; have hz0 : w.heap.size < w1.heap.size := by (try simp at hz); omega)
    go_ret2
    rw [orT_no HO.out, HO.out]
    refine turns_none ?_
    (repeat (first | assumption | exact Below.refl _ _ | (refine Below.alloc ?_ (by first | omega | (simp; done) | (simp; omega)) _) | (refine Below.setCell ?_ (by first | omega | (simp; done) | (simp; omega)) _) | refine bel_drewN ?_ _ | refine bel_drew ?_ | (refine bel_call ?_ (by assumption))))

end Go.Proofs.Ytpbnleohbegccaa
