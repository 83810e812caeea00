/- The live codes next to a code, as the model lists them. For lists that can be. -/
import Derived.Test.YtilnjlcljjpnmaaNext3
import Derived.Test.YtilnjlcljjpnmaaLn
import Derived.Test.YtilnjlcljjpnmaaMs
namespace Go.Proofs.Ytilnjlcljjpnmaa
open Go.ChangeShapes Go.WideShapes Go.ChangeAt Go.RowKit Go.Joins

theorem take_keep {L : List ByteArray} {p : ByteArray → Bool} {k : Nat} (hk : k < L.length) : (L.take (k + 1)).filter p = (L.take k).filter p ++ if p (L.getD k ByteArray.empty) then [L.getD k ByteArray.empty] else [] := by
  rw [List.take_succ_eq_append_getElem hk, List.filter_append, ← getD_eq hk]
  congr 1
  generalize L.getD k ByteArray.empty = x
  cases h : p x <;> simp [h]

set_option maxRecDepth 100000 in
set_option maxHeartbeats 4000000 in
theorem specLiveNext_any (a b : Int) (A : Option Addr) (n c : Nat) (ts : List ByteArray) (s : ByteArray) (w : World) (hn : n ≤ maxLen) (hs : s.size ≤ maxLen) (hA : ArgS w A n ts) :
    Calls Try.prog 57 #[.agg #[.int .i64 a, .int .i64 b], .slice A n c, .string s] w (StrsOut w (lnL a b ts s) (dkB a b ts s)) := by
  have HA := Lib.hid hA
  have HN := Lib.hid hn
  have HS := Lib.hid hs
  obtain ⟨i0, hi, hy0, hy1, hy2⟩ := info_parts info_string
  have C0 := Lib.hid (box_new (W := w) (a := a) (b := b) (t := 28) rfl)
  have X0 := Lib.hid (show Below w.heap.size w (w.alloc (.cells #[.int .i64 a, .int .i64 b] 28)) from (Below.refl _ _).alloc (Nat.le_refl _) _)
  clear hA hn hs
  by_cases hd : dkB a b ts s = true
  · have HD := Lib.hid hd
    have HY := Lib.hid (dkB_parts hd).2.2.2.2.1
    obtain ⟨hn0, hn1⟩ := next_some HY.out
    have HV : Hid (lnL a b ts s = (nextL a b s).filter (fun t => !inS ts t)) := Lib.hid (by unfold lnL; rw [hd, if_pos rfl])
    obtain ⟨L, hL⟩ : ∃ L, nextL a b s = L := ⟨_, rfl⟩
    have HL := Lib.hid hL
    rw [hL] at hn0 hn1 HV
    clear hd hL
    go_enter Try.func57, Try.ntmps57
    go_wp2_with (go_at_call 76; refine (deAsked_any _ _ _ _ _ ts _ _ HN.out HS.out (HA.out.below X0.out)).mono ?_; rw [HD.out]; rintro e w1 ⟨rfl, hb1⟩; have X1 := Lib.hid (bel_call X0.out hb1); have C1 := Lib.hid (C0.out.call hb1); have k0 : w1.cell? ⟨w.heap.size, 0, none⟩ = some (.int .i64 a) := C1.out.cell (show 0 < 2 by omega); have k1 : w1.cell? ⟨w.heap.size, 1, none⟩ = some (.int .i64 b) := C1.out.cell (show 1 < 2 by omega); clear hb1)
    refine (specNext_any _ _ _ _ HS.out).mono ?_
    rintro e w2 ⟨A2, c2, rfl, hO, hb2⟩
    rw [HL.out] at hO ⊢
    have X2 := Lib.hid (bel_call X1.out hb2)
    obtain ⟨g, rfl, hg, hC⟩ := hO.2.2.resolve_left (by omega)
    have HC := Lib.hid hC
    obtain ⟨N, hN⟩ : ∃ N, L.length = N := ⟨_, rfl⟩
    have HNL := Lib.hid hN
    rw [hN] at hn0 hn1 HC ⊢
    clear hO hC hb2 k0 k1 X1 C1 hN
    go_wp2_with fail
    obtain ⟨R, hR⟩ : ∃ R, w2.heap.size = R := ⟨_, rfl⟩
    have hwR : w.heap.size ≤ R := by rw [← hR]; exact X2.out.size
    have hRle := Nat.le_of_eq hR.symm
    have hgR : g < R := by rw [← hR]; exact HC.out.lt
    clear hR
    go_loopw [10, 26] (fun v i wr => ∃ (k m : Nat), k ≤ N ∧ i = .int .i64 k ∧ ((L.take k).filter fun t => !inS ts t).length = m ∧ m ≤ k ∧ wr.ownsRow R 9 1 v m (sv ((L.take k).filter fun t => !inS ts t)) ∧ Cells wr g N (strF L) ∧ Below w.heap.size w wr ∧ R ≤ wr.heap.size) (fun _ i _ => N - (intOf i).toNat)
    case atStart => exact ⟨0, 0, by omega, rfl, rfl, Nat.le_refl _, World.ownsRow_nil _ _ _ _, HC.out, X2.out, hRle⟩
    case round =>
      clear HC X2 hRle
      obtain ⟨k, m, hk, rfl, hm, hmk, hO, hC, hB, hRl⟩ := hrel
      have HO := Lib.hid hO
      have HC := Lib.hid hC
      have HB := Lib.hid hB
      have HM := Lib.hid hm
      clear hO hC hB hm
      by_cases hlt : k < N
      · have z := HC.out.cell hlt
        have HTK := Lib.hid (take_keep (L := L) (p := fun t => !inS ts t) (k := k) (by rw [HNL.out]; exact hlt))
        unfold strF at z
        generalize L.getD k ByteArray.empty = x at z HTK
        obtain ⟨d, hd⟩ : ∃ d, inS ts x = d := ⟨_, rfl⟩
        have HDD := Lib.hid hd
        simp only [hd] at HTK
        clear hd
        rcases d with _ | _
        · have HTK2 : Hid ((L.take (k + 1)).filter (fun t => !inS ts t) = (L.take k).filter (fun t => !inS ts t) ++ [x]) := Lib.hid (by rw [HTK.out]; rfl)
          clear HTK
          go_wp2_with (first
            | (go_at_call 80; refine (l1HasS_any _ _ _ ts _ _ HN.out (HA.out.below HB.out)).mono ?_; rw [HDD.out]; rintro e w4 ⟨rfl, rfl⟩)
            | (at_builtin; refine wpList_append_own _ rfl _ _ 24 rfl R 9 i0 (.string ByteArray.empty) 1 16 Try.underlying24 hi hy0 hy1 hy2 rfl (by decide) _ _ _ rfl (HO.out.alloc _) ⟨wr.heap.size, 0, none⟩ 1 1 [.string x] rfl rfl (news_of rfl) (by simp [Value.oneCell']) (by unfold maxLen; omega) (by omega) (by rw [World.size_alloc]; omega) ?_; intro v' w6 hown' hgrow _))
          have hOb := HO.out.lt
          have HB6 := Lib.hid ((HB.out.alloc HB.out.size (.cells #[.string x] 9)).grown hgrow (HB.out.alloc HB.out.size (.cells #[.string x] 9)).size (fun j hj => Nat.le_trans hwR (hOb j hj).1))
          have HC6 := Lib.hid ((HC.out.alloc (.cells #[.string x] 9)).grownM hgrow (fun e => by have := (hOb g e.symm).1; omega))
          have R6 : R ≤ w6.heap.size := by have := hgrow.size; rw [World.size_alloc] at this; omega
          have HO6 : Hid (w6.ownsRow R 9 1 v' (m + 1) (sv ((L.take (k + 1)).filter fun t => !inS ts t))) := Lib.hid (by rw [HTK2.out, sv_snoc]; exact hown')
          have HM6 : Hid (((L.take (k + 1)).filter fun t => !inS ts t).length = m + 1) := Lib.hid (by rw [HTK2.out, List.length_append, HM.out]; rfl)
          clear hgrow hown' hOb
          go_wp2_with fail
          go_roundw
          case rel => exact ⟨k + 1, m + 1, by omega, by go_num, HM6.out, by omega, HO6.out, HC6.out, HB6.out, R6⟩
          case measure => simp [intOf]; omega
        · have HTK2 : Hid ((L.take (k + 1)).filter (fun t => !inS ts t) = (L.take k).filter (fun t => !inS ts t)) := Lib.hid (by rw [HTK.out]; simp)
          clear HTK
          go_wp2_with (go_at_call 80; refine (l1HasS_any _ _ _ ts _ _ HN.out (HA.out.below HB.out)).mono ?_; rw [HDD.out]; rintro e w4 ⟨rfl, rfl⟩)
          go_roundw
          case rel => exact ⟨k + 1, m, by omega, by go_num, by rw [HTK2.out]; exact HM.out, by omega, by rw [HTK2.out]; exact HO.out, HC.out, HB.out, hRl⟩
          case measure => simp [intOf]; omega
      · obtain rfl : k = N := by omega
        have hall : L.take k = L := List.take_of_length_le (by rw [HNL.out]; exact Nat.le_refl _)
        have HO2 := HO.out
        have HM2 := HM.out
        rw [hall] at HO2 HM2
        have HVO := Lib.hid HO2
        have HVM := Lib.hid HM2
        clear hall HO2 HM2
        go_wp2_with fail
        go_ret2
        rw [HV.out, HD.out]
        exact strs_some HVM.out (by omega) hwR HVO.out HB.out
  · have HD := Lib.hid (Bool.eq_false_iff.2 hd)
    have HV : Hid (lnL a b ts s = []) := Lib.hid (by unfold lnL; rw [HD.out]; rfl)
    clear hd
    go_enter Try.func57, Try.ntmps57
    go_wp2_with (go_at_call 76; refine (deAsked_any _ _ _ _ _ ts _ _ HN.out HS.out (HA.out.below X0.out)).mono ?_; rw [HD.out]; rintro e w1 ⟨rfl, hb1⟩; have X1 := Lib.hid (bel_call X0.out hb1); clear hb1)
    go_ret2
    rw [HV.out, HD.out]
    exact strs_none X1.out

/-- The contract's answer, as the law's walk carries it. -/
theorem StrsOut.ls {w w' : World} {ts : List ByteArray} {ok : Bool} {e : Ending} (h : StrsOut w ts ok e w') :
    ∃ A c, e = .returned (.tuple #[.slice A ts.length c, .bool ok]) ∧ LS w' w.heap.size w'.heap.size A ts ∧ Below w.heap.size w w' := by
  obtain ⟨A, c, rfl, hO, hb⟩ := h
  exact ⟨A, c, rfl, LS.of_own hO, hb⟩

end Go.Proofs.Ytilnjlcljjpnmaa
