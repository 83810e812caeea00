/- The first turn that leads into a nearer layer, as the program finds it. For the layers of a search, and a code of the next one. -/
import Derived.Test.YtilnjlcljjpnmaaIx
import Derived.Test.YtilnjlcljjpnmaaSy
namespace Go.Proofs.Ytilnjlcljjpnmaa
open Go.ChangeShapes Go.WideShapes Go.ChangeAt Go.RowKit Go.Joins

theorem b2_new {W : World} {a b : Int} {t : TypeId} {g : Nat} (hg : g = W.heap.size) : Cells (W.alloc (.cells #[.int .i64 a, .int .i64 b] t)) g 2 (b2F a b) := box_new hg

set_option maxRecDepth 100000 in
set_option maxHeartbeats 4000000 in
theorem firstTurn_any (a b : Int) (Bv : Value) (al : ByteArray → Bool) (s y : ByteArray) (k Bm : Nat) (w : World) (hL : LyM w a b al s k Bm) (hy : askB a b y = true) (hw : 0 < wyA a b al s (k + 1) y) :
    Calls Try.prog 71 #[mzV a b Bv, .map (some Bm), .string y] w fun e w' =>
      e = .returned (.tuple #[.agg #[.int .i64 ((fsJ a b al s k y / 2 : Nat) : Int), .int .i64 (byW (fsJ a b al s k y))], .string (mvW b y (fsJ a b al s k y))]) ∧ Below w.heap.size w w' := by
  obtain ⟨f1, f2, f3⟩ := fsJ_yes hy hw
  obtain ⟨q, hq⟩ : ∃ q, fsJ a b al s k y = q := ⟨_, rfl⟩
  rw [hq] at f1 f2 f3 ⊢
  have HL := Lib.hid hL
  have HY := Lib.hid hy
  have HF2 := Lib.hid f2
  have HF3 := Lib.hid f3
  have hgd := (asked hy).good
  have HGD := Lib.hid hgd
  obtain ⟨an, hae⟩ : ∃ an : Nat, a = an := ⟨a.toNat, by have := good_yes hgd; omega⟩
  subst hae
  have han : 1 ≤ an ∧ an ≤ 6 := by have := good_yes hgd; omega
  have hq2 : q < 2 * an := by omega
  have C0 := Lib.hid (show Cells ((w.alloc (.cells #[.int .i64 an, .int .i64 b, Bv] 72)).alloc (.cells #[.int .i64 0, .int .i64 0] 68)) w.heap.size 3 (m3F an b Bv) from (m3_new (W := w) rfl).alloc _)
  have R0 := Lib.hid (show Cells ((w.alloc (.cells #[.int .i64 an, .int .i64 b, Bv] 72)).alloc (.cells #[.int .i64 0, .int .i64 0] 68)) (w.heap.size + 1) 2 (b2F 0 0) from b2_new (by simp))
  have X0 := Lib.hid (show Below w.heap.size w ((w.alloc (.cells #[.int .i64 an, .int .i64 b, Bv] 72)).alloc (.cells #[.int .i64 0, .int .i64 0] 68)) by (repeat (first | assumption | exact Below.refl _ _ | (refine Below.alloc ?_ (by first | omega | (simp; done) | (simp; omega)) _) | (refine Below.setCell ?_ (by first | omega | (simp; done) | (simp; omega)) _) | refine bel_drewN ?_ _ | refine bel_drew ?_ | (refine bel_call ?_ (by assumption)))))
  have l0 : ((w.alloc (.cells #[.int .i64 an, .int .i64 b, Bv] 72)).alloc (.cells #[.int .i64 0, .int .i64 0] 68)).cell? ⟨w.heap.size, 0, none⟩ = some (.int .i64 an) := C0.out.cell (show 0 < 3 by omega)
  clear hL hy hw f1 f2 f3 hq hgd
  unfold mzV
  go_enter Try.func71, Try.ntmps71
  go_wp2_with (go_at_call 112; refine (turnsInOrderO_any an _ (by omega)).mono ?_; rintro e w2 ⟨At, ct, rfl, hT, hb2⟩)
  obtain ⟨gT, rfl, hgT, hTC⟩ := hT.resolve_left (by omega)
  have HTC := Lib.hid hTC
  have C2 := Lib.hid (C0.out.call hb2)
  have R2 := Lib.hid (R0.out.call hb2)
  have X2 := Lib.hid (bel_call X0.out hb2)
  clear hT hTC hb2 l0 C0 R0 X0
  go_loopw [17] (fun i wr => ∃ j : Nat, j ≤ q ∧ i = .int .i64 j ∧ Cells wr w.heap.size 3 (m3F an b Bv) ∧ Cells wr (w.heap.size + 1) 2 (b2F 0 0) ∧ Cells wr gT (2 * an * 2) (turnF (turnsO an)) ∧ Below w.heap.size w wr) (fun i _ => 2 * an - (intOf i).toNat)
  case atStart => exact ⟨0, by omega, rfl, C2.out, R2.out, HTC.out, X2.out⟩
  case round =>
    clear C2 R2 HTC X2
    obtain ⟨j, hj, rfl, hC, hR, hT, hB⟩ := hrel
    have HC := Lib.hid hC
    have HR := Lib.hid hR
    have HT := Lib.hid hT
    have HB := Lib.hid hB
    clear hC hR hT hB
    have hlt : j < 2 * an := by omega
    have t0 := HT.out.cell (show j * 2 < 2 * an * 2 by omega)
    have t1 := HT.out.cell (show j * 2 + 1 < 2 * an * 2 by omega)
    rw [turnF_0, turnsO_at hlt] at t0
    rw [turnF_1, turnsO_at hlt] at t1
    have hj2 : j < 2 * (an : Int).toNat := by omega
    have HTB : Hid (turnB an ((j / 2 : Nat) : Int) (byO j) = true) := Lib.hid (byW_turn hj2)
    have HBO : Hid (byO j = byW j) := Lib.hid rfl
    obtain ⟨z, hz⟩ : ∃ z, mvW b y j = z := ⟨_, rfl⟩
    have HZ := Lib.hid hz
    have HTW : Hid (twZ an b y [(((j / 2 : Nat) : Int), byO j)] = z) := Lib.hid ((twW_one HY.out HTB.out).trans hz)
    have HZA : Hid (askB an b z = true) := Lib.hid (by rw [← hz]; exact mvW_ask HY.out hj2)
    have CN := Lib.hid (HC.out.alloc (.cells #[.int .i64 ((j / 2 : Nat) : Int), .int .i64 (byO j)] 68))
    have RN := Lib.hid (HR.out.alloc (.cells #[.int .i64 ((j / 2 : Nat) : Int), .int .i64 (byO j)] 68))
    have TN := Lib.hid (HT.out.alloc (.cells #[.int .i64 ((j / 2 : Nat) : Int), .int .i64 (byO j)] 68))
    have BN := Lib.hid (b2_new (W := wr) (a := ((j / 2 : Nat) : Int)) (b := byO j) (t := 68) rfl)
    have XN := Lib.hid (HB.out.alloc HB.out.size (.cells #[.int .i64 ((j / 2 : Nat) : Int), .int .i64 (byO j)] 68))
    have l0 := CN.out.cell (show 0 < 3 by omega)
    have l1 := CN.out.cell (show 1 < 3 by omega)
    change World.cell? _ _ = some (.int .i64 an) at l0
    change World.cell? _ _ = some (.int .i64 b) at l1
    obtain ⟨u, hu⟩ : ∃ u, wyA an b al s k z = u := ⟨_, rfl⟩
    have HU := Lib.hid hu
    by_cases hqj : j = q
    · have h2 : 0 < sat capN u := (sat_pos (by decide)).2 (by rw [← hu, ← hz, hqj]; exact HF2.out)
      clear HF2
      have HRES : Hid ((.tuple #[.agg #[.int .i64 ((q / 2 : Nat) : Int), .int .i64 (byW q)], .string (mvW b y q)] : Value) = .tuple #[.agg #[.int .i64 ((j / 2 : Nat) : Int), .int .i64 (byO j)], .string z]) := Lib.hid (by rw [← hqj, hz]; rfl)
      clear hqj hq2 hj
      obtain ⟨sv, hsv⟩ : ∃ sv, sat capN u = sv := ⟨_, rfl⟩
      have HSV := Lib.hid hsv
      rw [hsv] at h2
      clear hu hz hj2 hsv
      generalize ((j / 2 : Nat) : Int) = jw at t0 HTB HTW l0 l1 CN RN TN BN XN HRES
      generalize byO j = jb at t1 HTB HTW l0 l1 CN RN TN BN XN HBO HRES
      go_wp2_with (go_at_call 113; refine (turnWheel_any _ _ _ _ _ _ (askB_size HY.out)).mono ?_; rw [HTW.out]; rintro e w3 ⟨rfl, hb3⟩; have X3 := Lib.hid (bel_call XN.out hb3); have C3 := Lib.hid (CN.out.call hb3); have R3 := Lib.hid (RN.out.call hb3); have T3 := Lib.hid (TN.out.call hb3); have B3 := Lib.hid (BN.out.call hb3); have HLK := (HL.out.call X3.out).look (askB_size HZA.out); rw [HU.out, HSV.out] at HLK; have b0 : w3.cell? ⟨wr.heap.size, 0, none⟩ = some (.int .i64 jw) := B3.out.cell (show 0 < 2 by omega); have b1 : w3.cell? ⟨wr.heap.size, 1, none⟩ = some (.int .i64 jb) := B3.out.cell (show 1 < 2 by omega); have q0 : w3.cell? ⟨w.heap.size + 1, 0, none⟩ = some (.int .i64 0) := R3.out.cell (show 0 < 2 by omega); have q1 : w3.cell? ⟨w.heap.size + 1, 1, none⟩ = some (.int .i64 0) := R3.out.cell (show 1 < 2 by omega); have g0 := R3.out.frozen (show 0 < 2 by omega); have g1 := R3.out.frozen (show 1 < 2 by omega); clear hb3)
      refine bodyPost_ret (v := .tuple #[.agg #[.int .i64 jw, .int .i64 jb], .string z]) (by simp [results, Try.results71, go_sem, q0, q1]) rfl ?_
      exact ⟨by rw [HRES.out], (X3.out.setCell (p := ⟨w.heap.size + 1, 0, none⟩) (by show w.heap.size ≤ w.heap.size + 1; omega) _).setCell (p := ⟨w.heap.size + 1, 1, none⟩) (by show w.heap.size ≤ w.heap.size + 1; omega) _⟩
    · have h2 : u = 0 := by rw [← hu, ← hz]; exact HF3.out j (by omega)
      have HSV : Hid (sat capN u = 0) := Lib.hid (by rw [h2, sat_zero])
      clear hu hz hj2 h2
      generalize ((j / 2 : Nat) : Int) = jw at t0 HTB HTW l0 l1 CN RN TN BN XN
      generalize byO j = jb at t1 HTB HTW l0 l1 CN RN TN BN XN HBO
      go_wp2_with (go_at_call 113; refine (turnWheel_any _ _ _ _ _ _ (askB_size HY.out)).mono ?_; rw [HTW.out]; rintro e w3 ⟨rfl, hb3⟩; have X3 := Lib.hid (bel_call XN.out hb3); have C3 := Lib.hid (CN.out.call hb3); have R3 := Lib.hid (RN.out.call hb3); have T3 := Lib.hid (TN.out.call hb3); have B3 := Lib.hid (BN.out.call hb3); have HLK := (HL.out.call X3.out).look (askB_size HZA.out); rw [HU.out, HSV.out] at HLK; have b0 : w3.cell? ⟨wr.heap.size, 0, none⟩ = some (.int .i64 jw) := B3.out.cell (show 0 < 2 by omega); have b1 : w3.cell? ⟨wr.heap.size, 1, none⟩ = some (.int .i64 jb) := B3.out.cell (show 1 < 2 by omega); have q0 : w3.cell? ⟨w.heap.size + 1, 0, none⟩ = some (.int .i64 0) := R3.out.cell (show 0 < 2 by omega); have q1 : w3.cell? ⟨w.heap.size + 1, 1, none⟩ = some (.int .i64 0) := R3.out.cell (show 1 < 2 by omega); have g0 := R3.out.frozen (show 0 < 2 by omega); have g1 := R3.out.frozen (show 1 < 2 by omega); clear hb3)
      go_roundw
      case rel => exact ⟨j + 1, by omega, by go_num, C3.out, R3.out, T3.out, X3.out⟩
      case measure => simp [intOf]; omega

end Go.Proofs.Ytilnjlcljjpnmaa
