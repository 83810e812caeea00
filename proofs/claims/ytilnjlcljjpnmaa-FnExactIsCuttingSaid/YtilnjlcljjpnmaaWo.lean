/- A lock with one live code fewer. For maps that can be. -/
import Derived.Test.YtilnjlcljjpnmaaJt
import Derived.Test.YtilnjlcljjpnmaaMz
namespace Go.Proofs.Ytilnjlcljjpnmaa
open Go.ChangeShapes Go.WideShapes Go.ChangeAt Go.RowKit Go.Joins

theorem cloneB_any {w : World} {B : Nat} {L : List ByteArray} (h : MpS w RdB B L ltB) :
    Calls Try.prog 121 #[.map (some B)] w fun e w' => e = .returned (.map (some w.heap.size)) ∧ MpS w' RdB w.heap.size L ltB ∧ w.heap.size < w'.heap.size ∧ Below w.heap.size w w' := by
  obtain ⟨D, h1, h2⟩ := h
  refine (AnyW.maps_Clone_owns Try.cloneB 9 RdB B L.length D w h1).mono fun e w' ⟨he, h3, _, hb⟩ => ?_
  exact ⟨he, ⟨D, h3, h2⟩, h3.lt, hb⟩

/-- What stands when the map is cloned. -/
structure WoSt (w wr : World) (a b : Int) (gm gz : Nat) (L : List ByteArray) : Prop where
  mz : Cells wr gz 3 (m3F a b (.map (some gm)))
  res : Cells wr (w.heap.size + 1) 3 (m3F 0 0 (.map none))
  mp : MpS wr RdB gm L ltB
  bel : Below w.heap.size w wr
  gm1 : w.heap.size + 1 < gm
  gz1 : w.heap.size + 1 < gz
  ne : gm ≠ gz

theorem WoSt.z0 {w wr : World} {a b : Int} {gm gz : Nat} {L : List ByteArray} (h : WoSt w wr a b gm gz L) : wr.cell? ⟨gz, 0, none⟩ = some (.int .i64 a) := h.mz.cell (show 0 < 3 by omega)

theorem WoSt.z1 {w wr : World} {a b : Int} {gm gz : Nat} {L : List ByteArray} (h : WoSt w wr a b gm gz L) : wr.cell? ⟨gz, 1, none⟩ = some (.int .i64 b) := h.mz.cell (show 1 < 3 by omega)

theorem WoSt.z2 {w wr : World} {a b : Int} {gm gz : Nat} {L : List ByteArray} (h : WoSt w wr a b gm gz L) : wr.cell? ⟨gz, 2, none⟩ = some (.map (some gm)) := h.mz.cell (show 2 < 3 by omega)

theorem WoSt.r0 {w wr : World} {a b : Int} {gm gz : Nat} {L : List ByteArray} (h : WoSt w wr a b gm gz L) : wr.cell? ⟨w.heap.size + 1, 0, none⟩ = some (.int .i64 0) := h.res.cell (show 0 < 3 by omega)

theorem WoSt.r1 {w wr : World} {a b : Int} {gm gz : Nat} {L : List ByteArray} (h : WoSt w wr a b gm gz L) : wr.cell? ⟨w.heap.size + 1, 1, none⟩ = some (.int .i64 0) := h.res.cell (show 1 < 3 by omega)

theorem WoSt.r2 {w wr : World} {a b : Int} {gm gz : Nat} {L : List ByteArray} (h : WoSt w wr a b gm gz L) : wr.cell? ⟨w.heap.size + 1, 2, none⟩ = some (.map none) := h.res.cell (show 2 < 3 by omega)

theorem WoSt.turned {w wr w2 : World} {a b : Int} {gm gz : Nat} {L L' : List ByteArray} (h : WoSt w wr a b gm gz L) (hg : wr.grownBy w2 (some gm)) (hM : MpS w2 RdB gm L' ltB) : WoSt w w2 a b gm gz L' :=
  ⟨h.mz.grownM hg (fun e => by injection e with e; exact h.ne e.symm), h.res.grownM hg (fun e => by injection e with e; have := h.gm1; omega), hM, h.bel.grown hg h.bel.size (fun j hj => by injection hj with hj; have := h.gm1; omega), h.gm1, h.gz1, h.ne⟩

theorem WoSt.live {w wr : World} {a b : Int} {gm gz : Nat} {L : List ByteArray} {x : ByteArray} {al : ByteArray → Bool} {u0 u1 u2 : Value} (h : WoSt w wr a b gm gz (offS L x)) (hm : ∀ t, t ∈ L ↔ al t = true) :
    LiveM (((wr.setCell ⟨w.heap.size + 1, 0, none⟩ u0).setCell ⟨w.heap.size + 1, 1, none⟩ u1).setCell ⟨w.heap.size + 1, 2, none⟩ u2) gm (fun t => al t && !decide (t = x)) := by
  have := h.gm1
  refine ⟨offS L x, ((h.mp.setCell (by show gm ≠ w.heap.size + 1; omega) _).setCell (by show gm ≠ w.heap.size + 1; omega) _).setCell (by show gm ≠ w.heap.size + 1; omega) _, fun t => ?_⟩
  rw [mem_offS, hm]
  simp

theorem WoSt.q {w wr : World} {a b : Int} {gm gz : Nat} {L : List ByteArray} (h : WoSt w wr a b gm gz L) (u0 u1 u2 : Value) :
    (wr.setCell ⟨w.heap.size + 1, 0, none⟩ u0).cell? ⟨w.heap.size + 1, 0, none⟩ = some u0 ∧
    ((wr.setCell ⟨w.heap.size + 1, 0, none⟩ u0).setCell ⟨w.heap.size + 1, 1, none⟩ u1).cell? ⟨w.heap.size + 1, 1, none⟩ = some u1 ∧
    (((wr.setCell ⟨w.heap.size + 1, 0, none⟩ u0).setCell ⟨w.heap.size + 1, 1, none⟩ u1).setCell ⟨w.heap.size + 1, 2, none⟩ u2).cell? ⟨w.heap.size + 1, 2, none⟩ = some u2 := by
  have h0 := h.res.set_ (show 0 < 3 by omega) u0
  have h1 := h0.set_ (show 1 < 3 by omega) u1
  have h2 := h1.set_ (show 2 < 3 by omega) u2
  exact ⟨h0.cell (show 0 < 3 by omega), h1.cell (show 1 < 3 by omega), h2.cell (show 2 < 3 by omega)⟩

theorem WoSt.out {w wr : World} {a b : Int} {gm gz : Nat} {L : List ByteArray} {u0 u1 u2 : Value} (h : WoSt w wr a b gm gz L) :
    Below w.heap.size w (((wr.setCell ⟨w.heap.size + 1, 0, none⟩ u0).setCell ⟨w.heap.size + 1, 1, none⟩ u1).setCell ⟨w.heap.size + 1, 2, none⟩ u2) :=
  ((h.bel.setCell (by show w.heap.size ≤ w.heap.size + 1; omega) _).setCell (by show w.heap.size ≤ w.heap.size + 1; omega) _).setCell (by show w.heap.size ≤ w.heap.size + 1; omega) _

theorem wo_a {w w3 : World} {a b : Int} {v : Value} {L : List ByteArray} (hr : Cells ((w.alloc (.cells #[.int .i64 a, .int .i64 b, v] 72)).alloc (.cells #[.int .i64 0, .int .i64 0, .map none] 72)) (w.heap.size + 1) 3 (m3F 0 0 (.map none)))
    (hm : MpS w3 RdB ((w.alloc (.cells #[.int .i64 a, .int .i64 b, v] 72)).alloc (.cells #[.int .i64 0, .int .i64 0, .map none] 72)).drew.heap.size L ltB)
    (_ : ((w.alloc (.cells #[.int .i64 a, .int .i64 b, v] 72)).alloc (.cells #[.int .i64 0, .int .i64 0, .map none] 72)).drew.heap.size < w3.heap.size)
    (hb : Below ((w.alloc (.cells #[.int .i64 a, .int .i64 b, v] 72)).alloc (.cells #[.int .i64 0, .int .i64 0, .map none] 72)).drew.heap.size ((w.alloc (.cells #[.int .i64 a, .int .i64 b, v] 72)).alloc (.cells #[.int .i64 0, .int .i64 0, .map none] 72)).drew w3) :
    WoSt w (w3.alloc (.cells #[.int .i64 a, .int .i64 b, .map (some (w.heap.size + 1 + 1))] 72)) a b (w.heap.size + 1 + 1) w3.heap.size L := by
  have es : ((w.alloc (.cells #[.int .i64 a, .int .i64 b, v] 72)).alloc (.cells #[.int .i64 0, .int .i64 0, .map none] 72)).drew.heap.size = w.heap.size + 1 + 1 := by
    show ((w.alloc _).alloc _).heap.size = _
    rw [World.size_alloc, World.size_alloc]
  have hbel : Below w.heap.size w ((w.alloc (.cells #[.int .i64 a, .int .i64 b, v] 72)).alloc (.cells #[.int .i64 0, .int .i64 0, .map none] 72)).drew := bel_drew (((Below.refl _ _).alloc (Nat.le_refl _) _).alloc (by rw [World.size_alloc]; omega) _)
  rw [es] at hm
  exact ⟨m3_new rfl, (hr.drew.call hb).alloc _, hm.alloc _, (bel_call hbel hb).alloc (bel_call hbel hb).size _, by omega, by omega, by omega⟩

theorem wo_b {w w3 : World} {a b : Int} {v : Value} {L : List ByteArray} (hr : Cells ((w.alloc (.cells #[.int .i64 a, .int .i64 b, v] 72)).alloc (.cells #[.int .i64 0, .int .i64 0, .map none] 72)) (w.heap.size + 1) 3 (m3F 0 0 (.map none)))
    (hm : MpS w3 RdB (((w.alloc (.cells #[.int .i64 a, .int .i64 b, v] 72)).alloc (.cells #[.int .i64 0, .int .i64 0, .map none] 72)).drew.alloc (.cells #[.int .i64 0, .int .i64 0, .map none] 72)).heap.size L ltB)
    (_ : (((w.alloc (.cells #[.int .i64 a, .int .i64 b, v] 72)).alloc (.cells #[.int .i64 0, .int .i64 0, .map none] 72)).drew.alloc (.cells #[.int .i64 0, .int .i64 0, .map none] 72)).heap.size < w3.heap.size)
    (hb : Below (((w.alloc (.cells #[.int .i64 a, .int .i64 b, v] 72)).alloc (.cells #[.int .i64 0, .int .i64 0, .map none] 72)).drew.alloc (.cells #[.int .i64 0, .int .i64 0, .map none] 72)).heap.size (((w.alloc (.cells #[.int .i64 a, .int .i64 b, v] 72)).alloc (.cells #[.int .i64 0, .int .i64 0, .map none] 72)).drew.alloc (.cells #[.int .i64 0, .int .i64 0, .map none] 72)) w3)
    (hz : Cells w3 (w.heap.size + 1 + 1) 3 (m3F 0 0 (.map none))) :
    WoSt w (((w3.setCell ⟨w.heap.size + 1 + 1, 0, none⟩ (.int .i64 a)).setCell ⟨w.heap.size + 1 + 1, 1, none⟩ (.int .i64 b)).setCell ⟨w.heap.size + 1 + 1, 2, none⟩ (.map (some (w.heap.size + 1 + 1 + 1)))) a b (w.heap.size + 1 + 1 + 1) (w.heap.size + 1 + 1) L := by
  have es : (((w.alloc (.cells #[.int .i64 a, .int .i64 b, v] 72)).alloc (.cells #[.int .i64 0, .int .i64 0, .map none] 72)).drew.alloc (.cells #[.int .i64 0, .int .i64 0, .map none] 72)).heap.size = w.heap.size + 1 + 1 + 1 := by
    rw [World.size_alloc]
    show ((w.alloc _).alloc _).heap.size + 1 = _
    rw [World.size_alloc, World.size_alloc]
  have hbel : Below w.heap.size w (((w.alloc (.cells #[.int .i64 a, .int .i64 b, v] 72)).alloc (.cells #[.int .i64 0, .int .i64 0, .map none] 72)).drew.alloc (.cells #[.int .i64 0, .int .i64 0, .map none] 72)) :=
    (bel_drew (((Below.refl _ _).alloc (Nat.le_refl _) _).alloc (by rw [World.size_alloc]; omega) _)).alloc (bel_drew (((Below.refl _ _).alloc (Nat.le_refl _) _).alloc (by rw [World.size_alloc]; omega) _)).size _
  have hB := bel_call hbel hb
  rw [es] at hm
  refine ⟨(((hz.set_ (show 0 < 3 by omega) (.int .i64 a)).set_ (show 1 < 3 by omega) (.int .i64 b)).set_ (show 2 < 3 by omega) (.map (some (w.heap.size + 1 + 1 + 1)))).congr fun j hj => ?_,
    ((((hr.drew.alloc _).call hb).far (show w.heap.size + 1 + 1 ≠ w.heap.size + 1 by omega) _).far (show w.heap.size + 1 + 1 ≠ w.heap.size + 1 by omega) _).far (show w.heap.size + 1 + 1 ≠ w.heap.size + 1 by omega) _,
    ((hm.setCell (by show w.heap.size + 1 + 1 + 1 ≠ w.heap.size + 1 + 1; omega) _).setCell (by show w.heap.size + 1 + 1 + 1 ≠ w.heap.size + 1 + 1; omega) _).setCell (by show w.heap.size + 1 + 1 + 1 ≠ w.heap.size + 1 + 1; omega) _,
    ((hB.setCell (by show w.heap.size ≤ w.heap.size + 1 + 1; omega) _).setCell (by show w.heap.size ≤ w.heap.size + 1 + 1; omega) _).setCell (by show w.heap.size ≤ w.heap.size + 1 + 1; omega) _, by omega, by omega, by omega⟩
  have : j = 0 ∨ j = 1 ∨ j = 2 := by omega
  rcases this with rfl | rfl | rfl <;> rfl

set_option maxRecDepth 100000 in
set_option maxHeartbeats 4000000 in
theorem without_any (a b : Int) (B : Nat) (al : ByteArray → Bool) (x : ByteArray) (w : World) (hL : LiveM w B al) (hx : x.size ≤ maxLen) :
    Calls Try.prog 89 #[mzV a b (.map (some B)), .string x] w fun e w' => ∃ B', e = .returned (mzV a b (.map (some B'))) ∧ w.heap.size ≤ B' ∧ LiveM w' B' (fun t => al t && !decide (t = x)) ∧ Below w.heap.size w w' := by
  obtain ⟨L, hM, hm⟩ := hL
  have HM := Lib.hid hM
  have HX := Lib.hid hx
  have HMEM := Lib.hid hm
  have C0 := Lib.hid ((m3_new (W := w) (a := a) (b := b) (v := .map (some B)) (t := 72) rfl).alloc (.cells #[.int .i64 0, .int .i64 0, .map none] 72))
  have R0 := Lib.hid (m3_new (W := w.alloc (.cells #[.int .i64 a, .int .i64 b, .map (some B)] 72)) (a := 0) (b := 0) (v := .map none) (t := 72) (g := w.heap.size + 1) (by simp))
  have CZ := Lib.hid (show Cells ((((w.alloc (.cells #[.int .i64 a, .int .i64 b, .map (some B)] 72)).alloc (.cells #[.int .i64 0, .int .i64 0, .map none] 72)).drew).alloc (.cells #[.int .i64 0, .int .i64 0, .map none] 72)) (w.heap.size + 1 + 1) 3 (m3F 0 0 (.map none)) from m3_new (by simp))
  clear hM hx hm
  unfold mzV
  go_enter Try.func89, Try.ntmps89
  go_wp2_with fail
  go_region_with (go_at_call 121; first
    | (refine (cloneB_any (((HM.out.alloc _).alloc _).drew)).mono ?_; rintro e w3 ⟨rfl, hm3, hlt3, hb3⟩; have C3 := Lib.hid (C0.out.drew.call hb3); have k0 : w3.cell? ⟨w.heap.size, 0, none⟩ = some (.int .i64 a) := C3.out.cell (show 0 < 3 by omega); have k1 : w3.cell? ⟨w.heap.size, 1, none⟩ = some (.int .i64 b) := C3.out.cell (show 1 < 3 by omega); have k2 : w3.cell? ⟨w.heap.size, 2, none⟩ = some (.map (some B)) := C3.out.cell (show 2 < 3 by omega); have A3 := Lib.hid (C3.out.alloc (.cells #[.int .i64 0, .int .i64 0, .map none] 72)); have j0 : (w3.alloc (.cells #[.int .i64 0, .int .i64 0, .map none] 72)).cell? ⟨w.heap.size, 0, none⟩ = some (.int .i64 a) := A3.out.cell (show 0 < 3 by omega); have j1 : (w3.alloc (.cells #[.int .i64 0, .int .i64 0, .map none] 72)).cell? ⟨w.heap.size, 1, none⟩ = some (.int .i64 b) := A3.out.cell (show 1 < 3 by omega); have j2 : (w3.alloc (.cells #[.int .i64 0, .int .i64 0, .map none] 72)).cell? ⟨w.heap.size, 2, none⟩ = some (.map (some B)) := A3.out.cell (show 2 < 3 by omega))
    | (refine (cloneB_any ((((HM.out.alloc _).alloc _).drew).alloc _)).mono ?_; rintro e w3 ⟨rfl, hm3, hlt3, hb3⟩; have C3 := Lib.hid ((C0.out.drew.alloc _).call hb3); have k0 : w3.cell? ⟨w.heap.size, 0, none⟩ = some (.int .i64 a) := C3.out.cell (show 0 < 3 by omega); have k1 : w3.cell? ⟨w.heap.size, 1, none⟩ = some (.int .i64 b) := C3.out.cell (show 1 < 3 by omega); have k2 : w3.cell? ⟨w.heap.size, 2, none⟩ = some (.map (some B)) := C3.out.cell (show 2 < 3 by omega); have Z3 := Lib.hid (CZ.out.call hb3); have p0 : w3.cell? ⟨w.heap.size + 1 + 1, 0, none⟩ = some (.int .i64 0) := Z3.out.cell (show 0 < 3 by omega); have p1 : w3.cell? ⟨w.heap.size + 1 + 1, 1, none⟩ = some (.int .i64 0) := Z3.out.cell (show 1 < 3 by omega); have p2 : w3.cell? ⟨w.heap.size + 1 + 1, 2, none⟩ = some (.map none) := Z3.out.cell (show 2 < 3 by omega); have q0 := Z3.out.frozen (show 0 < 3 by omega); have q1 := Z3.out.frozen (show 1 < 3 by omega); have q2 := Z3.out.frozen (show 2 < 3 by omega)))
  all_goals first
    | (have ST := Lib.hid (show WoSt w (w3.alloc (.cells #[.int .i64 a, .int .i64 b, .map (some (w.heap.size + 1 + 1))] 72)) a b (w.heap.size + 1 + 1) w3.heap.size L from wo_a R0.out hm3 hlt3 hb3)
       have HQ := Lib.hid (fun (w4 : World) L4 (h : WoSt w w4 a b (w.heap.size + 1 + 1) w3.heap.size L4) => h.q (.int .i64 a) (.int .i64 b) (.map (some (w.heap.size + 1 + 1)))))
    | (have ST := Lib.hid (show WoSt w (((w3.setCell ⟨w.heap.size + 1 + 1, 0, none⟩ (.int .i64 a)).setCell ⟨w.heap.size + 1 + 1, 1, none⟩ (.int .i64 b)).setCell ⟨w.heap.size + 1 + 1, 2, none⟩ (.map (some (w.heap.size + 1 + 1 + 1)))) a b (w.heap.size + 1 + 1 + 1) (w.heap.size + 1 + 1) L from wo_b R0.out hm3 hlt3 hb3 Z3.out)
       have HQ := Lib.hid (fun (w4 : World) L4 (h : WoSt w w4 a b (w.heap.size + 1 + 1 + 1) (w.heap.size + 1 + 1) L4) => h.q (.int .i64 a) (.int .i64 b) (.map (some (w.heap.size + 1 + 1 + 1)))))
  all_goals
    have z2 := ST.out.z2
    have HG3 := Lib.hid ST.out.gm1
    try clear p0 p1 p2 q0 q1 q2
    try clear j0 j1 j2
    clear k0 k1 k2 hm3 hlt3 hb3
    go_wp2_with (at_delete; refine wpList_drop_S rfl _ _ _ _ rfl Try.underlying70 ST.out.mp x HX.out rfl rfl ?_; intro w4 hL4 hg4 hs4; have S4 := Lib.hid (ST.out.turned hg4 hL4); have y0 := S4.out.z0; have y1 := S4.out.z1; have y2 := S4.out.z2; have r0 := S4.out.r0; have r1 := S4.out.r1; have r2 := S4.out.r2; have f0 := S4.out.res.frozen (show 0 < 3 by omega); have f1 := S4.out.res.frozen (show 1 < 3 by omega); have f2 := S4.out.res.frozen (show 2 < 3 by omega); clear hL4 hg4 hs4)
    obtain ⟨q0, q1, q2⟩ := HQ.out _ _ S4.out
    refine bodyPost_ret (v := .agg #[.int .i64 a, .int .i64 b, .map (some _)]) (by simp [results, Try.results89, go_sem, q0, q1, q2]; rfl) rfl ?_
    exact ⟨_, rfl, by have := HG3.out; omega, S4.out.live HMEM.out, S4.out.out⟩

end Go.Proofs.Ytilnjlcljjpnmaa
