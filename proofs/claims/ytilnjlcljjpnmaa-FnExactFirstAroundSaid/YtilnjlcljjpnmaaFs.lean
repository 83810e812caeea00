/- The first way around dead codes, as the model makes it. For lists that can be. -/
import Derived.Test.YtilnjlcljjpnmaaFa
import Derived.Test.YtilnjlcljjpnmaaQm
import Derived.Deep.DeepCutAuto
namespace Go.Proofs.Ytilnjlcljjpnmaa
open Go.ChangeShapes Go.WideShapes Go.ChangeAt Go.RowKit Go.Joins

/-- How long a slice is. -/
def vlen : Value → Nat
  | .slice _ n _ => n
  | _ => 0

theorem row_vlen {w : World} {base : Nat} {e : TypeId} {size : Nat} {v : Value} {n : Nat} {xs : List Value} (h : w.ownsRow base e size v n xs) : vlen v = n := by
  obtain ⟨A, c, rfl⟩ := ownO_any h
  rfl

theorem row_cap {w : World} {base : Nat} {e : TypeId} {size : Nat} {A : Option Addr} {c n : Nat} {xs : List Value} (h : w.ownsRow base e size (.slice A n c) n xs) : n ≤ c := by
  rcases h.2 with ⟨h0, h1⟩ | ⟨g, cap, cur, h0, _, _, hc, _⟩
  · omega
  · injection h0 with _ _ h0; omega

/-- What the model's making of the way holds. -/
structure FsM (w wr : World) (a b : Int) (gf M : Nat) (f : ByteArray → Int) : Prop where
  box : Cells wr w.heap.size 2 (b2F a b)
  far : Cells wr gf M (farF a b f)
  bel : Below w.heap.size w wr

theorem FsM.call {w wr w2 : World} {a b : Int} {gf M : Nat} {f : ByteArray → Int} (h : FsM w wr a b gf M f) (hb : Below wr.heap.size wr w2) : FsM w w2 a b gf M f := ⟨h.box.call hb, h.far.call hb, bel_call h.bel hb⟩

theorem FsM.alloc {w wr : World} {a b : Int} {gf M : Nat} {f : ByteArray → Int} (h : FsM w wr a b gf M f) (o : Obj) : FsM w (wr.alloc o) a b gf M f := h.call ((Below.refl _ _).alloc (Nat.le_refl _) o)

theorem FsM.k0 {w wr : World} {a b : Int} {gf M : Nat} {f : ByteArray → Int} (h : FsM w wr a b gf M f) : wr.cell? ⟨w.heap.size, 0, none⟩ = some (.int .i64 a) := h.box.cell (show 0 < 2 by omega)

theorem FsM.k1 {w wr : World} {a b : Int} {gf M : Nat} {f : ByteArray → Int} (h : FsM w wr a b gf M f) : wr.cell? ⟨w.heap.size, 1, none⟩ = some (.int .i64 b) := h.box.cell (show 1 < 2 by omega)

theorem FsM.at_ {w wr : World} {a b : Int} {gf M : Nat} {f : ByteArray → Int} (h : FsM w wr a b gf M f) {z : ByteArray} {zn : Nat} {y : Int} (hz : askB a b z = true) (hzn : nuN a b z = zn) (hM : cnN a b = M) (hy : f z = y) : wr.cell? ⟨gf, zn, none⟩ = some (.int .i64 y) := by
  have hlt := nuN_lt hz
  rw [hM, hzn] at hlt
  rw [h.far.cell hlt]
  unfold farF
  rw [← hzn, cd_nu hz, hy]

theorem FsM.grown {w wr w2 : World} {a b : Int} {gf M : Nat} {f : ByteArray → Int} {row : Option Nat} (h : FsM w wr a b gf M f) (hg : wr.grownBy w2 row) (h1 : some w.heap.size ≠ row) (h2 : some gf ≠ row) (h3 : ∀ g, row = some g → w.heap.size ≤ g) : FsM w w2 a b gf M f :=
  ⟨h.box.grownC hg h1, h.far.grownC hg h2, h.bel.grown hg h.bel.size h3⟩

/-- Where the way has come to. -/
structure PtAt (a b : Int) (al : ByteArray → Bool) (t : ByteArray) (P : List Nat) (d i : Nat) (y : ByteArray) : Prop where
  ask : askB a b y = true
  at_ : 0 < wyA a b al t (d - i) y
  rest : P.drop i = ptW a b al t (d - i) y

theorem tuW_take {P : List Nat} {i : Nat} (hi : i < P.length) : tuW (P.take (i + 1)) = tuW (P.take i) ++ [(((P.getD i 0 / 2 : Nat) : Int), byW (P.getD i 0))] := by
  rw [List.take_succ_eq_append_getElem hi]
  unfold tuW
  rw [List.map_append]
  simp [List.getD, hi]

set_option maxRecDepth 100000 in
set_option maxHeartbeats 8000000 in
theorem specFirstAround_any (a b : Int) (A : Option Addr) (n c : Nat) (ts : List ByteArray) (s t : ByteArray) (w : World) (hn : n ≤ maxLen) (hs : s.size ≤ maxLen) (ht : t.size ≤ maxLen) (hA : ArgS w A n ts) :
    Calls Try.prog 26 #[.agg #[.int .i64 a, .int .i64 b], .slice A n c, .string s, .string t] w (FaOut w a b ts s t) := by
  have HA := Lib.hid hA
  have HN := Lib.hid hn
  have HS := Lib.hid hs
  have HT := Lib.hid ht
  have C0 := Lib.hid (box_new (W := w) (a := a) (b := b) (t := 28) rfl)
  have X0 := Lib.hid (show Below w.heap.size w (w.alloc (.cells #[.int .i64 a, .int .i64 b] 28)) from (Below.refl _ _).alloc (Nat.le_refl _) _)
  clear hA hn hs ht
  by_cases hd : dtB a b ts s t = true
  · have HD := Lib.hid hd
    have HP := Lib.hid (dkB_parts (dtB_parts hd).1)
    have HQ := Lib.hid (dkB_parts (dtB_parts hd).2)
    have HFB : Hid (faB a b ts s t = decide (0 ≤ lvZ a b ts t s)) := Lib.hid (by unfold faB rcB; rw [hd, lvZ_sym HP.out.2.2.2.2.2.2 HQ.out.2.2.2.2.2.2]; rfl)
    have hM := HP.out.2.2.2.1
    obtain ⟨i0, hi, hz0, hz1, hz2⟩ := info_parts info_turn
    obtain ⟨an, hae⟩ : ∃ an : Nat, a = an := ⟨a.toNat, by have := good_yes HP.out.2.2.1; omega⟩
    subst hae
    have han : 1 ≤ an ∧ an ≤ 6 := by have := good_yes HP.out.2.2.1; omega
    obtain ⟨M, hMe⟩ : ∃ M, cnN an b = M := ⟨_, rfl⟩
    have HM := Lib.hid hMe
    have hsn := nuN_lt HP.out.2.2.2.2.1
    rw [hMe] at hM hsn
    obtain ⟨sn0, hsne⟩ : ∃ q, nuN an b s = q := ⟨_, rfl⟩
    have HSE := Lib.hid hsne
    have HSN : Hid (numZ an b s = (sn0 : Int)) := Lib.hid (by rw [← hsne]; exact (nuN_cast HP.out.2.2.2.2.1).symm)
    rw [hsne] at hsn
    obtain ⟨l, hl⟩ : ∃ l, lvZ an b ts t s = l := ⟨_, rfl⟩
    have HLV := Lib.hid hl
    have hlb := lv_bd (a := (an : Int)) (b := b) (ts := ts) (s := t) HP.out.2.2.2.2.1
    rw [hl, hMe] at hlb
    clear hd hMe hsne
    have HCS := Lib.hid (lvZ_cases (ts := ts) (s := t) HP.out.2.2.2.2.1)
    rw [hl] at HCS
    clear hl
    go_enter Try.func26, Try.ntmps26
    go_wp2_with (go_at_call 63; refine (deTwo_any _ _ _ _ _ ts _ _ _ HN.out HS.out HT.out (HA.out.below X0.out)).mono ?_; rw [HD.out]; rintro e w1 ⟨rfl, hb1⟩; have X1 := Lib.hid (bel_call X0.out hb1); have C1 := Lib.hid (C0.out.call hb1); have k0 : w1.cell? ⟨w.heap.size, 0, none⟩ = some (.int .i64 (an : Int)) := C1.out.cell (show 0 < 2 by omega); have k1 : w1.cell? ⟨w.heap.size, 1, none⟩ = some (.int .i64 b) := C1.out.cell (show 1 < 2 by omega); clear hb1)
    refine (deFar_any _ _ _ _ _ ts _ _ HN.out (HA.out.below X1.out) HQ.out.2.2.2.2.2.2 (by rw [HM.out]; exact hM)).mono ?_
    rintro e w2 ⟨gf, gw, rfl, hgf, _, hF, _, hb2⟩
    rw [HM.out] at hF ⊢
    have G2 := Lib.hid (show FsM w w2 an b gf M (lvZ an b ts t) from ⟨C1.out.call hb2, hF, bel_call X1.out hb2⟩)
    have hwgf : w.heap.size < gf := Nat.lt_of_lt_of_le C1.out.lt hgf
    clear hb2 hF k0 k1 C0 X0 hgf X1 C1
    have k0 := G2.out.k0
    have k1 := G2.out.k1
    rcases HCS.out with ⟨d, hd, hld⟩ | ⟨_, hld⟩
    · have hl0 : 0 ≤ l := by omega
      have HV : Hid (faB an b ts s t = true) := Lib.hid (by rw [HFB.out, HLV.out]; exact decide_eq_true hl0)
      have HFT : Hid (faT an b ts s t = tuW (ptW an b (alB an b ts) t d s)) := Lib.hid (by unfold faT; rw [HV.out, if_pos rfl, HLV.out, hld, Int.toNat_natCast])
      obtain ⟨P, hP⟩ : ∃ P, ptW an b (alB an b ts) t d s = P := ⟨_, rfl⟩
      have HPE := Lib.hid hP
      have HPL : Hid (P.length = d) := Lib.hid (by rw [← hP, ptW_length])
      have hd9 : d ≤ 1000 := by omega
      have PT0 := Lib.hid (show PtAt an b (alB an b ts) t P d 0 s from ⟨HP.out.2.2.2.2.1, hd, by rw [List.drop_zero, Nat.sub_zero, hP]⟩)
      clear hP hd hlb HCS hld
      go_wp2_with (go_at_call 66; refine (whNumber_any _ _ _ _ HP.out.2.2.2.2.1).mono ?_; rw [HSN.out]; rintro e w3 ⟨rfl, hb3⟩
                   have G3 := Lib.hid (G2.out.call hb3)
                   have z := G3.out.at_ HP.out.2.2.2.2.1 HSE.out HM.out HLV.out
                   clear hb3)
      clear z k0 k1 G2
      obtain ⟨R, hR⟩ : ∃ R, w3.heap.size = R := ⟨_, rfl⟩
      have hgR : gf < R := by rw [← hR]; exact G3.out.far.lt
      have hwR : w.heap.size < R := by omega
      have hRle := Nat.le_of_eq hR.symm
      clear hR
      go_loopw [12, 13] (fun v x wr => ∃ (i : Nat) (y : ByteArray), i ≤ d ∧ x = .string y ∧ wr.ownsRow R 68 2 v i (tvO (tuW (P.take i))) ∧ PtAt an b (alB an b ts) t P d i y ∧ FsM w wr an b gf M (lvZ an b ts t) ∧ R ≤ wr.heap.size) (fun v _ _ => d - vlen v)
      case atStart => exact ⟨0, s, by omega, rfl, World.ownsRow_nil _ _ _ _, PT0.out, G3.out, hRle⟩
      case round =>
        clear PT0 G3 hRle
        obtain ⟨i, y, hid, rfl, hO, hpt, hG, hRl⟩ := hrel
        have HO := Lib.hid hO
        have HG := Lib.hid hG
        have HPT := Lib.hid hpt
        clear hO hG hpt
        by_cases hlt : i < d
        · obtain ⟨ul, hul⟩ : ∃ ul, d - i = ul := ⟨_, rfl⟩
          obtain ⟨k, hk⟩ : ∃ k, ul = k + 1 := ⟨ul - 1, by omega⟩
          have hat := HPT.out.at_
          have hrest := HPT.out.rest
          rw [hul, hk] at hat hrest
          rw [ptW_succ] at hrest
          obtain ⟨f1, f2, f3⟩ := fsJ_yes HPT.out.ask hat
          obtain ⟨J, hJ⟩ : ∃ J, fsJ an b (alB an b ts) t k y = J := ⟨_, rfl⟩
          obtain ⟨r1, r2, r3⟩ := drop_cons hrest 0
          rw [hJ] at f1 f2 f3 r2 r3
          have HYA := Lib.hid HPT.out.ask
          have HNE : Hid (y ≠ t) := Lib.hid (fun e => by
            subst e
            have h0 : 0 < wyA an b (alB an b ts) y 0 y := by
              show 0 < (if y = y then 1 else 0)
              rw [if_pos rfl]; omega
            have := wy_one hat h0
            omega)
          have HFY : Hid (lvZ an b ts t y = (ul : Int)) := Lib.hid (by rw [hk]; exact lvZ_some HPT.out.ask hat)
          have HFZ : Hid (lvZ an b ts t (mvW b y J) = (ul : Int) - 1) := Lib.hid (by rw [lvZ_some (mvW_ask HPT.out.ask f1) f2]; omega)
          have HFN : Hid (∀ j, j < J → lvZ an b ts t (mvW b y j) ≠ (ul : Int) - 1) := Lib.hid (fun j hj e => by
            have hz := f3 j hj
            rcases lvZ_cases (ts := ts) (s := t) (mvW_ask HPT.out.ask (show j < 2 * (an : Int).toNat by omega)) with ⟨q, hq, e2⟩ | ⟨_, e2⟩
            · rw [e2] at e
              obtain rfl : q = k := by omega
              have : 0 < wyA an b (alB an b ts) t q (mvW b y j) := hq
              omega
            · rw [e2] at e; omega)
          have HNX := Lib.hid (show PtAt an b (alB an b ts) t P d (i + 1) (mvW b y J) from ⟨mvW_ask HPT.out.ask f1, by rw [show d - (i + 1) = k by omega]; exact f2, by rw [show d - (i + 1) = k by omega]; exact r3⟩)
          have HTK : Hid (tvO (tuW (P.take (i + 1))) = tvO (tuW (P.take i)) ++ [.int .i64 ((J / 2 : Nat) : Int), .int .i64 (byW J)]) := Lib.hid (by rw [tuW_take r1, tvO_app, r2]; rfl)
          have hJ2 : J < 2 * an := by omega
          have hul9 : ul ≤ 1000 := by omega
          have hul0 : 0 < ul := by omega
          have hyn := nuN_lt HYA.out
          rw [HM.out] at hyn
          obtain ⟨yn, hyne⟩ : ∃ q, nuN an b y = q := ⟨_, rfl⟩
          have HYE := Lib.hid hyne
          have HYN : Hid (numZ an b y = (yn : Int)) := Lib.hid (by rw [← hyne]; exact (nuN_cast HYA.out).symm)
          rw [hyne] at hyn
          have HO0 := HO
          obtain ⟨V0, hV0⟩ : ∃ V, tvO (tuW (P.take i)) = V := ⟨_, rfl⟩
          obtain ⟨V1, hV1⟩ : ∃ V, tvO (tuW (P.take (i + 1))) = V := ⟨_, rfl⟩
          have HV1 := Lib.hid hV1
          rw [hV0] at HO HTK
          rw [hV1] at HTK
          clear hV0 hV1
          obtain ⟨y2, hy2⟩ : ∃ q, mvW b y J = q := ⟨_, rfl⟩
          have HY2 := Lib.hid hy2
          rw [hy2] at HFZ HNX
          have hyt := bytesN HNE.out
          clear hat hrest f1 f2 f3 hJ r1 r2 r3 hyne hy2 hk hul
          go_wp2_with fail
          clear hyt
          go_loopw [12, 13, 14, 15] (fun v x fd kv wr => ∃ (dn : Bool) (kk : Nat), fd = .bool dn ∧ kv = .int .i64 kk ∧ kk ≤ an ∧ (dn = false → 2 * kk ≤ J) ∧ x = .string (if dn then y2 else y) ∧ wr.ownsRow R 68 2 v (if dn then i + 1 else i) (if dn then V1 else V0) ∧ FsM w wr an b gf M (lvZ an b ts t) ∧ R ≤ wr.heap.size) (fun _ _ _ kv _ => an - (intOf kv).toNat)
          case atStart => exact ⟨false, 0, rfl, rfl, by omega, fun _ => by omega, rfl, HO.out, HG.out, hRl⟩
          case round =>
            clear HO HG hRl
            obtain ⟨dn, kk, rfl, rfl, hkk, hdn, rfl, hO, hG, hRl⟩ := hrel
            have HO := Lib.hid hO
            have HG := Lib.hid hG
            clear hO hG
            have l0 := HG.out.k0
            rcases dn with _ | _
            · have hd0 := hdn rfl
              clear hdn
              have hkn : kk < an := by omega
              simp only [Bool.false_eq_true, if_false] at HO ⊢
              have HGB := Lib.hid (by_new (W := wr) (t := 3) rfl)
              have HGA := Lib.hid (HG.out.alloc (.cells #[.int .i64 1, .int .i64 (-1)] 3))
              have HOA := Lib.hid (HO.out.alloc (.cells #[.int .i64 1, .int .i64 (-1)] 3))
              have hvb : u12.ownBlock ≠ some wr.heap.size := fun e => by have := (HO.out.lt _ e).2; omega
              have hRA : R ≤ (wr.alloc (.cells #[.int .i64 1, .int .i64 (-1)] 3)).heap.size := by rw [World.size_alloc]; omega
              go_wp2_with fail
              obtain ⟨gb, hgb⟩ : ∃ gb, wr.heap.size = gb := ⟨_, rfl⟩
              rw [hgb] at HGB hvb hRl ⊢
              clear hgb HO HG l0
              go_loopw [12, 13, 14, 56] (fun v x fd bv wr => ∃ (dn : Bool) (tt : Nat), fd = .bool dn ∧ bv = .int .i64 tt ∧ tt ≤ 2 ∧ (dn = false → 2 * kk + tt ≤ J) ∧ x = .string (if dn then y2 else y) ∧ wr.ownsRow R 68 2 v (if dn then i + 1 else i) (if dn then V1 else V0) ∧ FsM w wr an b gf M (lvZ an b ts t) ∧ R ≤ wr.heap.size ∧ Cells wr gb 2 byF ∧ v.ownBlock ≠ some gb) (fun _ _ _ bv _ => 2 - (intOf bv).toNat)
              case atStart => exact ⟨false, 0, rfl, rfl, by omega, fun _ => by omega, rfl, HOA.out, HGA.out, hRA, HGB.out, hvb⟩
              case round =>
                clear HOA HGA hRA HGB hvb
                obtain ⟨dn, tt, rfl, rfl, htt, hdn, rfl, hO, hG, hRl2, hgb, hvb⟩ := hrel
                have HO := Lib.hid hO
                have HG := Lib.hid hG
                have HGB := Lib.hid hgb
                have HVB := Lib.hid hvb
                clear hO hG hgb hvb
                by_cases ht2 : tt < 2
                · have b1 : wr.cell? ⟨gb, tt, none⟩ = some (.int .i64 (1 - 2 * (tt : Int))) := HGB.out.cell ht2
                  have HTB : Hid (turnB (an : Int) (kk : Int) (1 - 2 * (tt : Int)) = true) := Lib.hid (by
                    unfold turnB inB
                    rcases (show tt = 0 ∨ tt = 1 by omega) with rfl | rfl <;> simp <;> omega)
                  have TB := Lib.hid (b2_new (W := wr) (a := (kk : Int)) (b := 1 - 2 * (tt : Int)) (t := 68) rfl)
                  have GA := Lib.hid (HG.out.alloc (.cells #[.int .i64 (kk : Int), .int .i64 (1 - 2 * (tt : Int))] 68))
                  have OA := Lib.hid (HO.out.alloc (.cells #[.int .i64 (kk : Int), .int .i64 (1 - 2 * (tt : Int))] 68))
                  have BA := Lib.hid (HGB.out.alloc (.cells #[.int .i64 (kk : Int), .int .i64 (1 - 2 * (tt : Int))] 68))
                  have hRA : R ≤ (wr.alloc (.cells #[.int .i64 (kk : Int), .int .i64 (1 - 2 * (tt : Int))] 68)).heap.size := by rw [World.size_alloc]; omega
                  have l0 := GA.out.k0
                  have l1 := GA.out.k1
                  have hj2 : 2 * kk + tt < 2 * (an : Int).toNat := by omega
                  have hgbw : gb < wr.heap.size := HGB.out.lt
                  clear HG HGB
                  obtain ⟨tw, htw⟩ : ∃ tw : Int, 1 - 2 * (tt : Int) = tw := ⟨_, rfl⟩
                  rw [htw] at b1 HTB TB GA OA BA hRA l0 l1
                  rcases dn with _ | _
                  · have hd1 := hdn rfl
                    clear hdn
                    simp only [Bool.false_eq_true, if_false] at OA ⊢
                    obtain ⟨z, hz⟩ : ∃ z, mvW b y (2 * kk + tt) = z := ⟨_, rfl⟩
                    have HZT : Hid (textOf (stepD b (dg y) (kk : Int) tw) = z) := Lib.hid (by rw [← htw, ← hz]; exact (mvW_two ht2).symm)
                    have HZA : Hid (askB an b z = true) := Lib.hid (by rw [← hz]; exact mvW_ask HYA.out hj2)
                    have hzn := nuN_lt HZA.out
                    rw [HM.out] at hzn
                    obtain ⟨zn, hzne⟩ : ∃ q, nuN an b z = q := ⟨_, rfl⟩
                    have HZE := Lib.hid hzne
                    have HZN : Hid (numZ an b z = (zn : Int)) := Lib.hid (by rw [← hzne]; exact (nuN_cast HZA.out).symm)
                    rw [hzne] at hzn
                    obtain ⟨fz, hfz⟩ : ∃ fz, lvZ an b ts t z = fz := ⟨_, rfl⟩
                    have HFZ2 := Lib.hid hfz
                    have hfb : -1 ≤ fz ∧ fz < 1001 := by have := lv_bd (a := (an : Int)) (b := b) (ts := ts) (s := t) HZA.out; rw [hfz, HM.out] at this; omega
                    clear hzne hfz
                    go_upto_region 18 with (go_at_call 67; refine (whMake_any _ _ _ _ _ _ HYA.out HTB.out).mono ?_; rw [HZT.out]; rintro e w5 ⟨rfl, hb5⟩; have G5 := Lib.hid (GA.out.call hb5); have O5 := Lib.hid (own_keeps OA.out hb5); have B5 := Lib.hid (BA.out.call hb5); have T5 := Lib.hid (TB.out.call hb5); have R5 : R ≤ w5.heap.size := Nat.le_trans hRA hb5.size; clear hb5)
                    go_cut [84] from 67 to 84 (fun v84 wx => v84 = .bool (fz == (ul : Int) - 1) ∧ Below w5.heap.size w5 wx)
                    case first =>
                      have m0 := G5.out.k0
                      have m1 := G5.out.k1
                      have zz := G5.out.at_ HZA.out HZE.out HM.out HFZ2.out
                      have zy := G5.out.at_ HYA.out HYE.out HM.out HFY.out
                      have hwrap : IntKind.i64.wrap ((ul : Int) - 1) = (ul : Int) - 1 := IntWalk.i64_in _ (by omega)
                      clear l0 l1 b1 OA BA GA TB
                      go_region_with (first
                        | ((fail_if_success (have := hb6)); go_at_call 66; refine (whNumber_any _ _ _ _ HZA.out).mono ?_; rw [HZN.out]; rintro e w6 ⟨rfl, hb6⟩
                           have hb6' : Below w5.heap.size w5 w6 := below_undrew hb6
                           have p0 := (G5.out.call hb6').k0
                           have p1 := (G5.out.call hb6').k1
                           have zz6 := (G5.out.call hb6').at_ HZA.out HZE.out HM.out HFZ2.out
                           have zy6 := (G5.out.call hb6').at_ HYA.out HYE.out HM.out HFY.out)
                        | (go_at_call 66; refine (whNumber_any _ _ _ _ HYA.out).mono ?_; rw [HYN.out]; rintro e w7 ⟨rfl, hb7⟩
                           have zz7 := ((G5.out.call hb6').call hb7).at_ HZA.out HZE.out HM.out HFZ2.out
                           have zy7 := ((G5.out.call hb6').call hb7).at_ HYA.out HYE.out HM.out HFY.out))
                      all_goals
                        have HB7 := Lib.hid (bel_call hb6' hb7)
                        clear p0 p1 zz6 zy6 zz7 zy7 zz zy m0 m1 hb6 hb6' hb7 G5 O5 B5 T5
                        go_wp2_with fail
                        go_meet
                        exact ⟨rfl, HB7.out⟩
                    case rest =>
                      obtain ⟨rfl, hb7⟩ := hcut
                      have G7 := Lib.hid (G5.out.call hb7)
                      have O7 := Lib.hid (own_keeps O5.out hb7)
                      have B7 := Lib.hid (B5.out.call hb7)
                      have T7 := Lib.hid (T5.out.call hb7)
                      have R7 : R ≤ wc.heap.size := Nat.le_trans R5 hb7.size
                      have q0 : wc.cell? ⟨wr.heap.size, 0, none⟩ = some (.int .i64 (kk : Int)) := T7.out.cell (show 0 < 2 by omega)
                      have q1 : wc.cell? ⟨wr.heap.size, 1, none⟩ = some (.int .i64 tw) := T7.out.cell (show 1 < 2 by omega)
                      have hgb7 : gb < wc.heap.size := B7.out.lt
                      clear hb7 G5 O5 B5 T5 l0 l1 b1 OA BA GA TB
                      by_cases hjj : 2 * kk + tt = J
                      · have HZ2 : Hid (z = y2) := Lib.hid (by rw [← hz, hjj]; exact HY2.out)
                        have hv84 : (fz == (ul : Int) - 1) = true := by rw [beq_iff_eq, ← HFZ2.out, HZ2.out]; exact HFZ.out
                        have HTV : Hid (V1 = V0 ++ [.int .i64 (kk : Int), .int .i64 tw]) := Lib.hid (by
                          rw [HTK.out, ← hjj, ← htw]
                          have e1 : (2 * kk + tt) / 2 = kk := by omega
                          have e2 : byW (2 * kk + tt) = 1 - 2 * (tt : Int) := by
                            unfold byW
                            rcases (show tt = 0 ∨ tt = 1 by omega) with rfl | rfl
                            · rw [if_pos (by omega)]; rfl
                            · rw [if_neg (by omega)]; rfl
                          rw [e1, e2])
                        rw [hv84]
                        clear hz hjj htw hv84
                        go_wp2_with (at_builtin; refine wpList_append_own_at _ rfl _ _ 36 rfl R 68 i0 (.agg #[.int .i64 0, .int .i64 0]) 2 16 Try.underlying36 hi hz0 hz1 hz2 rfl (by decide) _ _ _ rfl (O7.out.alloc _) ⟨wc.heap.size, 0, none⟩ 1 1 [.int .i64 (kk : Int), .int .i64 tw] rfl rfl (news_of rfl) (by simp [Value.oneCell']) (by unfold maxLen; omega) (by omega) (by rw [World.size_alloc]; omega) ?_; intro v8 w8 hown8 hgrow8 hiff8 hblk8; clear hiff8)
                        have hOb := O7.out.lt
                        have hne : ∀ g, g < R → some g ≠ (u12).ownBlock := fun g hg e => by have := (hOb g e.symm).1; omega
                        have G8 := Lib.hid ((G7.out.alloc (.cells #[.int .i64 (kk : Int), .int .i64 tw] 68)).grown hgrow8 (hne _ hwR) (hne _ hgR) (fun g e => by have := (hOb g e).1; omega))
                        have B8 := Lib.hid ((B7.out.alloc (.cells #[.int .i64 (kk : Int), .int .i64 tw] 68)).grownC hgrow8 (fun e => HVB.out e.symm))
                        have R8 : R ≤ w8.heap.size := by have := hgrow8.size; rw [World.size_alloc] at this; omega
                        have V8 := Lib.hid (show v8.ownBlock ≠ some gb from fun e => by
                          rcases hblk8 with h | h
                          · exact HVB.out (h.symm.trans e)
                          · rw [h] at e; injection e with e; rw [World.size_alloc] at e; omega)
                        have O8 := Lib.hid hown8
                        clear hown8 hgrow8 hOb hne hblk8 q0 q1
                        go_wp2_with fail
                        go_roundw
                        case rel => exact ⟨true, tt + 1, rfl, by go_num, by omega, fun h => (by cases h), by rw [if_pos rfl, ← HZ2.out], by rw [if_pos rfl, if_pos rfl, HTV.out]; exact O8.out, G8.out, R8, B8.out, V8.out⟩
                        case measure => simp [intOf]; omega
                      · have hjl : 2 * kk + tt < J := by omega
                        have hv84 : (fz == (ul : Int) - 1) = false := by
                          rw [beq_eq_false_iff_ne, ← HFZ2.out, ← hz]
                          exact HFN.out _ hjl
                        rw [hv84]
                        clear hz hjj htw hv84 q0 q1
                        go_wp2_with fail
                        go_roundw
                        case rel => exact ⟨false, tt + 1, rfl, by go_num, by omega, fun _ => by omega, rfl, O7.out, G7.out, R7, B7.out, HVB.out⟩
                        case measure => simp [intOf]; omega
                  · clear hdn
                    simp only [if_true] at OA ⊢
                    have HYB := Lib.hid HNX.out.ask
                    go_wp2_with (go_at_call 67; refine (whMake_any _ _ _ _ _ _ HYB.out HTB.out).mono ?_; rintro e w5 ⟨rfl, hb5⟩; have G5 := Lib.hid (GA.out.call hb5); have O5 := Lib.hid (own_keeps OA.out hb5); have B5 := Lib.hid (BA.out.call hb5); have R5 : R ≤ w5.heap.size := Nat.le_trans hRA hb5.size; clear hb5)
                    clear l0 l1 b1
                    go_quiet (fail)
                    go_wp2_with fail
                    go_roundw
                    case rel => exact ⟨true, tt + 1, rfl, by go_num, by omega, fun h => (by cases h), rfl, own_keeps O5.out (bel_drewN (Below.refl _ _) _), G5.out.call (bel_drewN (Below.refl _ _) _), R5, B5.out.call (bel_drewN (Below.refl _ _) _), HVB.out⟩
                    case measure => simp [intOf]; omega
                · obtain rfl : tt = 2 := by omega
                  go_wp2_with fail
                  go_roundw
                  case rel => exact ⟨dn, kk + 1, rfl, by go_num, by omega, fun h => by have := hdn h; omega, rfl, HO.out, HG.out, hRl2⟩
                  case measure => simp [intOf]; omega
            · by_cases hkn : kk < an
              · go_wp2_with fail
                go_roundw
                case rel => exact ⟨i + 1, y2, by omega, rfl, by rw [HV1.out]; exact HO.out, HNX.out, HG.out, hRl⟩
                case measure => simp only [row_vlen HO.out, row_vlen HO0.out, if_true]; omega
              · go_wp2_with fail
                go_roundw
                case rel => exact ⟨i + 1, y2, by omega, rfl, by rw [HV1.out]; exact HO.out, HNX.out, HG.out, hRl⟩
                case measure => simp only [row_vlen HO.out, row_vlen HO0.out, if_true]; omega
        · obtain rfl : i = d := by omega
          have HYT : Hid (y = t) := Lib.hid (by
            have h := HPT.out.at_
            rw [Nat.sub_self] at h
            change 0 < (if y = t then 1 else 0) at h
            by_cases e : y = t
            · exact e
            · rw [if_neg e] at h; omega)
          obtain rfl := HYT.out
          have hle : (tuW P).length = i := by rw [tuW_length, HPL.out]
          have HOE : Hid (wr.ownsRow R 68 2 u12 i (tvO (tuW P))) := Lib.hid (by have := HO.out; rwa [List.take_of_length_le (by rw [HPL.out]; exact Nat.le_refl _)] at this)
          go_wp2_with fail
          go_ret2
          obtain ⟨A5, c5, rfl⟩ := ownO_any HOE.out
          refine ⟨A5, c5, by rw [HV.out, HFT.out, HPE.out, hle]; first | done | rfl, ?_, HG.out.bel, by rw [HFT.out, HPE.out, hle]; exact row_cap HOE.out⟩
          rw [HFT.out, HPE.out, hle]
          refine ⟨hle, hd9, ?_⟩
          rcases Nat.eq_zero_or_pos i with h0 | h0
          · exact .inl h0
          · obtain ⟨g, c', e, hg, hC⟩ := ownO_turns HOE.out h0
            cases e
            exact .inr ⟨g, rfl, by omega, hC⟩
    · have hl0 : l < 0 := by omega
      have HV : Hid (faB an b ts s t = false) := Lib.hid (by rw [HFB.out, HLV.out]; exact decide_eq_false (by omega))
      clear hld hlb HCS
      go_wp2_with (go_at_call 66; refine (whNumber_any _ _ _ _ HP.out.2.2.2.2.1).mono ?_; rw [HSN.out]; rintro e w3 ⟨rfl, hb3⟩
                   have G3 := Lib.hid (G2.out.call hb3)
                   have z := G3.out.at_ HP.out.2.2.2.2.1 HSE.out HM.out HLV.out
                   clear hb3)
      go_ret2
      exact ⟨none, 0, by rw [HV.out, faT_no HV.out]; rfl, by rw [faT_no HV.out]; exact ⟨rfl, by decide, .inl rfl⟩, G3.out.bel, by rw [faT_no HV.out]; exact Nat.le_refl _⟩
  · have HD := Lib.hid (Bool.eq_false_iff.2 hd)
    have HV : Hid (faB a b ts s t = false) := Lib.hid (by unfold faB; rw [HD.out]; rfl)
    clear hd
    go_enter Try.func26, Try.ntmps26
    go_wp2_with (go_at_call 63; refine (deTwo_any _ _ _ _ _ ts _ _ _ HN.out HS.out HT.out (HA.out.below X0.out)).mono ?_; rw [HD.out]; rintro e w1 ⟨rfl, hb1⟩; have X1 := Lib.hid (bel_call X0.out hb1); clear hb1)
    go_ret2
    exact ⟨none, 0, by rw [HV.out, faT_no HV.out]; rfl, by rw [faT_no HV.out]; exact ⟨rfl, by decide, .inl rfl⟩, X1.out, by rw [faT_no HV.out]; exact Nat.le_refl _⟩

end Go.Proofs.Ytilnjlcljjpnmaa
