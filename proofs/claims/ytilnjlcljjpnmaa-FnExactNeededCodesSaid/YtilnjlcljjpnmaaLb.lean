/- The layer behind a layer, as the program makes it: which codes it has, and how many ways lead to each. For a lock of few codes. -/
import Derived.Test.YtilnjlcljjpnmaaWk
import Derived.Test.YtilnjlcljjpnmaaTurnO
import Derived.Test.YtilnjlcljjpnmaaDeFar
namespace Go.Proofs.Ytilnjlcljjpnmaa
open Go.ChangeShapes Go.WideShapes Go.ChangeAt Go.RowKit Go.Joins

/-- What the layer in the making has: of g the steps pr. -/
structure BhI (b : Int) (m : Nat) (g : ByteArray → Nat) (lv : ByteArray → Bool) (pr : ByteArray → Nat → Bool) (L : List ByteArray) (f : ByteArray → Int) : Prop where
  mem : ∀ t, t ∈ L ↔ lv t = true ∧ 0 < acc (mvW b) m ivW pr g t
  val : ∀ t, lv t = true → f t = ((sat capN (acc (mvW b) m ivW pr g t) : Nat) : Int)

theorem bhI_zero {b : Int} {m : Nat} {g : ByteArray → Nat} {lv : ByteArray → Bool} {pr : ByteArray → Nat → Bool} (h : ∀ y j, pr y j = false) : BhI b m g lv pr [] (fun _ => 0) := by
  have hz : ∀ t, acc (mvW b) m ivW pr g t = 0 := fun t => by
    unfold acc
    exact sumTo_zero fun j _ => by rw [h]; rfl
  refine ⟨fun t => ?_, fun t _ => ?_⟩
  · rw [hz]; simp
  · rw [hz, sat_zero]; rfl

theorem BhI.congr {a b : Int} {g : ByteArray → Nat} {lv : ByteArray → Bool} {pr pr' : ByteArray → Nat → Bool} {L : List ByteArray} {f : ByteArray → Int} (h : BhI b (2 * a.toNat) g lv pr L f) (hlv : ∀ t, lv t = true → askB a b t = true)
    (e : ∀ y j, askB a b y = true → j < 2 * a.toNat → 0 < g y → pr y j = pr' y j) : BhI b (2 * a.toNat) g lv pr' L f := by
  have hz : ∀ t, lv t = true → acc (mvW b) (2 * a.toNat) ivW pr g t = acc (mvW b) (2 * a.toNat) ivW pr' g t := fun t ht => acc_congr (grfW a b) (hlv t ht) e
  refine ⟨fun t => ?_, fun t ht => ?_⟩
  · rw [h.mem]
    constructor
    · rintro ⟨h1, h2⟩; exact ⟨h1, by rw [← hz t h1]; exact h2⟩
    · rintro ⟨h1, h2⟩; exact ⟨h1, by rw [hz t h1]; exact h2⟩
  · rw [h.val t ht, hz t ht]

theorem BhI.dead {a b : Int} {g : ByteArray → Nat} {lv : ByteArray → Bool} {done : ByteArray → Bool} {y z : ByteArray} {j : Nat} {L : List ByteArray} {f : ByteArray → Int} (h : BhI b (2 * a.toNat) g lv (prB done y j) L f) (hlv : ∀ t, lv t = true → askB a b t = true)
    (hy : askB a b y = true) (hj : j < 2 * a.toNat) (hd : done y = false) (hz : mvW b y j = z) (hn : lv z = false) : BhI b (2 * a.toNat) g lv (prB done y (j + 1)) L f := by
  have e : ∀ t, lv t = true → acc (mvW b) (2 * a.toNat) ivW (prB done y (j + 1)) g t = acc (mvW b) (2 * a.toNat) ivW (prB done y j) g t := fun t ht => by
    rw [acc_step (grfW a b) hy (hlv t ht) hj hd, if_neg (fun e => by rw [hz] at e; rw [e, ht] at hn; cases hn), Nat.add_zero]
  refine ⟨fun t => ?_, fun t ht => ?_⟩
  · rw [h.mem]
    constructor
    · rintro ⟨h1, h2⟩; exact ⟨h1, by rw [e t h1]; exact h2⟩
    · rintro ⟨h1, h2⟩; exact ⟨h1, by rw [← e t h1]; exact h2⟩
  · rw [h.val t ht, e t ht]

theorem BhI.live {a b : Int} {g : ByteArray → Nat} {lv : ByteArray → Bool} {done : ByteArray → Bool} {y z : ByteArray} {j : Nat} {L : List ByteArray} {f : ByteArray → Int} (h : BhI b (2 * a.toNat) g lv (prB done y j) L f) (hlv : ∀ t, lv t = true → askB a b t = true)
    (hy : askB a b y = true) (hj : j < 2 * a.toNat) (hd : done y = false) (hz : mvW b y j = z) (hl : lv z = true) (hg : 0 < g y) {v : Int}
    (hv : v = ((sat capN (sat capN (acc (mvW b) (2 * a.toNat) ivW (prB done y j) g z) + sat capN (g y)) : Nat) : Int)) : BhI b (2 * a.toNat) g lv (prB done y (j + 1)) (addS L z) (fun t => if t = z then v else f t) := by
  have e : ∀ t, lv t = true → acc (mvW b) (2 * a.toNat) ivW (prB done y (j + 1)) g t = acc (mvW b) (2 * a.toNat) ivW (prB done y j) g t + if z = t then g y else 0 := fun t ht => by
    rw [acc_step (grfW a b) hy (hlv t ht) hj hd, hz]
  refine ⟨fun t => ?_, fun t ht => ?_⟩
  · rw [mem_addS, h.mem]
    by_cases et : t = z
    · subst et
      rw [e t hl, if_pos rfl]
      exact ⟨fun _ => ⟨hl, by omega⟩, fun _ => .inr rfl⟩
    · constructor
      · rintro (⟨h1, h2⟩ | h1)
        · exact ⟨h1, by rw [e t h1]; omega⟩
        · exact absurd h1 et
      · rintro ⟨h1, h2⟩
        rw [e t h1, if_neg (fun e => et e.symm), Nat.add_zero] at h2
        exact .inl ⟨h1, h2⟩
  · by_cases et : t = z
    · subst et
      rw [if_pos rfl, hv, sat_add, e t hl, if_pos rfl]
    · rw [if_neg et, h.val t ht, e t ht, if_neg (fun e => et e.symm), Nat.add_zero]

/-- The search holds. -/
structure LbSt (w wr : World) (a b : Int) (Bv Bm r : Nat) (Lm : List ByteArray) (f : ByteArray → Int) (g : ByteArray → Nat) (lv : ByteArray → Bool) (pr : ByteArray → Nat → Bool) (Ds : List ByteArray) (q : Nat) : Prop where
  box : Cells wr w.heap.size 3 (m3F a b (.map (some Bv)))
  rg : RgS wr RdI Bm r Lm (ltI f) Ds
  left : wr.rangeLeft Bm r = q
  bh : ∃ L' f', MpS wr RdI (w.heap.size + 1) L' (ltI f') ∧ BhI b (2 * a.toNat) g lv pr L' f'
  bel : Below w.heap.size w wr

theorem LbSt.call {w wr w2 : World} {a b : Int} {Bv Bm r : Nat} {Lm : List ByteArray} {f : ByteArray → Int} {g : ByteArray → Nat} {lv : ByteArray → Bool} {pr : ByteArray → Nat → Bool} {Ds : List ByteArray} {q : Nat} (h : LbSt w wr a b Bv Bm r Lm f g lv pr Ds q) (hb : Below wr.heap.size wr w2) : LbSt w w2 a b Bv Bm r Lm f g lv pr Ds q := by
  obtain ⟨h1, h2⟩ := h.rg.call hb
  obtain ⟨L', f', h3, h4⟩ := h.bh
  exact ⟨h.box.call hb, h1, h2.trans h.left, ⟨L', f', h3.call hb, h4⟩, bel_call h.bel hb⟩

theorem min_sat {x y : Int} {m n : Nat} (hx : x = (m : Int)) (hy : y = (n : Int)) : (if (1000000000000001 : Int) < x + y then 1000000000000001 else x + y) = ((sat capN (m + n) : Nat) : Int) := by
  subst hx hy
  unfold sat capN
  by_cases h : m + n ≤ 1000000000000001
  · rw [if_pos h, if_neg (by omega)]; omega
  · rw [if_neg h, if_pos (by omega)]; rfl

theorem wf_sat (n : Nat) : (Lit.int .i64 ((sat capN n : Nat) : Int)).wf = true := by
  have h := sat_le capN n
  unfold capN at h
  simp only [Lit.wf, Bool.and_eq_true, decide_eq_true_eq]
  unfold capN
  generalize sat 1000000000000001 n = k at h ⊢
  constructor
  · show (-9223372036854775808 : Int) ≤ _
    omega
  · show (_ : Int) ≤ 9223372036854775807
    omega

/-- What is handed back. -/
def LbOut (w : World) (a b : Int) (g : ByteArray → Nat) (lv : ByteArray → Bool) (e : Ending) (w' : World) : Prop :=
  ∃ B' L' f', e = .returned (.map (some B')) ∧ w.heap.size ≤ B' ∧ MpS w' RdI B' L' (ltI f') ∧ BhI b (2 * a.toNat) g lv (fun _ _ => true) L' f' ∧ Below w.heap.size w w'

theorem LiveM.yes {w : World} {B : Nat} {al : ByteArray → Bool} (h : LiveM w B al) {s : ByteArray} (hs : al s = true) : s.size ≤ maxLen := by
  obtain ⟨L, h1, h2⟩ := h
  obtain ⟨D, _, h3⟩ := h1
  exact h3.small s ((h2 s).2 hs)

set_option maxRecDepth 100000 in
set_option maxHeartbeats 4000000 in
theorem layerBehind_any (a b : Int) (Bv Bm : Nat) (lv : ByteArray → Bool) (Lm : List ByteArray) (f : ByteArray → Int) (g : ByteArray → Nat) (w : World) (hL : LiveM w Bv lv) (hlv : ∀ t, lv t = true → askB a b t = true)
    (hM : MpS w RdI Bm Lm (ltI f)) (hm : ∀ t, t ∈ Lm ↔ 0 < g t) (hf : ∀ t, t ∈ Lm → f t = ((sat capN (g t) : Nat) : Int)) (hg : ∀ t, 0 < g t → askB a b t = true) (hgd : goodB a b = true) (hc : cnN a b ≤ 1000) :
    Calls Try.prog 109 #[mzV a b (.map (some Bv)), .map (some Bm)] w (LbOut w a b g lv) := by
  have HL := Lib.hid hL
  have HLV := Lib.hid hlv
  have HM := Lib.hid hM
  have HMM := Lib.hid hm
  have HF := Lib.hid hf
  have HG := Lib.hid hg
  have HC := Lib.hid hc
  obtain ⟨an, hae⟩ : ∃ an : Nat, a = an := ⟨a.toNat, by have := good_yes hgd; omega⟩
  subst hae
  have han : an ≤ 6 := by have := good_yes hgd; omega
  have HGD := Lib.hid hgd
  have hBv : Bv < w.heap.size := hL.lt
  have hBm : Bm < w.heap.size := hM.lt
  have C0 := Lib.hid (show Cells ((w.alloc (.cells #[.int .i64 an, .int .i64 b, .map (some Bv)] 72)).alloc (.map #[] 0)) w.heap.size 3 (m3F an b (.map (some Bv))) from (m3_new (W := w) rfl).alloc _)
  have X0 := Lib.hid (show Below w.heap.size w ((w.alloc (.cells #[.int .i64 an, .int .i64 b, .map (some Bv)] 72)).alloc (.map #[] 0)) by (repeat (first | assumption | exact Below.refl _ _ | (refine Below.alloc ?_ (by first | omega | (simp; done) | (simp; omega)) _) | (refine Below.setCell ?_ (by first | omega | (simp; done) | (simp; omega)) _) | refine bel_drewN ?_ _ | refine bel_drew ?_ | (refine bel_call ?_ (by assumption)))))
  have M0 := Lib.hid (MpS.made (w.alloc (.cells #[.int .i64 an, .int .i64 b, .map (some Bv)] 72)) RdI (ltI fun _ => 0))
  have hmm := @run_makeMap Try.prog
  clear hL hlv hM hm hf hg hgd hc
  unfold mzV
  go_enter Try.func109, Try.ntmps109
  go_wp2_with (at_range; refine wpList_range_S rfl _ _ _ rfl Try.underlying81 (HM.out.call X0.out) rfl ?_; intro w0 hrg0 hg0 hs0)
  go_frame
  clear hmm
  simp only [World.size_alloc] at hrg0 hs0 ⊢
  obtain ⟨q0, hq0⟩ : ∃ q0, w0.rangeLeft Bm (w.heap.size + 1 + 1) = q0 := ⟨_, rfl⟩
  have ST0 := Lib.hid (show LbSt w w0 an b Bv Bm (w.heap.size + 1 + 1) Lm f g lv (fun _ _ => false) [] q0 from
    ⟨C0.out.grownM hg0 (by simp), hrg0, hq0, ⟨[], fun _ => 0, by have := M0.out; rw [World.size_alloc] at this; exact this.kept hg0 (by simp), bhI_zero fun _ _ => rfl⟩, X0.out.grown hg0 (by simp; omega) (fun j hj => by cases hj)⟩)
  clear C0 X0 M0 hrg0 hg0 hs0 hq0
  go_loopw [6] (fun _ wr => ∃ Ds q, LbSt w wr an b Bv Bm (w.heap.size + 1 + 1) Lm f g lv (fun y _ => hsS Ds y) Ds q) (fun _ wr => wr.rangeLeft Bm (w.heap.size + 1 + 1))
  case atStart => exact ⟨[], q0, ST0.out⟩
  case round =>
    clear ST0
    obtain ⟨Ds, q, hS⟩ := hrel
    have HST := Lib.hid hS
    clear hS
    go_wp2_with (at_next; refine wpList_next_S rfl _ rfl _ rdI_val rfl HST.out.rg ?_ ?_)
    · intro hall
      have HALL := Lib.hid hall
      clear hall
      go_wp2_with fail
      go_ret
      obtain ⟨L', f', h3, h4⟩ := HST.out.bh
      exact ⟨_, L', f', rfl, by omega, h3, h4.congr HLV.out (fun y j hy hj h => by rw [hsS_iff.2 (HALL.out y ((HMM.out y).2 h))]), HST.out.bel⟩
    · intro x w1 hxL hxD hrg1 hlt1 hgr1 hsz1 hen1
      have HFX := Lib.hid (HF.out x hxL)
      have HGX := Lib.hid ((HMM.out x).1 hxL)
      have HX := Lib.hid (HG.out x ((HMM.out x).1 hxL))
      have HXD : Hid (hsS Ds x = false) := Lib.hid (hsS_no hxD)
      have HXS := Lib.hid (askB_size HX.out)
      obtain ⟨q1, hq1⟩ : ∃ q1, w1.rangeLeft Bm (w.heap.size + 1 + 1) = q1 := ⟨_, rfl⟩
      have HLT : Hid (q1 < wr.rangeLeft Bm (w.heap.size + 1 + 1)) := Lib.hid (by rw [← hq1]; exact hlt1)
      have ST1 := Lib.hid (show LbSt w w1 an b Bv Bm (w.heap.size + 1 + 1) Lm f g lv (prB (fun y => hsS Ds y) x 0) (x :: Ds) q1 from by
        obtain ⟨L', f', h3, h4⟩ := HST.out.bh
        exact ⟨HST.out.box.grownM hgr1 (fun e => by injection e with e; omega), hrg1, hq1, ⟨L', f', h3.kept hgr1 (fun e => by injection e with e; omega), h4.congr HLV.out (fun y j hy hj h => by unfold prB; rw [decide_eq_false (show ¬ j < 0 by omega), Bool.and_false, Bool.or_false])⟩,
          HST.out.bel.grown hgr1 HST.out.bel.size (fun j hj => by injection hj with hj; omega)⟩)
      have l0 : w1.cell? ⟨w.heap.size, 0, none⟩ = some (.int .i64 an) := ST1.out.box.cell (show 0 < 3 by omega)
      clear hxL hxD hrg1 hlt1 hgr1 hsz1 hq1
      generalize f x = fx at HFX hen1 ⊢
      have hfx : 0 ≤ fx ∧ fx ≤ 1000000000000001 := by rw [HFX.out]; exact ⟨by omega, cap_int (sat_le _ _)⟩
      go_wp2_with (go_at_call 112; refine (turnsInOrderO_any an _ (by omega)).mono ?_; rintro e w2 ⟨At, ct, rfl, hT, hb2⟩)
      have ST2 := Lib.hid (ST1.out.call hb2)
      obtain ⟨gT, rfl, hgT, hTC⟩ := hT.resolve_left (by have := good_yes HGD.out; omega)
      have HTC := Lib.hid hTC
      have hgT2 : w.heap.size + 1 < gT := by have := ST1.out.rg.lt; omega
      clear hT hTC hb2 l0 hen1 ST1
      go_loopw [25] (fun i wr => ∃ j : Nat, j ≤ 2 * an ∧ i = .int .i64 j ∧ LbSt w wr an b Bv Bm (w.heap.size + 1 + 1) Lm f g lv (prB (fun y => hsS Ds y) x j) (x :: Ds) q1 ∧ Cells wr gT (2 * an * 2) (turnF (turnsO an))) (fun i _ => 2 * an - (intOf i).toNat)
      case atStart => exact ⟨0, by omega, rfl, ST2.out, HTC.out⟩
      case round =>
        clear ST2 HTC HST
        obtain ⟨j, hj, rfl, hS, hT⟩ := hrel
        have HST := Lib.hid hS
        have HTC := Lib.hid hT
        clear hS hT
        by_cases hlt : j < 2 * an
        · have t0 := HTC.out.cell (show j * 2 < 2 * an * 2 by omega)
          have t1 := HTC.out.cell (show j * 2 + 1 < 2 * an * 2 by omega)
          rw [turnF_0, turnsO_at hlt] at t0
          rw [turnF_1, turnsO_at hlt] at t1
          have hj2 : j < 2 * (an : Int).toNat := by omega
          have HTB : Hid (turnB an ((j / 2 : Nat) : Int) (byO j) = true) := Lib.hid (byW_turn hj2)
          obtain ⟨z, hz⟩ : ∃ z, mvW b x j = z := ⟨_, rfl⟩
          have HZ := Lib.hid hz
          have HTW : Hid (twZ an b x [(((j / 2 : Nat) : Int), byO j)] = z) := Lib.hid ((twW_one HX.out HTB.out).trans hz)
          have HZA : Hid (askB an b z = true) := Lib.hid (by rw [← hz]; exact mvW_ask HX.out hj2)
          generalize ((j / 2 : Nat) : Int) = jw at t0 HTB HTW
          generalize byO j = jb at t1 HTB HTW
          have CN := Lib.hid (HTC.out.alloc (.cells #[.int .i64 jw, .int .i64 jb] 68))
          have SN := Lib.hid (HST.out.call ((Below.refl _ _).alloc (Nat.le_refl _) (.cells #[.int .i64 jw, .int .i64 jb] 68)))
          have l0 : (wr.alloc (.cells #[.int .i64 jw, .int .i64 jb] 68)).cell? ⟨w.heap.size, 0, none⟩ = some (.int .i64 an) := SN.out.box.cell (show 0 < 3 by omega)
          have l1 : (wr.alloc (.cells #[.int .i64 jw, .int .i64 jb] 68)).cell? ⟨w.heap.size, 1, none⟩ = some (.int .i64 b) := SN.out.box.cell (show 1 < 3 by omega)
          obtain ⟨u, hu⟩ : ∃ u, lv z = u := ⟨_, rfl⟩
          have HUU := Lib.hid hu
          clear hz hu hj2
          rcases u with _ | _
          · go_wp2_with (go_at_call 113; refine (turnWheel_any _ _ _ _ _ _ HXS.out).mono ?_; rw [HTW.out]; rintro e w3 ⟨rfl, hb3⟩
                         have S3 := Lib.hid (SN.out.call hb3)
                         have C3 := Lib.hid (CN.out.call hb3)
                         have m2 : w3.cell? ⟨w.heap.size, 2, none⟩ = some (.map (some Bv)) := S3.out.box.cell (show 2 < 3 by omega)
                         have HLK := (HL.out.call S3.out.bel).look (askB_size HZA.out) HUU.out
                         clear hb3)
            go_roundw
            case rel => exact ⟨j + 1, by omega, by go_num, ⟨S3.out.box, S3.out.rg, S3.out.left, by
              obtain ⟨L', f', h3, h4⟩ := S3.out.bh
              exact ⟨L', f', h3, h4.dead HLV.out HX.out (by omega) HXD.out HZ.out HUU.out⟩, S3.out.bel⟩, C3.out⟩
            case measure => simp [intOf]; omega
          · go_wp2_with (first
              | (go_at_call 113; refine (turnWheel_any _ _ _ _ _ _ HXS.out).mono ?_; rw [HTW.out]; rintro e w3 ⟨rfl, hb3⟩
                 have S3 := Lib.hid (SN.out.call hb3)
                 have C3 := Lib.hid (CN.out.call hb3)
                 have m2 : w3.cell? ⟨w.heap.size, 2, none⟩ = some (.map (some Bv)) := S3.out.box.cell (show 2 < 3 by omega)
                 have HLK := (HL.out.call S3.out.bel).look (askB_size HZA.out) HUU.out
                 clear hb3
                 obtain ⟨L', f', h3, h4⟩ := S3.out.bh
                 have HM3 := Lib.hid h3
                 have HB3 := Lib.hid h4
                 obtain ⟨cz, hcz⟩ : ∃ cz : Int, cz = ((sat capN (acc (mvW b) (2 * (an : Int).toNat) ivW (prB (fun y => hsS Ds y) x j) g z) : Nat) : Int) := ⟨_, rfl⟩
                 have HCZ := Lib.hid hcz
                 have hcb : 0 ≤ cz ∧ cz ≤ 1000000000000001 := (by rw [hcz]; exact ⟨by omega, cap_int (sat_le _ _)⟩)
                 have HLK2 := h3.lookI (tM := 81) Try.underlying81 (askB_size HZA.out) (c := cz) (fun _ => by rw [HCZ.out]; exact h4.val z HUU.out) (fun hn => by
                   rw [HCZ.out]
                   rcases Nat.eq_zero_or_pos (acc (mvW b) (2 * (an : Int).toNat) ivW (prB (fun y => hsS Ds y) x j) g z) with e | e
                   · rw [e, sat_zero]; rfl
                   · exact absurd ((h4.mem z).2 ⟨HUU.out, e⟩) hn)
                 have hfew : L'.length ≤ 1000000 := (by have := codes_few h3.nodup (fun t ht => HLV.out t ((h4.mem t).1 ht).1); have := HC.out; omega)
                 clear hcz h3 h4)
              | (at_mapUpdate; refine wpList_store_S rfl _ _ _ _ _ (.inl rfl) Try.underlying81 HM3.out z (askB_size HZA.out) hfew rfl rfl _ rfl _ (by rw [min_sat HCZ.out HFX.out]; exact rdI_mk (wf_sat _)) ?_; intro w4 hM4 hg4))
            have S4 := Lib.hid (show LbSt w w4 an b Bv Bm (w.heap.size + 1 + 1) Lm f g lv (prB (fun y => hsS Ds y) x (j + 1)) (x :: Ds) q1 from by
              obtain ⟨r1, r2⟩ := S3.out.rg.kept hg4 (fun e => by injection e with e; omega) (fun e => by injection e with e; omega)
              exact ⟨S3.out.box.grownM hg4 (fun e => by injection e with e; omega), r1, r2.trans S3.out.left,
                ⟨_, fun t => if t = z then _ else f' t, hM4.congr (fun t _ => by unfold ltI; by_cases e : t = z <;> simp only [e, if_true, if_false]), HB3.out.live HLV.out HX.out (by omega) HXD.out HZ.out HUU.out HGX.out rfl⟩,
                S3.out.bel.grown hg4 S3.out.bel.size (fun j hj => by injection hj with hj; omega)⟩)
            have C4 := Lib.hid (C3.out.grownM hg4 (fun e => by injection e with e; omega))
            clear hM4 hg4 HLK HLK2
            go_roundw
            case rel => exact ⟨j + 1, by omega, by go_num, S4.out, C4.out⟩
            case measure => simp [intOf]; omega
        · obtain rfl : j = 2 * an := by omega
          go_wp2_with fail
          go_roundw
          case rel => exact ⟨x :: Ds, q1, HST.out.box, HST.out.rg, HST.out.left, by
            obtain ⟨L', f', h3, h4⟩ := HST.out.bh
            exact ⟨L', f', h3, h4.congr HLV.out (fun y j hy hj h => by
              unfold prB hsS
              rw [decide_eq_true (show j < 2 * an by omega), Bool.and_true, List.any_cons, Bool.or_comm]
              congr 1
              rw [decide_eq_decide]
              exact eq_comm)⟩, HST.out.bel⟩
          case measure => rw [HST.out.left]; exact HLT.out

end Go.Proofs.Ytilnjlcljjpnmaa
