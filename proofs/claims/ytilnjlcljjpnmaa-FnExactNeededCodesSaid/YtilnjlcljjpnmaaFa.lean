/- The first way around dead codes, as the program makes it. For lists that can be. -/
import Derived.Test.YtilnjlcljjpnmaaFt
import Derived.Test.YtilnjlcljjpnmaaMark
namespace Go.Proofs.Ytilnjlcljjpnmaa
open Go.ChangeShapes Go.WideShapes Go.ChangeAt Go.RowKit Go.Joins

/-- The first way. -/
def faT (a b : Int) (ts : List ByteArray) (s t : ByteArray) : List (Int × Int) := if faB a b ts s t then tuW (ptW a b (alB a b ts) t (lvZ a b ts t s).toNat s) else []

theorem faT_no {a b : Int} {ts : List ByteArray} {s t : ByteArray} (h : faB a b ts s t = false) : faT a b ts s t = [] := by unfold faT; rw [h]; rfl

theorem lwZ_lv {a b : Int} {ts : List ByteArray} {s t : ByteArray} {N : Nat} (ht : askB a b t = true) (hN : ∀ i x, N ≤ i → wyA a b (alB a b ts) s i x = 0) : lwZ a b (alB a b ts) s t N = lvZ a b ts s t := by
  rcases lvZ_cases (ts := ts) (s := s) ht with ⟨k, hk, e⟩ | ⟨hz, e⟩
  · rw [e]
    refine lwZ_at ?_ (fun i hi => ?_) hk
    · rcases Nat.lt_or_ge k N with h | h
      · exact h
      · have h1 : 0 < wyA a b (alB a b ts) s k t := hk
        have := hN k t h
        omega
    · rcases Nat.eq_zero_or_pos (wyA a b (alB a b ts) s i t) with h | h
      · exact h
      · have := wy_one h hk
        omega
  · rw [e]
    exact lwZ_no fun i _ => hz i

/-- What is handed back. -/
def FaOut (w : World) (a b : Int) (ts : List ByteArray) (s t : ByteArray) (e : Ending) (w' : World) : Prop :=
  ∃ A c, e = .returned (.tuple #[.slice A (faT a b ts s t).length c, .bool (faB a b ts s t)]) ∧ OwnT w' w.heap.size A (faT a b ts s t).length (faT a b ts s t) ∧ Below w.heap.size w w' ∧ (faT a b ts s t).length ≤ c

theorem ptW_zero (a b : Int) (al : ByteArray → Bool) (s y : ByteArray) : ptW a b al s 0 y = [] := rfl

theorem ptW_succ (a b : Int) (al : ByteArray → Bool) (s : ByteArray) (k : Nat) (y : ByteArray) : ptW a b al s (k + 1) y = fsJ a b al s k y :: ptW a b al s k (mvW b y (fsJ a b al s k y)) := rfl

theorem drop_cons {α : Type} {l : List α} {i : Nat} {x : α} {r : List α} (h : l.drop i = x :: r) (d : α) : i < l.length ∧ l.getD i d = x ∧ l.drop (i + 1) = r := by
  have hi : i < l.length := by
    rcases Nat.lt_or_ge i l.length with h1 | h1
    · exact h1
    · rw [List.drop_eq_nil_of_le h1] at h; cases h
  rw [List.drop_eq_getElem_cons hi] at h
  injection h with h1 h2
  exact ⟨hi, by rw [← h1]; simp [List.getD, hi], h2⟩

theorem faT_own {w : World} {B g n : Nat} {us : List (Int × Int)} (hl : us.length = n) (hn : n ≤ 1000) (hg : B ≤ g) (hC : Cells w g (n * 2) (turnF us)) : OwnT w B (some ⟨g, 0, none⟩) n us := ⟨hl, hn, .inr ⟨g, rfl, hg, hC⟩⟩

/-- What the making of the way holds. -/
structure FaSt (w wr : World) (a b : Int) (al : ByteArray → Bool) (t : ByteArray) (P : List Nat) (gl N : Nat) (G : Nat → Nat) (gm B gt d i : Nat) (y : ByteArray) : Prop where
  lays : LysC wr a b al t gl N G
  mz : Cells wr gm 3 (m3F a b (.map (some B)))
  tur : Cells wr gt (d * 2) (fun j => if j < i * 2 then turnF (tuW P) j else .int .i64 0)
  at_ : 0 < wyA a b al t (d - i) y
  rest : P.drop i = ptW a b al t (d - i) y
  ask : askB a b y = true
  bel : Below w.heap.size w wr

theorem FaSt.call {w wr w2 : World} {a b : Int} {al : ByteArray → Bool} {t : ByteArray} {P : List Nat} {gl N : Nat} {G : Nat → Nat} {gm B gt d i : Nat} {y : ByteArray} (h : FaSt w wr a b al t P gl N G gm B gt d i y) (hb : Below wr.heap.size wr w2) : FaSt w w2 a b al t P gl N G gm B gt d i y :=
  ⟨h.lays.call hb, h.mz.call hb, h.tur.call hb, h.at_, h.rest, h.ask, bel_call h.bel hb⟩

theorem MpS.ne_cell {w : World} {R : Rd} {B : Nat} {L : List ByteArray} {g : ByteArray → DataW Unit} (h : MpS w R B L g) {gt o : Nat} {v : Value} (hc : w.cell? ⟨gt, o, none⟩ = some v) : B ≠ gt := by
  rintro rfl
  obtain ⟨D, ⟨es, clock, hb, _⟩, _⟩ := h
  unfold World.cell? at hc
  simp [hb] at hc

theorem LyM.setCell {w : World} {a b : Int} {al : ByteArray → Bool} {s : ByteArray} {i B : Nat} (h : LyM w a b al s i B) {gt o : Nat} {v : Value} (hc : w.cell? ⟨gt, o, none⟩ = some v) (u : Value) : LyM (w.setCell ⟨gt, o, none⟩ u) a b al s i B := by
  obtain ⟨L, f, h1, h2, h3⟩ := h
  exact ⟨L, f, h1.setCell (h1.ne_cell hc) u, h2, h3⟩

theorem LysC.setCell {w : World} {a b : Int} {al : ByteArray → Bool} {s : ByteArray} {g N : Nat} {G : Nat → Nat} (h : LysC w a b al s g N G) {gt o : Nat} {v : Value} (hc : w.cell? ⟨gt, o, none⟩ = some v) (hne : g ≠ gt) (u : Value) : LysC (w.setCell ⟨gt, o, none⟩ u) a b al s g N G :=
  ⟨fun i hi => by rw [World.cell?_setCell_other w _ _ u (fun e => hne (congrArg Addr.block e).symm), h.cell i hi], by rw [size_setCell]; exact h.lt, fun i hi => (h.ly i hi).setCell hc u⟩

theorem FaSt.step {w wr : World} {a b : Int} {al : ByteArray → Bool} {t : ByteArray} {P : List Nat} {gl N : Nat} {G : Nat → Nat} {gm B gt d i : Nat} {y : ByteArray} (h : FaSt w wr a b al t P gl N G gm B gt d i y) (h1 : gl < gt) (h2 : gm < gt) (h3 : w.heap.size ≤ gt) (hi : i < d) (hP : P.length = d) {j k : Nat} (hk : d - i = k + 1)
    (hj : P.getD i 0 = j) (hr : P.drop (i + 1) = ptW a b al t k (mvW b y j)) (ha : 0 < wyA a b al t k (mvW b y j)) (hz : askB a b (mvW b y j) = true) :
    FaSt w ((wr.setCell ⟨gt, i * 2, none⟩ (.int .i64 ((j / 2 : Nat) : Int))).setCell ⟨gt, i * 2 + 1, none⟩ (.int .i64 (byW j))) a b al t P gl N G gm B gt d (i + 1) (mvW b y j) := by
  have e0 := h.tur.cell (show i * 2 < d * 2 by omega)
  have t1 := h.tur.set_ (show i * 2 < d * 2 by omega) (.int .i64 ((j / 2 : Nat) : Int))
  have e1 := t1.cell (show i * 2 + 1 < d * 2 by omega)
  have ek : d - (i + 1) = k := by omega
  refine ⟨(h.lays.setCell e0 (by omega) _).setCell e1 (by omega) _, (h.mz.far (show gt ≠ gm by omega) _).far (show gt ≠ gm by omega) _, (t1.set_ (show i * 2 + 1 < d * 2 by omega) _).congr fun q hq => ?_, by rw [ek]; exact ha, by rw [ek]; exact hr, hz, (h.bel.setCell h3 _).setCell h3 _⟩
  have hu := tuW_at (js := P) (i := i) (by omega)
  rw [hj] at hu
  by_cases q1 : q = i * 2 + 1
  · subst q1
    rw [if_pos rfl, if_pos (by omega), turnF_1, hu]
  · rw [if_neg q1]
    by_cases q2 : q = i * 2
    · subst q2
      rw [if_pos rfl, if_pos (by omega), turnF_0, hu]
    · rw [if_neg q2]
      by_cases q3 : q < i * 2
      · rw [if_pos q3, if_pos (by omega)]
      · rw [if_neg q3, if_neg (by omega)]

set_option maxRecDepth 100000 in
set_option maxHeartbeats 4000000 in
theorem firstAround_any (a b : Int) (A : Option Addr) (n c : Nat) (ts : List ByteArray) (s t : ByteArray) (w : World) (hn : n ≤ maxLen) (hs : s.size ≤ maxLen) (ht : t.size ≤ maxLen) (hA : ArgS w A n ts) :
    Calls Try.prog 27 #[.agg #[.int .i64 a, .int .i64 b], .slice A n c, .string s, .string t] w (FaOut w a b ts s t) := by
  have HA := Lib.hid hA
  have HN := Lib.hid hn
  have HS := Lib.hid hs
  have HT := Lib.hid ht
  have X0 := Lib.hid (show Below w.heap.size w ((w.alloc (.cells #[.int .i64 a, .int .i64 b] 28)).alloc (.cells #[.string s, .string t] 9)) by (repeat (first | assumption | exact Below.refl _ _ | (refine Below.alloc ?_ (by first | omega | (simp; done) | (simp; omega)) _) | (refine Below.setCell ?_ (by first | omega | (simp; done) | (simp; omega)) _) | refine bel_drewN ?_ _ | refine bel_drew ?_ | (refine bel_call ?_ (by assumption)))))
  have C0 := Lib.hid ((box_new (W := w) (a := a) (b := b) (t := 28) rfl).alloc (.cells #[.string s, .string t] 9))
  have E0 := Lib.hid (argS_two (W := w.alloc (.cells #[.int .i64 a, .int .i64 b] 28)) (s := s) (u := t) (t := 9) (g := w.heap.size + 1) (by simp) hs ht)
  clear hA hn hs ht
  go_enter Try.func27, Try.ntmps27
  go_wp2_with fail
  refine (mazeOf_any _ _ _ _ _ ts _ _ _ [s, t] _ HN.out (HA.out.below X0.out) (by unfold maxLen; omega) E0.out).mono ?_
  rintro e w1 h1
  rcases h1 with ⟨hd, B, rfl, hB, hlv, hb1⟩ | ⟨hd, rfl, hb1⟩
  · rw [mzB_two] at hd
    unfold mzV
    have HD := Lib.hid hd
    have HP := Lib.hid (dkB_parts (dtB_parts hd).1)
    have HQ := Lib.hid (dkB_parts (dtB_parts hd).2)
    have hwB : w.heap.size ≤ B := by have := X0.out.size; omega
    have X1 := Lib.hid ((bel_call X0.out hb1).alloc (bel_call X0.out hb1).size (.cells #[.int .i64 a, .int .i64 b, .map (some B)] 72))
    have C1 := Lib.hid ((C0.out.call hb1).alloc (.cells #[.int .i64 a, .int .i64 b, .map (some B)] 72))
    have M1 := Lib.hid (m3_new (W := w1) (a := a) (b := b) (v := .map (some B)) (t := 72) rfl)
    have L1 := Lib.hid (hlv.call ((Below.refl _ _).alloc (Nat.le_refl _) (.cells #[.int .i64 a, .int .i64 b, .map (some B)] 72)))
    have k0 : (w1.alloc (.cells #[.int .i64 a, .int .i64 b, .map (some B)] 72)).cell? ⟨w1.heap.size, 0, none⟩ = some (.int .i64 a) := M1.out.cell (show 0 < 3 by omega)
    have k1 : (w1.alloc (.cells #[.int .i64 a, .int .i64 b, .map (some B)] 72)).cell? ⟨w1.heap.size, 1, none⟩ = some (.int .i64 b) := M1.out.cell (show 1 < 3 by omega)
    have k2 : (w1.alloc (.cells #[.int .i64 a, .int .i64 b, .map (some B)] 72)).cell? ⟨w1.heap.size, 2, none⟩ = some (.map (some B)) := M1.out.cell (show 2 < 3 by omega)
    have hBw1 : B < w1.heap.size := hlv.lt
    clear hd hb1 hlv X0 E0 hB
    have HBQ := Lib.hid hwB
    go_wp2_with fail
    refine (layersFrom_any _ _ _ (alB a b ts) _ _ L1.out (fun t h => alB_ask h) HQ.out.2.2.2.2.2.2 HP.out.2.2.1 HP.out.2.2.2.1).mono ?_
    rintro e w3 ⟨v, N, G, rfl, hN0, hN1, hrow, hly, hne, hend, hlv3, hgr3, hsh3⟩
    have X3 := Lib.hid (below_grown X1.out hwB hgr3)
    have M3 := Lib.hid (M1.out.grownM hgr3 (fun e => by injection e with e; omega))
    obtain ⟨g, cc, rfl, hgl, hcell⟩ := lays_cells hrow hN0
    have HLC := Lib.hid (show LysC w3 a b (alB a b ts) t g N G from ⟨hcell, hgl, fun i hi => (hly i hi).2⟩)
    have HEND := Lib.hid hend
    have hgm : w.heap.size ≤ w1.heap.size := by have := X1.out.size; have := hlv3; omega
    clear hrow hly hne hend hlv3 hgr3 hsh3 hcell k0 k1 k2
    go_wp2_with fail
    refine (layerWith_any _ _ _ _ _ _ _ _ G _ HLC.out hN1 HS.out).mono ?_
    rw [lwZ_lv HP.out.2.2.2.2.1 HEND.out]
    rintro e w4 ⟨rfl, hb4⟩
    have X4 := Lib.hid (bel_call X3.out hb4)
    have M4 := Lib.hid (M3.out.call hb4)
    have L4 := Lib.hid (HLC.out.call hb4)
    have HFB : Hid (faB a b ts s t = decide (0 ≤ lvZ a b ts t s)) := Lib.hid (by unfold faB rcB; rw [HD.out, lvZ_sym HP.out.2.2.2.2.2.2 HQ.out.2.2.2.2.2.2]; rfl)
    clear hb4
    rcases lvZ_cases (ts := ts) (s := t) HP.out.2.2.2.2.1 with ⟨d, hd, he⟩ | ⟨hz, he⟩
    · have hd1 : d < 1000 := by have := wyZ_lt HP.out.2.2.2.2.1 hd; have := HP.out.2.2.2.1; omega
      have HV : Hid (faB a b ts s t = true) := Lib.hid (by rw [HFB.out, he]; exact decide_eq_true (by omega))
      have HFT : Hid (faT a b ts s t = tuW (ptW a b (alB a b ts) t d s)) := Lib.hid (by unfold faT; rw [HV.out, if_pos rfl, he, Int.toNat_natCast])
      obtain ⟨P, hP⟩ : ∃ P, ptW a b (alB a b ts) t d s = P := ⟨_, rfl⟩
      have HPT : Hid (ptW a b (alB a b ts) t d s = P ∧ P.length = d) := Lib.hid ⟨hP, by rw [← hP, ptW_length]⟩
      have hmk := make_turns d (by omega) w4
      have C5 := Lib.hid (made_turns w4 d)
      rw [he]
      have ST5 := Lib.hid (show FaSt w (w4.alloc (.cells (madeCells #[.int .i64 0, .int .i64 0] (d * 2)) 68)) a b (alB a b ts) t P g N G w1.heap.size B w4.heap.size d 0 s from
        ⟨L4.out.call ((Below.refl _ _).alloc (Nat.le_refl _) _), M4.out.alloc _, C5.out.congr (fun j _ => by rw [if_neg (by omega)]), hd, by rw [List.drop_zero, Nat.sub_zero, hP], HP.out.2.2.2.2.1, X4.out.alloc X4.out.size _⟩)
      have hgt : w.heap.size ≤ w4.heap.size := X4.out.size
      have hdN : d < N := by
        rcases Nat.lt_or_ge d N with h | h
        · exact h
        · have h1 : 0 < wyA a b (alB a b ts) t d s := hd
          have := HEND.out d s h
          omega
      have hg3 : g < w4.heap.size := L4.out.lt
      have hm3 : w1.heap.size < w4.heap.size := M4.out.lt
      clear hP hd he C5 L4 M4 X4 HLC M3 X3
      go_wp2_with fail
      clear hmk
      obtain ⟨gt, hgte⟩ : ∃ gt, w4.heap.size = gt := ⟨_, rfl⟩
      obtain ⟨gm, hgme⟩ : ∃ gm, w1.heap.size = gm := ⟨_, rfl⟩
      rw [hgte, hgme] at ST5
      rw [hgte] at hgt hg3 hm3 ⊢
      rw [hgme] at hm3 hgm ⊢
      clear hgte hgme
      go_loopw [15, 41] (fun v i wr => ∃ (i0 : Nat) (y : ByteArray), i0 ≤ d ∧ i = .int .i64 i0 ∧ v = .string y ∧ FaSt w wr a b (alB a b ts) t P g N G gm B gt d i0 y) (fun _ i _ => d - (intOf i).toNat)
      case atStart => exact ⟨0, s, by omega, rfl, rfl, ST5.out⟩
      case round =>
        clear ST5
        obtain ⟨i, y, hi, rfl, rfl, hS⟩ := hrel
        have HST := Lib.hid hS
        clear hS
        by_cases hlt : i < d
        · obtain ⟨k, hk⟩ : ∃ k, d - i = k + 1 := ⟨d - i - 1, by omega⟩
          have hat := HST.out.at_
          have hrest := HST.out.rest
          rw [hk] at hat hrest
          rw [ptW_succ] at hrest
          obtain ⟨f1, f2, f3⟩ := fsJ_yes HST.out.ask hat
          have HAT := Lib.hid hat
          obtain ⟨j, hj⟩ : ∃ j, fsJ a b (alB a b ts) t k y = j := ⟨_, rfl⟩
          obtain ⟨r1, r2, r3⟩ := drop_cons hrest 0
          have HJ := Lib.hid hj
          rw [hj] at f1 f2 r2 r3
          have HR2 := Lib.hid r2
          have HR3 := Lib.hid r3
          have HF2 := Lib.hid f2
          have HZA := Lib.hid (mvW_ask HST.out.ask f1)
          have hkN : k < N := by omega
          have hw1 : IntKind.i64.wrap ((d : Int) - 1) = (d : Int) - 1 := IntWalk.i64_in _ (by omega)
          have hw2 : IntKind.i64.wrap ((d : Int) - 1 - (i : Int)) = (k : Int) := by rw [show (d : Int) - 1 - (i : Int) = (k : Int) by omega]; exact IntWalk.i64_in _ (by omega)
          have z := HST.out.lays.cell k hkN
          have k0 : wr.cell? ⟨gm, 0, none⟩ = some (.int .i64 a) := HST.out.mz.cell (show 0 < 3 by omega)
          have k1 : wr.cell? ⟨gm, 1, none⟩ = some (.int .i64 b) := HST.out.mz.cell (show 1 < 3 by omega)
          have k2 : wr.cell? ⟨gm, 2, none⟩ = some (.map (some B)) := HST.out.mz.cell (show 2 < 3 by omega)
          clear hat hrest f1 f2 f3 hj r1 r2 r3
          go_wp2_with fail
          go_region_with (go_at_call 71; refine (firstTurn_any _ _ _ _ _ _ k _ _ ((HST.out.lays.ly k hkN).call (bel_drew (Below.refl _ _))) HST.out.ask HAT.out).mono ?_; rw [HJ.out]; rintro e w5 ⟨rfl, hb5⟩; replace hb5 := below_undrew hb5; have S5 := Lib.hid (HST.out.call hb5); have p0 := S5.out.tur.cell (show i * 2 < d * 2 by omega); have p1 := S5.out.tur.cell (show i * 2 + 1 < d * 2 by omega); have p2 := S5.out.tur.frozen (show i * 2 < d * 2 by omega); have p3 := S5.out.tur.frozen (show i * 2 + 1 < d * 2 by omega))
          all_goals
            have SN := Lib.hid (S5.out.step hg3 hm3 hgt hlt HPT.out.2 hk HR2.out HR3.out HF2.out HZA.out)
            clear p0 p1 p2 p3
            go_wp2_with fail
            go_roundw
            case rel => exact ⟨i + 1, _, by omega, by go_num, rfl, SN.out⟩
            case measure => simp [intOf]; omega
        · obtain rfl : i = d := by omega
          go_wp2_with fail
          go_ret2
          exact ⟨some ⟨gt, 0, none⟩, i, by rw [HV.out, HFT.out, HPT.out.1, tuW_length, HPT.out.2]; rfl, by
            rw [HFT.out, HPT.out.1, tuW_length, HPT.out.2]
            exact faT_own (by rw [tuW_length, HPT.out.2]) (by omega) hgt (HST.out.tur.congr fun j hj => by rw [if_pos hj]), HST.out.bel, by rw [HFT.out, HPT.out.1, tuW_length, HPT.out.2]; exact Nat.le_refl _⟩
    · have HV : Hid (faB a b ts s t = false) := Lib.hid (by rw [HFB.out, he]; exact decide_eq_false (by omega))
      rw [he]
      clear he hz
      go_wp2_with fail
      go_ret2
      exact ⟨none, 0, by rw [HV.out, faT_no HV.out]; rfl, by rw [faT_no HV.out]; exact ⟨rfl, by decide, .inl rfl⟩, X4.out, by rw [faT_no HV.out]; exact Nat.le_refl _⟩
  · rw [mzB_two] at hd
    have HD := Lib.hid hd
    have X1 := Lib.hid ((bel_call X0.out hb1).alloc (bel_call X0.out hb1).size (.cells #[.int .i64 0, .int .i64 0, .map none] 72))
    unfold mzV
    have HV : Hid (faB a b ts s t = false) := Lib.hid (by unfold faB; rw [hd]; rfl)
    clear hd hb1
    go_wp2_with fail
    go_ret2
    exact ⟨none, 0, by rw [HV.out, faT_no HV.out]; rfl, by rw [faT_no HV.out]; exact ⟨rfl, by decide, .inl rfl⟩, X1.out, by rw [faT_no HV.out]; exact Nat.le_refl _⟩

end Go.Proofs.Ytilnjlcljjpnmaa
