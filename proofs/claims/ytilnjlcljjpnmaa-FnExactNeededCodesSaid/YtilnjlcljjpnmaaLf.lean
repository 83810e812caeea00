/- All layers around a code, as the program makes them; what they hold is taken out of the live codes. For a lock of few codes. -/
import Derived.Test.YtilnjlcljjpnmaaLb
import Derived.ScopeJumps
import Derived.Maps.AppendAt
namespace Go.Proofs.Ytilnjlcljjpnmaa
open Go.ChangeShapes Go.WideShapes Go.ChangeAt Go.RowKit Go.Joins

/-- How many ways of so many turns lead to a code: those with the fewest alone. -/
def wyA (a b : Int) (al : ByteArray → Bool) (s : ByteArray) (k : Nat) (x : ByteArray) : Nat := wy (mvW b) (2 * a.toNat) ivW al s k x

/-- Seen before the level. -/
def snU (a b : Int) (al : ByteArray → Bool) (s : ByteArray) : Nat → ByteArray → Bool
  | 0, _ => false
  | k + 1, x => sn (mvW b) (2 * a.toNat) ivW al s k x

/-- Alive, and not seen before the level. -/
def lvK (a b : Int) (al : ByteArray → Bool) (s : ByteArray) (k : Nat) (x : ByteArray) : Bool := al x && !snU a b al s k x

theorem snU_succ (a b : Int) (al : ByteArray → Bool) (s : ByteArray) (k : Nat) (x : ByteArray) : snU a b al s (k + 1) x = (snU a b al s k x || decide (0 < wyA a b al s k x)) := by
  cases k with
  | zero =>
    show sn _ _ _ _ _ 0 x = (false || decide (0 < wy _ _ _ _ _ 0 x))
    rw [sn_zero, wy_zero, Bool.false_or, decide_eq_decide]
    by_cases h : x = s
    · rw [if_pos h]; exact ⟨fun _ => by omega, fun _ => h⟩
    · rw [if_neg h]; exact ⟨fun e => absurd e h, fun e => absurd e (Nat.lt_irrefl 0)⟩
  | succ k => exact sn_succ ..

theorem lvK_zero {a b : Int} {al : ByteArray → Bool} {s : ByteArray} (x : ByteArray) : lvK a b al s 0 x = al x := by unfold lvK snU; simp

theorem lvK_succ {a b : Int} {al : ByteArray → Bool} {s : ByteArray} (k : Nat) (x : ByteArray) : lvK a b al s (k + 1) x = (lvK a b al s k x && !decide (0 < wyA a b al s k x)) := by
  unfold lvK
  rw [snU_succ]
  cases al x <;> cases snU a b al s k x <;> simp

theorem lvK_al {a b : Int} {al : ByteArray → Bool} {s : ByteArray} {k : Nat} {x : ByteArray} (h : lvK a b al s k x = true) : al x = true := by
  unfold lvK at h
  rw [Bool.and_eq_true] at h
  exact h.1

theorem wyA_next {a b : Int} {al : ByteArray → Bool} {s : ByteArray} (k : Nat) (x : ByteArray) (hx : lvK a b al s (k + 1) x = true) : acc (mvW b) (2 * a.toNat) ivW (fun _ _ => true) (wyA a b al s k) x = wyA a b al s (k + 1) x := by
  unfold wyA
  rw [wy_succ]
  unfold lvK snU at hx
  rw [hx, if_pos rfl]
  rfl

theorem wyA_lv {a b : Int} {al : ByteArray → Bool} {s : ByteArray} {k : Nat} {x : ByteArray} (h : 0 < wyA a b al s (k + 1) x) : lvK a b al s (k + 1) x = true := by
  unfold wyA at h
  rw [wy_succ] at h
  unfold lvK snU
  split at h
  · assumption
  · omega

theorem wyA_ask {a b : Int} {al : ByteArray → Bool} {s : ByteArray} (ha : ∀ t, al t = true → askB a b t = true) (hs : al s = true) {k : Nat} {x : ByteArray} (h : 0 < wyA a b al s k x) : askB a b x = true := ha x (wy_alive hs h)

theorem wyA_lt {a b : Int} {al : ByteArray → Bool} {s : ByteArray} (ha : ∀ t, al t = true → askB a b t = true) (hs : al s = true) {k : Nat} {x : ByteArray} (h : 0 < wyA a b al s k x) : k < cnN a b := by
  obtain ⟨L, h1, h2, h3⟩ := wy_chain (grfW a b) k x (wyA_ask ha hs h) h
  have := codes_few h2 fun y hy => (h3 y hy).1
  omega

theorem wyA_end {a b : Int} {al : ByteArray → Bool} {s : ByteArray} (ha : ∀ t, al t = true → askB a b t = true) (hs : al s = true) {N : Nat} (h : ∀ x, wyA a b al s N x = 0) : ∀ (i : Nat) (x : ByteArray), wyA a b al s (N + i) x = 0
  | 0, x => h x
  | i + 1, x => by
    rcases Nat.eq_zero_or_pos (wyA a b al s (N + (i + 1)) x) with e | e
    · exact e
    · obtain ⟨y, j, _, _, _, hy⟩ := wy_pred (grfW a b) (wyA_ask ha hs e) e
      have h1 := wyA_end ha hs h i y
      have h2 : 0 < wyA a b al s (N + i) y := hy
      omega

/-- A layer. -/
def LyM (w : World) (a b : Int) (al : ByteArray → Bool) (s : ByteArray) (i B : Nat) : Prop :=
  ∃ L f, MpS w RdI B L (ltI f) ∧ (∀ t, t ∈ L ↔ 0 < wyA a b al s i t) ∧ (∀ t, t ∈ L → f t = ((sat capN (wyA a b al s i t) : Nat) : Int))

theorem LyM.kept {w w' : World} {a b : Int} {al : ByteArray → Bool} {s : ByteArray} {i B : Nat} {row : Option Nat} (h : LyM w a b al s i B) (hg : w.grownBy w' row) (hne : some B ≠ row) : LyM w' a b al s i B := by
  obtain ⟨L, f, h1, h2, h3⟩ := h
  exact ⟨L, f, h1.kept hg hne, h2, h3⟩

theorem LyM.lt {w : World} {a b : Int} {al : ByteArray → Bool} {s : ByteArray} {i B : Nat} (h : LyM w a b al s i B) : B < w.heap.size := by
  obtain ⟨L, f, h1, _⟩ := h
  exact h1.lt

/-- Maps as values. -/
def mapVs (G : Nat → Nat) (k : Nat) : List Value := (List.range k).map fun i => .map (some (G i))

theorem mapVs_succ (G : Nat → Nat) (k : Nat) : mapVs G (k + 1) = mapVs G k ++ [.map (some (G k))] := by unfold mapVs; rw [List.range_succ, List.map_append]; rfl

theorem mapVs_congr {G G' : Nat → Nat} {k : Nat} (h : ∀ i, i < k → G i = G' i) : mapVs G k = mapVs G' k := by
  unfold mapVs
  exact List.map_congr_left fun i hi => by rw [h i (List.mem_range.1 hi)]

theorem row_no_map {w : World} {base size n : Nat} {e : TypeId} {v : Value} {xs : List Value} {R : Rd} {B : Nat} {L : List ByteArray} {g : ByteArray → DataW Unit} (h : w.ownsRow base e size v n xs) (hm : MpS w R B L g) : some B ≠ v.ownBlock := by
  intro he
  obtain ⟨D, ⟨es, clock, hb, _⟩, _⟩ := hm
  rcases h.2 with ⟨rfl, _⟩ | ⟨g, cap, cur, rfl, _, hc, _⟩
  · cases he
  · have : B = g := by simpa [Value.ownBlock] using he
    subst this
    rw [hb] at hc
    cases hc

theorem info_layer : (Try.prog.info? 81).map (fun i => (i.zero, i.size, i.bytes)) = some (some (.map none), 1, 8) := by kernel_rfl

/-- What the search holds at the label. -/
structure LySt (w wr : World) (a b : Int) (al : ByteArray → Bool) (s : ByteArray) (Bv k : Nat) (v : Value) (G : Nat → Nat) : Prop where
  row : wr.ownsRow (w.heap.size + 1) 81 1 v k (mapVs G k)
  ly : ∀ i, i ≤ k → w.heap.size < G i ∧ LyM wr a b al s i (G i)
  ne : ∃ x, 0 < wyA a b al s k x
  box : Cells wr w.heap.size 3 (m3F a b (.map (some Bv)))
  grown : w.grownBy wr (some Bv)
  shr : Shr w wr Bv

theorem LySt.kept {w wr w2 : World} {a b : Int} {al : ByteArray → Bool} {s : ByteArray} {Bv k : Nat} {v : Value} {G : Nat → Nat} {row : Option Nat} (h : LySt w wr a b al s Bv k v G) (hg : wr.grownBy w2 row) (h1 : some w.heap.size ≠ row) (h2 : ∀ i, i ≤ k → some (G i) ≠ row)
    (h3 : v.ownBlock = none ∨ v.ownBlock ≠ row) (h4 : ∀ j, row = some j → w.heap.size ≤ j ∨ some Bv = some j) (h5 : Shr w w2 Bv) : LySt w w2 a b al s Bv k v G :=
  ⟨h.row.kept hg h3, fun i hi => ⟨(h.ly i hi).1, (h.ly i hi).2.kept hg (h2 i hi)⟩, h.ne, h.box.grownM hg h1, h.grown.andThen hg h4, h5⟩

theorem LySt.lts {w wr : World} {a b : Int} {al : ByteArray → Bool} {s : ByteArray} {Bv k : Nat} {v : Value} {G : Nat → Nat} (h : LySt w wr a b al s Bv k v G) : ∀ i, i ≤ k → G i < wr.heap.size := fun i hi => (h.ly i hi).2.lt

/-- The live codes, kept by what makes memory alone. -/
theorem grown_none {w w' : World} (hb : Below w.heap.size w w') : w.grownBy w' none := ⟨hb.os, hb.tape, hb.output, hb.size, fun i hi _ => hb.block i hi⟩

/-- What is handed back. -/
def LyOut (w : World) (a b : Int) (al : ByteArray → Bool) (s : ByteArray) (Bv : Nat) (e : Ending) (w' : World) : Prop :=
  ∃ v N G, e = .returned v ∧ 0 < N ∧ N ≤ 1000 ∧ w'.ownsRow (w.heap.size + 1) 81 1 v N (mapVs G N) ∧ (∀ i, i < N → w.heap.size < G i ∧ LyM w' a b al s i (G i)) ∧ (∃ x, 0 < wyA a b al s (N - 1) x) ∧ (∀ i x, N ≤ i → wyA a b al s i x = 0) ∧
    LiveM w' Bv (lvK a b al s N) ∧ w.grownBy w' (some Bv) ∧ Shr w w' Bv

/-- A scope that is left, or jumps back to one label: what is done behind the label is walked once. -/
theorem wp_scope_back {P : Program} {a : Act} {w : World} {Q : Exit → Act → World → Prop} {c rest : Code} (l : Nat) (J : Act → World → Prop) (μ : Act → World → Nat) (hf : findLabel c l = some (.seq .skip rest))
    (pass : ∀ a w, J a w → rest.wp P (Exit.jump l (fun a' w' => J a' w' ∧ μ a' w' < μ a w) Q) a w)
    (first : (∀ a w, J a w → rest.wp P (Exit.jump l J Q) a w) → c.wp P (Exit.jump l J Q) a w) : (Code.scope c).wp P Q a w :=
  wp_scope_jumps l J μ hf (first fun a w hJ b k cs => by
    obtain ⟨e, a₁, w₁, hq, harr⟩ := pass a w hJ b k cs
    refine ⟨e, a₁, w₁, ?_, harr⟩
    cases e with
    | goto l' => exact ⟨hq.1, hq.2.1⟩
    | normal => exact hq
    | exit id => exact hq
    | ret => exact hq
    | panic ch => exact hq
    | outgrown => exact hq) fun a w hJ => wp_seq (wp_skip (pass a w hJ))

theorem hsS_cons (x : ByteArray) (Ds : List ByteArray) (t : ByteArray) : hsS (x :: Ds) t = (decide (x = t) || hsS Ds t) := rfl

def lenO : Value → Nat
  | .slice _ n _ => n
  | _ => 0

theorem row_len {w : World} {base size n : Nat} {e : TypeId} {v : Value} {xs : List Value} (h : w.ownsRow base e size v n xs) : lenO v = n := by
  rcases h.2 with ⟨rfl, rfl⟩ | ⟨g, cap, cur, rfl, _⟩ <;> rfl

set_option maxRecDepth 100000 in
set_option maxHeartbeats 4000000 in
theorem layersFrom_any (a b : Int) (Bv : Nat) (al : ByteArray → Bool) (s : ByteArray) (w : World) (hL : LiveM w Bv al) (ha : ∀ t, al t = true → askB a b t = true) (hs : al s = true) (hgd : goodB a b = true) (hc : cnN a b ≤ 1000) :
    Calls Try.prog 69 #[mzV a b (.map (some Bv)), .string s] w (LyOut w a b al s Bv) := by
  obtain ⟨i0, hi, hz0, hz1, hz2⟩ := info_parts info_layer
  have HL := Lib.hid hL
  have HA := Lib.hid ha
  have HS := Lib.hid hs
  have HGD := Lib.hid hgd
  have HC := Lib.hid hc
  have HSZ := Lib.hid (askB_size (ha s hs))
  have hBv : Bv < w.heap.size := hL.lt
  have C0 := Lib.hid (show Cells ((w.alloc (.cells #[.int .i64 a, .int .i64 b, .map (some Bv)] 72)).alloc (.map #[] 0)) w.heap.size 3 (m3F a b (.map (some Bv))) from (m3_new (W := w) rfl).alloc _)
  have X0 := Lib.hid (show Below w.heap.size w ((w.alloc (.cells #[.int .i64 a, .int .i64 b, .map (some Bv)] 72)).alloc (.map #[] 0)) by (repeat (first | assumption | exact Below.refl _ _ | (refine Below.alloc ?_ (by first | omega | (simp; done) | (simp; omega)) _) | (refine Below.setCell ?_ (by first | omega | (simp; done) | (simp; omega)) _) | refine bel_drewN ?_ _ | refine bel_drew ?_ | (refine bel_call ?_ (by assumption)))))
  have M0 := Lib.hid (MpS.made (w.alloc (.cells #[.int .i64 a, .int .i64 b, .map (some Bv)] 72)) RdI (ltI fun _ => 0))
  have hmm := @run_makeMap Try.prog
  clear hL ha hs hgd hc
  unfold mzV
  go_enter Try.func69, Try.ntmps69
  go_wp2_with fail
  refine wp_scope_back 0 (fun a' wr => ∃ (k : Nat) (v : Value) (G : Nat → Nat) (Bm : Nat) (u7 u11 u12 u13 u14 u15 u16 u17 u18 u19 u20 u21 u22 u23 u24 u25 u26 u27 u28 u29 u30 : Value), a' = { tmps := #[.agg #[.int .i64 a, .int .i64 b, .map (some Bv)], .string s, .pointer (some ⟨w.heap.size, 0, none⟩), undef, .slice none 0 0, v, .map (some Bm), u7, .map (some (w.heap.size + 1)), .string s, .map (some (w.heap.size + 1)), u11, u12, u13, u14, u15, u16, u17, u18, u19, u20, u21, u22, u23, u24, u25, u26, u27, u28, u29, u30], defers := [] } ∧ G k = Bm ∧ LySt w wr a b al s Bv k v G ∧ LiveM wr Bv (lvK a b al s k)) (fun a' _ => 1001 - lenO (a'.tmps.getD 5 undef)) rfl ?_ ?_
  · rintro _ wr ⟨k, v, G, _, u7, u11, u12, u13, u14, u15, u16, u17, u18, u19, u20, u21, u22, u23, u24, u25, u26, u27, u28, u29, u30, rfl, rfl, hst, hliv⟩
    have ST0 := Lib.hid hst
    clear hst C0 X0 M0 hmm
    obtain ⟨Lm, f, hLm, hmem, hval⟩ := (ST0.out.ly k (Nat.le_refl _)).2
    have HLM := Lib.hid hLm
    have HMEM := Lib.hid hmem
    have HVAL := Lib.hid hval
    have HLIV := Lib.hid hliv
    have HLTS := Lib.hid ST0.out.lts
    have HVB := Lib.hid ST0.out.row.lt
    have hGk : w.heap.size < (G k) := (ST0.out.ly k (Nat.le_refl _)).1
    have hkM : k < 1000 := by obtain ⟨x, hx⟩ := ST0.out.ne; have := wyA_lt HA.out HS.out hx; have := HC.out; omega
    clear hLm hmem hval hliv
    go_wp2_with (at_range; refine wpList_range_S rfl _ _ _ rfl Try.underlying81 HLM.out rfl ?_; intro w2 hrg2 hg2 hs2)
    go_frame
    obtain ⟨r, hr⟩ : ∃ r, wr.heap.size = r := ⟨_, rfl⟩
    have HR := Lib.hid hr
    rw [hr] at hrg2 hs2 ⊢
    clear hr
    have hrB : w.heap.size < r := by rw [← HR.out]; exact ST0.out.box.lt
    have ST2 := Lib.hid (ST0.out.kept hg2 (by simp) (fun i _ => by simp) (Classical.em _) (fun j hj => by cases hj) (ST0.out.shr.kept hg2 (by simp)))
    have HLV2 := Lib.hid (HLIV.out.kept hg2 (by simp))
    clear hg2 hs2
    go_loopw [7] (fun _ wr => ∃ Ds, RgS wr RdI (G k) r Lm (ltI f) Ds ∧ (∀ t, t ∈ Ds → t ∈ Lm) ∧ LiveM wr Bv (fun t => lvK a b al s k t && !hsS Ds t) ∧ LySt w wr a b al s Bv k v G) (fun _ wr => wr.rangeLeft (G k) r)
    case atStart => exact ⟨[], hrg2, fun t ht => by (cases ht), HLV2.out.congr (fun t => by unfold hsS; simp), ST2.out⟩
    case round =>
      clear ST2 HLV2 hrg2
      obtain ⟨Ds, hRg, hsub, hlv, hST⟩ := hrel
      have HRG := Lib.hid hRg
      have HSUB := Lib.hid hsub
      have HLV := Lib.hid hlv
      have HST := Lib.hid hST
      clear hRg hsub hlv hST
      go_wp2_with (at_next; refine wpList_next_S rfl _ rfl _ rdI_val rfl HRG.out ?_ ?_)
      · intro hall
        have HLVN := Lib.hid (HLV.out.congr (al' := lvK a b al s (k + 1)) (fun t => by
          rw [lvK_succ]
          congr 2
          rw [Bool.eq_iff_iff, hsS_iff, decide_eq_true_iff, ← HMEM.out]
          exact ⟨HSUB.out t, hall t⟩))
        clear hall
        have HNB : Hid (∀ i, i ≤ k → some (G i) ≠ v.ownBlock) := Lib.hid fun i hi => by
          obtain ⟨L3, f3, h3, _⟩ := (HST.out.ly i hi).2
          exact row_no_map HST.out.row h3
        have hlw : w.heap.size < wr.heap.size := HST.out.box.lt
        go_wp2_with (at_builtin; refine wpList_append_own_at _ rfl _ _ 75 rfl (w.heap.size + 1) 81 i0 (.map none) 1 8 Try.underlying75 hi hz0 hz1 hz2 rfl (by decide) _ k _ rfl (HST.out.row.alloc _) ⟨_, 0, none⟩ 1 1 [.map (some (G k))] rfl rfl (cell_one_new _ _ _) (by simp [Value.oneCell']) (by unfold maxLen; omega) (by omega) (by simp; omega) ?_; intro v' w4 hown' hgrow hiff hblk; clear hiff
                     have hg4 : wr.grownBy w4 v.ownBlock := (World.grownBy_alloc wr _ _).trans hgrow
                     have HROW := Lib.hid hown'
                     have HLY := Lib.hid (fun i (hi : i ≤ k) => (HST.out.ly i hi).2.kept hg4 (HNB.out i hi))
                     have hvb : ∀ j, v.ownBlock = some j → w.heap.size + 1 ≤ j := fun j hj => (HST.out.row.lt j hj).1
                     have HBOX := Lib.hid (HST.out.box.grownM hg4 (fun e => by have := hvb _ e.symm; omega))
                     have HLV4 := Lib.hid (HLVN.out.kept hg4 (fun e => by have := hvb _ e.symm; omega))
                     have HGR4 := Lib.hid (HST.out.grown.andThen hg4 (fun j hj => .inl (by have := hvb _ hj; omega)))
                     have HSH4 := Lib.hid (HST.out.shr.kept hg4 (fun e => by have := hvb _ e.symm; omega))
                     have HM4 := Lib.hid (HRG.out.owns.kept hg4 (HNB.out k (Nat.le_refl _)))
                     have m0 : w4.cell? ⟨w.heap.size, 0, none⟩ = some (.int .i64 a) := HBOX.out.cell (show 0 < 3 by omega)
                     have m1 : w4.cell? ⟨w.heap.size, 1, none⟩ = some (.int .i64 b) := HBOX.out.cell (show 1 < 3 by omega)
                     have m2 : w4.cell? ⟨w.heap.size, 2, none⟩ = some (.map (some Bv)) := HBOX.out.cell (show 2 < 3 by omega)
                     clear hg4 hown' hgrow hblk hvb)
        refine (layerBehind_any a b Bv (G k) (lvK a b al s (k + 1)) Lm f (wyA a b al s k) _ HLV4.out (fun t h => HA.out t (lvK_al h)) HM4.out HMEM.out HVAL.out (fun t h => wyA_ask HA.out HS.out h) HGD.out HC.out).mono ?_
        rintro e w5 ⟨B', L', f', rfl, hB', hM5, hI5, hb5⟩
        have HM5 := Lib.hid hM5
        have HB5 := Lib.hid hb5
        have hw4 : w.heap.size < w4.heap.size := HBOX.out.lt
        have HMEM5 : Hid (∀ t, t ∈ L' ↔ 0 < wyA a b al s (k + 1) t) := Lib.hid (fun t => by
          rw [hI5.mem]
          constructor
          · rintro ⟨h1, h2⟩; rw [← wyA_next k t h1]; exact h2
          · intro h; have h1 := wyA_lv h; exact ⟨h1, by rw [wyA_next k t h1]; exact h⟩)
        have HVAL5 : Hid (∀ t, t ∈ L' → f' t = ((sat capN (wyA a b al s (k + 1) t) : Nat) : Int)) := Lib.hid (fun t ht => by
          have h1 := ((hI5.mem t).1 ht).1
          rw [hI5.val t h1, wyA_next k t h1])
        have HLY5 : Hid (∀ i, i ≤ k + 1 → w.heap.size < (if i ≤ k then G i else B') ∧ LyM w5 a b al s i (if i ≤ k then G i else B')) := Lib.hid (fun i hi => by
          by_cases e : i ≤ k
          · rw [if_pos e]
            exact ⟨(HST.out.ly i e).1, (HLY.out i e).kept (grown_none HB5.out) (by simp)⟩
          · rw [if_neg e]
            obtain rfl : i = k + 1 := by omega
            exact ⟨by omega, L', f', HM5.out, HMEM5.out, HVAL5.out⟩)
        have HROW5 : Hid (w5.ownsRow (w.heap.size + 1) 81 1 v' (k + 1) (mapVs (fun i => if i ≤ k then G i else B') (k + 1))) := Lib.hid (by
          rw [← mapVs_congr (G := G) (fun i hi => by rw [if_pos (by omega)]), mapVs_succ]
          exact own_keeps HROW.out HB5.out)
        have HGR5 := Lib.hid (HGR4.out.andThen (grown_none HB5.out) (fun j hj => by cases hj))
        have HSH5 := Lib.hid (HSH4.out.call HB5.out)
        have HLV6 := Lib.hid (HLV4.out.call HB5.out)
        have HBX5 := Lib.hid (HBOX.out.call HB5.out)
        clear hM5 hI5 hb5 hB' m0 m1 m2 HLY HROW HM4
        by_cases hl : L' = []
        · subst hl
          go_wp2_with (at_len; refine wpList_len_S rfl _ _ _ rfl Try.underlying81 HM5.out rfl ?_)
          simp only [Exit.jump]
          go_ret
          have hz : ∀ x, wyA a b al s (k + 1) x = 0 := fun x => by
            rcases Nat.eq_zero_or_pos (wyA a b al s (k + 1) x) with e | e
            · exact e
            · have := (HMEM5.out x).2 e; cases this
          exact ⟨v', k + 1, _, rfl, by omega, by omega, HROW5.out, fun i hi => HLY5.out i (by omega), by rw [Nat.add_sub_cancel]; exact ST0.out.ne, fun i x hi => by
            obtain ⟨d, rfl⟩ : ∃ d, i = k + 1 + d := ⟨i - (k + 1), by omega⟩
            exact wyA_end HA.out HS.out hz d x, HLV6.out, HGR5.out, HSH5.out⟩
        · have hpos : 0 < L'.length := List.length_pos_iff.2 hl
          have HNE : Hid (∃ x, 0 < wyA a b al s (k + 1) x) := Lib.hid (by
            obtain ⟨x, hx⟩ := List.exists_mem_of_length_pos hpos
            exact ⟨x, (HMEM5.out x).1 hx⟩)
          clear hl
          have hlen : lenO v = k := row_len HST.out.row
          have hlen' : lenO v' = k + 1 := row_len HROW5.out
          have HLEN := Lib.hid (And.intro hlen hlen')
          clear hlen hlen'
          go_wp2_with (at_len; refine wpList_len_S rfl _ _ _ rfl Try.underlying81 HM5.out rfl ?_)
          go_step3
          refine ⟨rfl, ⟨k + 1, v', fun i => if i ≤ k then G i else B', _, _, _, _, _, _, _, _, _, _, _, _, _, _, _, _, _, _, _, _, _, _, rfl, if_neg (by omega), ⟨HROW5.out, HLY5.out, HNE.out, HBX5.out, HGR5.out, HSH5.out⟩, HLV6.out⟩, ?_⟩
          show 1001 - lenO v' < 1001 - lenO v
          rw [HLEN.out.1, HLEN.out.2]
          omega
      · intro x w3 hxL hxD hrg3 hlt3 hgr3 hsz3 hen3
        have HXS := Lib.hid (askB_size (wyA_ask HA.out HS.out ((HMEM.out x).1 hxL)))
        have HXL := Lib.hid hxL
        have ST3 := Lib.hid (HST.out.kept hgr3 (fun e => by injection e with e; omega) (fun i hi e => by injection e with e; have := HLTS.out i hi; rw [HR.out] at this; omega)
          (.inr fun e => by have := (HVB.out r e).2; rw [HR.out] at this; omega) (fun j hj => .inl (by injection hj with hj; omega)) (HST.out.shr.kept hgr3 (fun e => by injection e with e; omega)))
        have HLV3 := Lib.hid (HLV.out.kept hgr3 (fun e => by injection e with e; omega))
        have HRG3 := Lib.hid hrg3
        have HLT3 := Lib.hid hlt3
        have m2 : w3.cell? ⟨w.heap.size, 2, none⟩ = some (.map (some Bv)) := ST3.out.box.cell (show 2 < 3 by omega)
        obtain ⟨Lv, hLv, hmv⟩ := HLV3.out
        have HMV := Lib.hid hmv
        have HLV4 := Lib.hid hLv
        clear hxL hxD hrg3 hlt3 hgr3 hsz3 hmv hLv
        generalize f x = fx at hen3 ⊢
        go_wp2_with (at_delete; refine wpList_drop_S rfl _ _ _ _ rfl Try.underlying70 HLV4.out x HXS.out rfl rfl ?_; intro w4 hL4 hg4 hs4)
        have HRG4 := Lib.hid (HRG3.out.kept hg4 (fun e => by injection e with e; omega) (fun e => by injection e with e; omega))
        have ST4 := Lib.hid (ST3.out.kept hg4 (fun e => by injection e with e; omega) (fun i hi e => by injection e with e; have := (ST3.out.ly i hi).1; omega)
          (.inr fun e => by have := (ST3.out.row.lt Bv e).1; omega) (fun j hj => .inr hj) (ST3.out.shr.trans hs4))
        have HLV5 := Lib.hid (show LiveM w4 Bv (fun t => lvK a b al s k t && !hsS (x :: Ds) t) from ⟨_, hL4, fun t => by
          rw [mem_offS, HMV.out]
          show _ ↔ (lvK a b al s k t && !hsS (x :: Ds) t) = true
          rw [hsS_cons]
          by_cases e : x = t
          · subst e; simp
          · have e' : t ≠ x := fun h => e h.symm
            simp [e, e']⟩)
        clear hL4 hg4 hs4 hen3
        go_roundw
        case rel => exact ⟨x :: Ds, HRG4.out.1, fun t ht => by
          rcases List.mem_cons.1 ht with rfl | ht
          · exact HXL.out
          · exact HSUB.out t ht, HLV5.out, ST4.out⟩
        case measure => rw [HRG4.out.2]; exact HLT3.out
  · intro hpass
    go_wp2_with (refine wpList_store_S rfl _ _ _ _ _ (.inr rfl) Try.underlying81 (by have := M0.out; rw [World.size_alloc] at this; exact this) s HSZ.out (by simp) rfl rfl _ rfl _ (rdI_mk (by decide)) ?_; intro w1 hM1 hg1)
    go_step3
    have hliv : LiveM w1 Bv (lvK a b al s 0) := ((HL.out.call X0.out).kept hg1 (fun e => by injection e with e; omega)).congr (fun t => (lvK_zero t).symm)
    have ST0 := Lib.hid (show LySt w w1 a b al s Bv 0 (.slice none 0 0) (fun _ => w.heap.size + 1) from
      ⟨World.ownsRow_nil _ _ _ _, fun i hi => ⟨by omega, by
        obtain rfl : i = 0 := by omega
        refine ⟨_, fun t => if t = s then 1 else 0, hM1.congr (fun t _ => by unfold ltI; by_cases e : t = s <;> simp only [e, if_true, if_false]), fun t => ?_, fun t ht => ?_⟩
        · rw [mem_addS]
          unfold wyA
          rw [wy_zero]
          by_cases e : t = s <;> simp [e]
        · rw [mem_addS] at ht
          unfold wyA
          rw [wy_zero]
          have e : t = s := ht.resolve_left (by simp)
          rw [if_pos e]
          show (if t = s then (1 : Int) else 0) = _
          rw [if_pos e]
          rfl⟩, ⟨s, by unfold wyA; rw [wy_zero, if_pos rfl]; omega⟩, C0.out.grownM hg1 (fun e => by injection e with e; omega),
        ((grown_none X0.out).andThen hg1 (fun j hj => .inl (by injection hj with hj; omega))).but _, ((Shr.refl (HL.out.choose_spec.1)).call X0.out).kept hg1 (fun e => by injection e with e; omega)⟩)
    clear C0 X0 M0 hM1 hg1 hmm
    rename_i hK
    exact hK _ _ (hpass _ _ ⟨0, .slice none 0 0, fun _ => w.heap.size + 1, _, _, _, _, _, _, _, _, _, _, _, _, _, _, _, _, _, _, _, _, _, _, rfl, rfl, ST0.out, hliv⟩)

end Go.Proofs.Ytilnjlcljjpnmaa
