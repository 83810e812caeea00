/- A list of pins among the arguments: opened, its size told, copied and compared by the law. For at most 1048576 numbers in all. -/
import Derived.Test.YtaajklkldfgppaaVo
import Derived.Deep.Slices
namespace Go.Proofs.Ytaajklkldfgppaa
open Go.ChangeShapes Go.WideShapes Go.ChangeAt Go.RowKit Go.Joins Go.Deep

section
variable {H : Type} {enc : TypeId × Value → H} {P : Program} {w : World} {base : Nat} {spare : Nat → Bool} {held : Bool}

theorem open_slice_fields {t e : TypeId} {fs : Array Field} {fuel : Nat} {cs : List Value} {x : DataW H × List MemPlace} (ht : P.underlying t = some (.slice e)) (he : P.underlying e = some (.struct fs))
    (hone : oneCellFields P fs = true) (hC : P.cellsOf e = fs.size) (h : DataW.trod enc P w base spare held fuel t cs = some x) :
    (cs = [.slice none 0 0] ∧ x = (.nil, [])) ∨
    ∃ (a : Addr) (len cap m : Nat) (D : Nat → DataW H) (Pl : Nat → List MemPlace), cs = [.slice (some a) len cap] ∧ base ≤ a.block ∧ len ≤ cap ∧ cap ≤ maxLen ∧ m = (if spare a.block then cap else len) ∧
      x = (.slice ((List.range len).map D) ((List.range (m - len)).map fun j => D (len + j)), MemPlace.row a (m * fs.size) ++ (List.range m).flatMap Pl) ∧
      ∀ i, i < m → ∃ (ys : List (DataW H × List MemPlace)) (n : Nat), D i = .agg (ys.map (·.1)) ∧ Pl i = ys.flatMap (·.2) ∧ ys.length = fs.size ∧
        ∀ (j : Nat) (f : Field), fs[j]? = some f → ∃ (v : Value) (y : DataW H × List MemPlace), w.cell? (a.add (i * fs.size + j)) = some v ∧ ys[j]? = some y ∧ DataW.trod enc P w base spare held n f.type [v] = some y := by
  rcases open_slice ht h with h0 | ⟨a, len, cap, m, n, D, Pl, hcs, hb, hl, hm, hmm, hx, hi⟩
  · exact .inl h0
  · refine .inr ⟨a, len, cap, m, D, Pl, hcs, hb, hl, hm, hmm, by rw [hC] at hx; exact hx, fun i him => ?_⟩
    obtain ⟨cs', hc, ht'⟩ := hi i him
    rw [hC] at hc
    obtain ⟨ys, n', hn', hy, hlen, hyl, hf⟩ := DataW.trod_struct he ht'
    obtain ⟨_, hcl, hat⟩ := World.cells?_some hc
    simp only [Prod.mk.injEq] at hy
    refine ⟨ys, n', hy.1, hy.2, hyl, fun j f hj => ?_⟩
    obtain ⟨ho, hk⟩ := hone_of hone j f hj
    have hjl : j < fs.size := (Array.getElem?_eq_some_iff.1 hj).1
    have hcell := hat j hjl
    have hv : cs'[j]? = some (cs'[j]'(by omega)) := List.getElem?_eq_getElem (by omega)
    have h1 := hf j f hj
    rw [ho, hk] at h1
    have hone' : (cs'.drop j).take 1 = [cs'[j]'(by omega)] := by
      rw [List.drop_eq_getElem_cons (by omega)]
      rfl
    rw [hone'] at h1
    have hys : ys[j]? = some (ys[j]'(by omega)) := List.getElem?_eq_getElem (by omega)
    refine ⟨_, _, ?_, hys, h1.trans hys⟩
    rw [← Go.Deep.add_add, hcell, hv]
end

theorem run_make_rowN {P : Program} (t e : TypeId) (i : TypeInfo) (z : Value) (ht : P.underlying t = some (.slice e)) (hi : P.info? e = some i) (hz : i.zero = some z)
    (kl kc : IntKind) (n c : Nat) (hnc : n ≤ c) (hbytes : i.bytes * c ≤ 281474976710656) (h63 : c ≤ 9223372036854775807) (w : World) :
    (Instr.makeSlice t (.int kl (n : Int)) (.int kc (c : Int))).run P w = .ok (.slice (some ⟨w.heap.size, 0, none⟩) n c) (w.alloc (.cells (madeCells z.cells (c * i.size)) e)) := by
  have hb : (i.bytes : Int) * (c : Int) ≤ 281474976710656 := by
    have h : ((i.bytes * c : Nat) : Int) ≤ 281474976710656 := by omega
    rwa [Int.natCast_mul] at h
  have hr := run_make (P := P) w t e i z ht hi hz kl kc n c (by omega) (by omega) hb (by omega)
  simp only [Int.toNat_natCast] at hr
  exact hr

/-- Pins as cells: two for each. -/
def pnF (ps : List Pn) (Gp : Nat → Nat) (j : Nat) : Value :=
  if j % 2 = 0 then .int .i64 (ps.getD (j / 2) pn0).1 else .slice (some ⟨Gp (j / 2), 0, none⟩) (ps.getD (j / 2) pn0).2.length (ps.getD (j / 2) pn0).2.length

theorem pnF_0 (ps : List Pn) (Gp : Nat → Nat) (k : Nat) : pnF ps Gp (k * 2) = .int .i64 (ps.getD k pn0).1 := by
  unfold pnF
  rw [if_pos (by omega), show k * 2 / 2 = k by omega]

theorem pnF_1 (ps : List Pn) (Gp : Nat → Nat) (k : Nat) : pnF ps Gp (k * 2 + 1) = .slice (some ⟨Gp k, 0, none⟩) (ps.getD k pn0).2.length (ps.getD k pn0).2.length := by
  unfold pnF
  rw [if_neg (by omega), show (k * 2 + 1) / 2 = k by omega]

def pzF (j : Nat) : Value := if j % 2 = 0 then .int .i64 0 else .slice none 0 0

/-- A list of pins of the call's own: all its lists lie in blocks of their own, that rise. -/
structure PinsT (w : World) (g n : Nat) (ps : List Pn) (Gp : Nat → Nat) (GG : Nat → Nat → Nat) : Prop where
  len : ps.length = n
  top : Cells w g (n * 2) (pnF ps Gp)
  row : ∀ k, k < n → g < Gp k ∧ GridT w (Gp k) (ps.getD k pn0).2.length (ps.getD k pn0).2 (GG k)
  up : ∀ i k, i < k → k < n → Gp i < Gp k ∧ ∀ x, x < (ps.getD i pn0).2.length → GG i x < Gp k

theorem PinsT.call {w w' : World} {g n : Nat} {ps : List Pn} {Gp : Nat → Nat} {GG : Nat → Nat → Nat} (h : PinsT w g n ps Gp GG) (hb : Below w.heap.size w w') : PinsT w' g n ps Gp GG :=
  ⟨h.len, h.top.call hb, fun k hk => ⟨(h.row k hk).1, (h.row k hk).2.call hb⟩, h.up⟩

theorem PinsT.arg {w : World} {g n : Nat} {ps : List Pn} {Gp : Nat → Nat} {GG : Nat → Nat → Nat} (h : PinsT w g n ps Gp GG) (hF : Few ps) : ArgP w (some ⟨g, 0, none⟩) n ps :=
  ⟨h.len, .inr ⟨g, 0, rfl, h.top.lt, fun k hk => ⟨_, _, by rw [Nat.zero_add, ← pnF_0 ps Gp]; exact h.top.cell (by omega), by rw [Nat.zero_add, ← pnF_1 ps Gp]; exact h.top.cell (by omega), by have := hF k (by rw [h.len]; exact hk); unfold maxLen; omega, (h.row k hk).2.knobs rfl (hF k (by rw [h.len]; exact hk))⟩⟩⟩

set_option maxRecDepth 100000 in
theorem open_pinss {H : Type} {enc : TypeId × Value → H} {W : World} {b0 : Nat} {held : Bool} {v : Value} {d : DataW H} {p : List MemPlace}
    (hv : Value.okWide Try.prog W .any b0 33 v) (h : DataW.Trod enc Try.prog W 0 (fun _ => true) held 33 v d p) :
    ∃ (A : Option Addr) (n c : Nat) (ps : List Pn), v = .slice A n c ∧ ArgP W A n ps ∧ n ≤ maxLen := by
  obtain ⟨A, n, c, rfl⟩ := okWide_slice Try.underlying33 hv
  obtain ⟨fuel, hf⟩ := h
  rcases open_slice_fields Try.underlying33 Try.underlying24 (by kernel_rfl) (by kernel_rfl) hf with ⟨hcs, _⟩ | ⟨a, len, cap, m, D, Pl, hcs, _, hl, hm, hmm, _, hi⟩
  · simp [Value.cells] at hcs
    obtain ⟨rfl, rfl, rfl⟩ := hcs
    exact ⟨none, 0, 0, [], rfl, ⟨rfl, .inl rfl⟩, by unfold maxLen; omega⟩
  · simp [Value.cells] at hcs
    obtain ⟨rfl, rfl, rfl⟩ := hcs
    have hm' : m = c := by rw [hmm]; rfl
    have key : ∀ i, ∃ q : Pn, i < n → ∃ Ak ck, W.cell? (a.add (i * 2 + 0)) = some (.int .i64 q.1) ∧ W.cell? (a.add (i * 2 + 1)) = some (.slice Ak q.2.length ck) ∧ q.2.length ≤ maxLen ∧ KnobsA W Ak q.2.length q.2 := fun i => by
      by_cases hin : i < n
      · obtain ⟨ys, k, _, _, _, hfs⟩ := hi i (by omega)
        obtain ⟨v0, y0, hc0, _, ht0⟩ := hfs 0 _ rfl
        obtain ⟨v1, y1, hc1, _, ht1⟩ := hfs 1 _ rfl
        obtain ⟨x, e0, _, hx⟩ := DataW.trod_int Try.underlying3 ht0
        simp at e0
        subst e0
        rcases open_int_rows Try.underlying22 Try.underlying49 Try.underlying3 cellsList cellsInt ht1 with ⟨hc, _⟩ | ⟨ad, n', cap', A', L, C, Z, hc, _, hn, hm2, _, hr⟩
        · simp at hc
          subst hc
          exact ⟨(x, []), fun _ => ⟨none, 0, hc0, hc1, Nat.zero_le _, ⟨rfl, .inl rfl⟩⟩⟩
        · simp at hc
          subst hc
          obtain ⟨ls, hK⟩ : ∃ ls, KnobsA W (some ad) n' ls := ⟨_, knobsA_of hn hr⟩
          refine ⟨(x, ls), fun _ => ⟨some ad, cap', hc0, ?_, ?_, ?_⟩⟩
          · rw [hK.len]; exact hc1
          · rw [hK.len]; omega
          · rw [hK.len]; exact hK
      · exact ⟨pn0, fun h => absurd h hin⟩
    obtain ⟨f, hf'⟩ := Classical.skolem.1 key
    have e : ∀ k, k < n → ((List.range n).map f).getD k pn0 = f k := fun k hk => by simp [List.getD, hk]
    refine ⟨some a, n, c, (List.range n).map f, rfl, ⟨by simp, ?_⟩, by omega⟩
    rcases Nat.eq_zero_or_pos n with h0 | h0
    · exact .inl h0
    · obtain ⟨b, off, spot⟩ := a
      obtain ⟨_, _, h1, _⟩ := hf' 0 h0
      have hs : spot = none := by simpa [Addr.add] using World.cell?_spot h1
      subst hs
      have hb := World.block_lt_of_cell? _ _ h1
      refine .inr ⟨b, off, rfl, by simpa [Addr.add] using hb, fun k hk => ?_⟩
      rw [e k hk]
      obtain ⟨Ak, ck, c1, c2, c3, c4⟩ := hf' k hk
      rw [addr_add] at c1 c2
      exact ⟨Ak, ck, c1, c2, c3, c4⟩

/-- How many numbers the first pins hold, themselves counted. -/
def pnS (ps : List Pn) : Nat → Nat
  | 0 => 0
  | k + 1 => pnS ps k + (ps.getD k pn0).2.length + lensAt (ps.getD k pn0).2 (ps.getD k pn0).2.length

theorem pnS_le {ps : List Pn} {i n : Nat} (h : i ≤ n) : pnS ps i ≤ pnS ps n := by
  induction n with
  | zero => obtain rfl : i = 0 := by omega
            exact Nat.le_refl _
  | succ n ih =>
    rcases Nat.lt_or_ge i (n + 1) with h1 | h1
    · rw [pnS]; have := ih (by omega); omega
    · obtain rfl : i = n + 1 := by omega
      exact Nat.le_refl _

theorem few_of {ps : List Pn} {n : Nat} (hn : ps.length = n) (h : n + pnS ps n ≤ 1048576) : Few ps := fun k hk => by
  have h1 := pnS_le (ps := ps) (show k + 1 ≤ n by omega)
  rw [pnS] at h1
  omega

set_option maxHeartbeats 2000000 in
theorem szPinsS_any (A : Option Addr) (n c : Nat) (ps : List Pn) (w : World) (hn : n ≤ maxLen) (hA : ArgP w A n ps) :
    Calls Try.prog 17 #[.slice A n c, .int .i64 1048576] w fun e w' => (∃ r : Int, e = .returned (.int .i64 r) ∧ r ≤ 1048576 ∧ (0 ≤ r → n + pnS ps n ≤ 1048576)) ∧ Below w.heap.size w w' := by
  have HA := Lib.hid hA
  unfold maxLen at hn
  clear hA
  by_cases h : n ≤ 1048576
  · go_enter Try.func17, Try.ntmps17
    go_wp2_with fail
    go_loopw [1, 5] (fun r i wr => ∃ (k : Nat) (z : Int), k ≤ n ∧ i = .int .i64 k ∧ r = .int .i64 z ∧ 0 ≤ z ∧ z = 1048576 - (n : Int) - (pnS ps k : Int) ∧ Below w.heap.size w wr) (fun _ i _ => n - (intOf i).toNat)
    case atStart => exact ⟨0, _, by omega, rfl, rfl, by omega, by simp [pnS], Below.refl _ _⟩
    case round =>
      obtain ⟨k, z, hk, rfl, rfl, hz0, hz, hB⟩ := hrel
      have HB := Lib.hid hB
      have HZ := Lib.hid hz
      have hz1 : z ≤ 1048576 := by omega
      clear hB hz
      by_cases hlt : k < n
      · obtain ⟨b, off, rfl, hb, hc⟩ := (HA.out.below HB.out).at_.resolve_left (by omega)
        obtain ⟨Ak, ck, o0, o1, hl, hK⟩ := hc k hlt
        unfold maxLen at hl
        have HK := Lib.hid hK
        have HS : Hid (pnS ps (k + 1) = pnS ps k + (ps.getD k pn0).2.length + lensAt (ps.getD k pn0).2 (ps.getD k pn0).2.length) := Lib.hid rfl
        generalize ps.getD k pn0 = P at o0 o1 hl HK HS
        clear hc hK
        go_wp2_with (go_at_call 8; refine (szPins_from _ _ _ _ P.2 _ _ (by omega) hz0 hz1 HK.out).mono ?_; rintro e w3 ⟨⟨r, rfl, hr1, hr2⟩, hb3⟩; have HB3 := Lib.hid (bel_call HB.out hb3); have HR2 := Lib.hid hr2; clear hb3 hr2)
        · go_ret
          exact ⟨⟨-1, rfl, by omega, fun h => by omega⟩, HB3.out⟩
        · go_roundw
          case rel => exact ⟨k + 1, r, by omega, by go_num, rfl, by omega, by have h1 := HZ.out; have h2 := HS.out; have h3 := HR2.out (by omega); omega, HB3.out⟩
          case measure => simp [intOf]; omega
      · obtain rfl : k = n := by omega
        go_wp2_with fail
        go_ret
        exact ⟨⟨z, rfl, hz1, fun _ => by have h1 := HZ.out; omega⟩, HB.out⟩
  · go_enter Try.func17, Try.ntmps17
    go_wp2_with fail
    go_ret
    exact ⟨⟨-1, rfl, by omega, fun h => by omega⟩, Below.refl _ _⟩

theorem info_pins : (Try.prog.info? 26).map (fun i => (i.zero, i.size, i.bytes)) = some (some (.agg #[.int .i64 0, .slice none 0 0]), 2, 32) := by kernel_rfl

theorem make_pinss (n : Nat) (hn : n ≤ 1048576) (W : World) : (Instr.makeSlice 37 (.int .i64 (n : Int)) (.int .i64 (n : Int))).run Try.prog W = .ok (.slice (some ⟨W.heap.size, 0, none⟩) n n) (W.alloc (.cells (madeCells #[.int .i64 0, .slice none 0 0] (n * 2)) 26)) := by
  obtain ⟨i0, hi, hz0, hz1, hz2⟩ := info_parts info_pins
  have := run_make_rowN (P := Try.prog) 37 26 i0 _ Try.underlying37 hi hz0 .i64 .i64 n n (Nat.le_refl _) (by rw [hz2]; omega) (by omega) W
  rw [hz1] at this
  exact this

theorem made_pinss (w : World) (n : Nat) : Cells (w.alloc (.cells (madeCells #[.int .i64 0, .slice none 0 0] (n * 2)) 26)) w.heap.size (n * 2) pzF :=
  ⟨by simp, fun j hj => by
    rw [World.cell?_alloc_new, World.frozen?_alloc_new]
    refine ⟨?_, rfl⟩
    have h1 : j < (madeCells #[Value.int .i64 0, .slice none 0 0] (n * 2)).size := by rw [size_madeCells]; exact hj
    rw [Array.getElem?_eq_getElem h1]
    have h2 : j % 2 = 0 ∨ j % 2 = 1 := by omega
    rcases h2 with h2 | h2 <;> simp [madeCells, pzF, h2]⟩

set_option maxHeartbeats 2000000 in
theorem toPinsS_any (A : Option Addr) (n c : Nat) (ps : List Pn) (w : World) (hn : n ≤ 1048576) (hA : ArgP w A n ps) (hF : Few ps) :
    Calls Try.prog 19 #[.slice A n c] w fun e w' => e = .returned (.slice (some ⟨w.heap.size, 0, none⟩) n n) ∧ (∃ Gp GG, PinsT w' w.heap.size n ps Gp GG) ∧ Below w.heap.size w w' := by
  have hmk := make_pinss n hn
  have HM := Lib.hid (made_pinss w n)
  have HA := Lib.hid hA
  have HN := Lib.hid hA.len
  have HF := Lib.hid hF
  clear hA hF
  go_enter Try.func19, Try.ntmps19
  go_wp2_with fail
  clear hmk
  go_loopw [4] (fun i wr => ∃ (k : Nat) (Gp : Nat → Nat) (GG : Nat → Nat → Nat), k ≤ n ∧ i = .int .i64 k ∧ Cells wr w.heap.size (n * 2) (fun j => if j < k * 2 then pnF ps Gp j else pzF j) ∧ (∀ j, j < k → w.heap.size < Gp j ∧ GridT wr (Gp j) (ps.getD j pn0).2.length (ps.getD j pn0).2 (GG j)) ∧ (∀ i j, i < j → j < k → Gp i < Gp j ∧ ∀ x, x < (ps.getD i pn0).2.length → GG i x < Gp j) ∧ Below w.heap.size w wr) (fun i _ => n - (intOf i).toNat)
  case atStart => exact ⟨0, fun _ => 0, fun _ _ => 0, by omega, rfl, HM.out.congr (fun j _ => by simp), fun j hj => by omega, fun i j _ hj => by omega, by (repeat (first | assumption | exact Below.refl _ _ | (refine Below.alloc ?_ (by first | omega | (simp; done) | (simp; omega)) _) | (refine Below.setCell ?_ (by first | omega | (simp; done) | (simp; omega)) _) | refine bel_drewN ?_ _ | refine bel_drew ?_ | (refine bel_call ?_ (by assumption))))⟩
  case round =>
    obtain ⟨k, Gp, GG, hk, rfl, hC, hR, hU, hB⟩ := hrel
    have HC := Lib.hid hC
    have HR := Lib.hid hR
    have HU := Lib.hid hU
    have HB := Lib.hid hB
    have hlt0 := hC.lt
    clear hC hR hU hB
    by_cases hlt : k < n
    · obtain ⟨b, off, rfl, hb, hc⟩ := (HA.out.below HB.out).at_.resolve_left (by omega)
      obtain ⟨Ak, ck, o0, o1, hl, hK⟩ := hc k hlt
      unfold maxLen at hl
      have HK := Lib.hid hK
      have HFK := Lib.hid (HF.out k (by rw [HN.out]; exact hlt))
      clear hc hK
      obtain ⟨P, hP⟩ : ∃ P, ps.getD k pn0 = P := ⟨_, rfl⟩
      have HP := Lib.hid hP
      rw [hP] at o0 o1 hl HK HFK
      clear hP
      go_wp2_with (first
        | (go_at_call 10; refine (toPins_any _ _ _ _ P.2 _ HFK.out HK.out).mono ?_; rintro e w3 ⟨g3, rfl, hg3, ⟨G3, hG3⟩, hb3⟩
           have HC3 := Lib.hid (HC.out.call hb3)
           have HB3 := Lib.hid (bel_call HB.out hb3)
           have HG3 := Lib.hid hG3
           have HBB := Lib.hid hb3
           have p1 := HC3.out.cell (show k * 2 < n * 2 by omega)
           have p2 := HC3.out.frozen (show k * 2 < n * 2 by omega)
           have p3 := HC3.out.cell (show k * 2 + 1 < n * 2 by omega)
           have p4 := HC3.out.frozen (show k * 2 + 1 < n * 2 by omega)
           clear hb3 hG3))
      have HCN := Lib.hid (((HC3.out.set_ (show k * 2 < n * 2 by omega) (.int .i64 P.1)).set_ (show k * 2 + 1 < n * 2 by omega) (.slice (some ⟨g3, 0, none⟩) P.2.length P.2.length)).congr (f' := fun j => if j < (k + 1) * 2 then pnF ps (fun i => if i = k then g3 else Gp i) j else pzF j) (fun j hj => by
        by_cases e1 : j = k * 2 + 1
        · subst e1; rw [if_pos rfl, if_pos (by omega), pnF_1, if_pos rfl, HP.out]
        · rw [if_neg e1]
          by_cases e0 : j = k * 2
          · subst e0; rw [if_pos rfl, if_pos (by omega), pnF_0, HP.out]
          · rw [if_neg e0]
            by_cases e3 : j < k * 2
            · rw [if_pos e3, if_pos (by omega)]
              unfold pnF
              dsimp only
              rw [if_neg (show ¬ j / 2 = k by omega)]
            · rw [if_neg e3, if_neg (by omega)]))
      have HRN : Hid (∀ j, j < k + 1 → w.heap.size < (if j = k then g3 else Gp j) ∧ GridT ((w3.setCell ⟨w.heap.size, k * 2, none⟩ (.int .i64 P.1)).setCell ⟨w.heap.size, k * 2 + 1, none⟩ (.slice (some ⟨g3, 0, none⟩) P.2.length P.2.length)) (if j = k then g3 else Gp j) (ps.getD j pn0).2.length (ps.getD j pn0).2 (if j = k then G3 else GG j)) := Lib.hid (fun j hj => by
        by_cases e : j = k
        · subst e
          rw [if_pos rfl, if_pos rfl, HP.out]
          exact ⟨by omega, (HG3.out.under (by show w.heap.size < g3; omega) _).under (by show w.heap.size < g3; omega) _⟩
        · rw [if_neg e, if_neg e]
          obtain ⟨h1, h2⟩ := HR.out j (by omega)
          exact ⟨h1, ((h2.call HBB.out).under (by show w.heap.size < Gp j; omega) _).under (by show w.heap.size < Gp j; omega) _⟩)
      have HUN : Hid (∀ i j, i < j → j < k + 1 → (if i = k then g3 else Gp i) < (if j = k then g3 else Gp j) ∧ ∀ x, x < (ps.getD i pn0).2.length → (if i = k then G3 else GG i) x < (if j = k then g3 else Gp j)) := Lib.hid (fun i j hij hj => by
        by_cases e : j = k
        · subst e
          rw [if_pos rfl, if_neg (by omega), if_neg (by omega)]
          obtain ⟨h1, h2⟩ := HR.out i (by omega)
          exact ⟨Nat.lt_of_lt_of_le h2.top.lt hg3, fun x hx => Nat.lt_of_lt_of_le (h2.row x hx).2.lt hg3⟩
        · rw [if_neg e, if_neg (by omega), if_neg (by omega)]
          exact HU.out i j hij (by omega))
      go_roundw
      case rel => exact ⟨k + 1, fun i => if i = k then g3 else Gp i, fun i => if i = k then G3 else GG i, by omega, by go_num, HCN.out, HRN.out, HUN.out, (HB3.out.setCell (Nat.le_refl _) _).setCell (Nat.le_refl _) _⟩
      case measure => simp [intOf]; omega
    · obtain rfl : k = n := by omega
      go_wp2_with fail
      go_ret
      exact ⟨rfl, ⟨Gp, GG, HN.out, HC.out.congr (fun j hj => by rw [if_pos (by omega)]), HR.out, HU.out⟩, HB.out⟩

set_option maxHeartbeats 2000000 in
theorem eqPinsS_same (A1 A2 : Option Addr) (n c1 c2 : Nat) (ps : List Pn) (w : World) (hm : n ≤ 1048576) (hF : Few ps) (h1 : ArgP w A1 n ps) (h2 : ArgP w A2 n ps) :
    Calls Try.prog 21 #[.slice A1 n c1, .slice A2 n c2] w fun e w' => e = .returned (.bool true) ∧ Below w.heap.size w w' := by
  have H1 := Lib.hid h1
  have H2 := Lib.hid h2
  have HN := Lib.hid h1.len
  have HF := Lib.hid hF
  clear h1 h2 hF
  go_enter Try.func21, Try.ntmps21
  go_wp2_with fail
  go_loopw [5] (fun i wr => ∃ k : Nat, k ≤ n ∧ i = .int .i64 k ∧ Below w.heap.size w wr) (fun i _ => n - (intOf i).toNat)
  case atStart => exact ⟨0, by omega, rfl, Below.refl _ _⟩
  case round =>
    obtain ⟨k, hk, rfl, hB⟩ := hrel
    have HB := Lib.hid hB
    clear hB
    by_cases hlt : k < n
    · obtain ⟨b1, off1, e1, hb1, hc1⟩ := (H1.out.below HB.out).at_.resolve_left (by omega)
      obtain ⟨b2, off2, e2, hb2, hc2⟩ := (H2.out.below HB.out).at_.resolve_left (by omega)
      subst e1 e2
      obtain ⟨Ak1, ck1, p0, p1, hl, hK1⟩ := hc1 k hlt
      obtain ⟨Ak2, ck2, q0, q1, _, hK2⟩ := hc2 k hlt
      unfold maxLen at hl
      have HK1 := Lib.hid hK1
      have HK2 := Lib.hid hK2
      have HFK := Lib.hid (HF.out k (by rw [HN.out]; exact hlt))
      clear hc1 hc2 hK1 hK2
      generalize ps.getD k pn0 = P at p0 p1 q0 q1 hl HK1 HK2 HFK
      go_wp2_with fail
      go_region_with (go_at_call 12; refine (eqPins_any _ _ _ _ _ _ P.2 _ HFK.out (HK1.out.below (bel_drew (Below.refl _ _))) (HK2.out.below (bel_drew (Below.refl _ _)))).mono ?_; rintro e w3 ⟨rfl, hb3⟩)
      all_goals
        have HW := Lib.hid (below_undrew hb3)
        clear hb3
        go_wp2_with fail
        go_roundw
        case rel => exact ⟨k + 1, by omega, by go_num, bel_call HB.out HW.out⟩
        case measure => simp [intOf]; omega
    · go_wp2_with fail
      go_ret
      exact ⟨rfl, HB.out⟩

end Go.Proofs.Ytaajklkldfgppaa
