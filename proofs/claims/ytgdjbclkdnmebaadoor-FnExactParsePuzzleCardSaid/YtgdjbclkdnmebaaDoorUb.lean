/- A clue and a puzzle among the arguments: opened, the size told, copied, compared, marked and looked at again by the law. For at most 1048576 clues. -/
import Derived.Test.YtgdjbclkdnmebaaDoorUa
import Derived.Test.YtgdjbclkdnmebaaDoorOpenGears
import Derived.Test.YtgdjbclkdnmebaaDoorGears2
import Derived.Deep.Strs
namespace Go.Proofs.YtgdjbclkdnmebaaDoor
open Go.ChangeShapes Go.WideShapes Go.ChangeAt Go.RowKit Go.Joins Go.Deep

/-- Clues as cells: three for each. -/
def cluF (cs : List Clu) (j : Nat) : Value :=
  if j % 3 = 0 then .int .i64 (cs.getD (j / 3) cu0).1 else if j % 3 = 1 then .int .i64 (cs.getD (j / 3) cu0).2.1 else .int .i64 (cs.getD (j / 3) cu0).2.2

theorem cluF_0 (cs : List Clu) (k : Nat) : cluF cs (k * 3) = .int .i64 (cs.getD k cu0).1 := by
  unfold cluF
  rw [if_pos (by omega), show k * 3 / 3 = k by omega]

theorem cluF_1 (cs : List Clu) (k : Nat) : cluF cs (k * 3 + 1) = .int .i64 (cs.getD k cu0).2.1 := by
  unfold cluF
  rw [if_neg (by omega), if_pos (by omega), show (k * 3 + 1) / 3 = k by omega]

theorem cluF_2 (cs : List Clu) (k : Nat) : cluF cs (k * 3 + 2) = .int .i64 (cs.getD k cu0).2.2 := by
  unfold cluF
  rw [if_neg (by omega), if_neg (by omega), show (k * 3 + 2) / 3 = k by omega]

/-- A list of clues that came in. -/
structure ArgC (w : World) (A : Option Addr) (n : Nat) (cs : List Clu) : Prop where
  len : cs.length = n
  at_ : n = 0 ∨ ∃ b off, A = some ⟨b, off, none⟩ ∧ b < w.heap.size ∧ ∀ k, k < n → w.cell? ⟨b, off + k * 3, none⟩ = some (.int .i64 (cs.getD k cu0).1) ∧ w.cell? ⟨b, off + k * 3 + 1, none⟩ = some (.int .i64 (cs.getD k cu0).2.1) ∧ w.cell? ⟨b, off + k * 3 + 2, none⟩ = some (.int .i64 (cs.getD k cu0).2.2)

theorem ArgC.below {w w' : World} {A : Option Addr} {n : Nat} {cs : List Clu} (h : ArgC w A n cs) (hb : Below w.heap.size w w') : ArgC w' A n cs :=
  ⟨h.len, h.at_.imp id fun ⟨b, off, e, hb', hc⟩ => ⟨b, off, e, Nat.lt_of_lt_of_le hb' hb.size, fun k hk => ⟨by rw [hb.cell (p := ⟨b, off + k * 3, none⟩) hb']; exact (hc k hk).1, by rw [hb.cell (p := ⟨b, off + k * 3 + 1, none⟩) hb']; exact (hc k hk).2.1, by rw [hb.cell (p := ⟨b, off + k * 3 + 2, none⟩) hb']; exact (hc k hk).2.2⟩⟩⟩

theorem argC_of {w : World} {g n : Nat} {cs : List Clu} (h : cs.length = n) (hC : Cells w g (n * 3) (cluF cs)) : ArgC w (some ⟨g, 0, none⟩) n cs :=
  ⟨h, .inr ⟨g, 0, rfl, hC.lt, fun k hk => ⟨by rw [Nat.zero_add, ← cluF_0]; exact hC.cell (by omega), by rw [Nat.zero_add, ← cluF_1]; exact hC.cell (by omega), by rw [Nat.zero_add, ← cluF_2]; exact hC.cell (by omega)⟩⟩⟩

theorem cellsLawPuzzle : Tryd.prog.cellsOf 40 = 3 := by kernel_rfl

theorem cellsClues : Tryd.prog.cellsOf 38 = 1 := by kernel_rfl

theorem cellsLawClue : Tryd.prog.cellsOf 106 = 3 := by kernel_rfl

set_option maxRecDepth 100000 in
theorem open_clue {H : Type} {enc : TypeId × Value → H} {W : World} {b0 : Nat} {held : Bool} {v : Value} {d : DataW H} {p : List MemPlace}
    (hv : Value.okWide Tryd.prog W .any b0 106 v) (h : DataW.Trod enc Tryd.prog W 0 (fun _ => true) held 106 v d p) :
    ∃ (x y z : Int), v = .agg #[.int .i64 x, .int .i64 y, .int .i64 z] ∧ (Lit.int .i64 x).wf = true ∧ (Lit.int .i64 y).wf = true ∧ (Lit.int .i64 z).wf = true := by
  obtain ⟨cs, rfl, hsz⟩ := okWide_struct Tryd.underlying106 hv
  obtain ⟨c0, c1, c2, rfl⟩ := array3 (hsz.trans cellsLawClue)
  obtain ⟨fuel, hf⟩ := h
  obtain ⟨xs, m, _, hx, hcl, hxl, hfs⟩ := DataW.trod_struct Tryd.underlying106 hf
  obtain ⟨x0, x1, x2, rfl⟩ : ∃ x0 x1 x2, xs = [x0, x1, x2] := by
    match xs, hxl with
    | [x0, x1, x2], _ => exact ⟨x0, x1, x2, rfl⟩
  have e0 : DataW.trod enc Tryd.prog W 0 (fun _ => true) held m 3 [c0] = some x0 := by simpa [cellsInt, Value.cells] using hfs 0 _ rfl
  have e1 : DataW.trod enc Tryd.prog W 0 (fun _ => true) held m 3 [c1] = some x1 := by simpa [cellsInt, Value.cells] using hfs 1 _ rfl
  have e2 : DataW.trod enc Tryd.prog W 0 (fun _ => true) held m 3 [c2] = some x2 := by simpa [cellsInt, Value.cells] using hfs 2 _ rfl
  obtain ⟨a, ea, _, wa⟩ := DataW.trod_int Tryd.underlying3 e0
  obtain ⟨b, eb, _, wb⟩ := DataW.trod_int Tryd.underlying3 e1
  obtain ⟨c, ec, _, wc⟩ := DataW.trod_int Tryd.underlying3 e2
  simp at ea eb ec
  subst ea eb ec
  exact ⟨a, b, c, rfl, wa, wb, wc⟩

set_option maxRecDepth 100000 in
theorem open_puzzle {H : Type} {enc : TypeId × Value → H} {W : World} {b0 : Nat} {held : Bool} {v : Value} {d : DataW H} {p : List MemPlace}
    (hv : Value.okWide Tryd.prog W .any b0 40 v) (h : DataW.Trod enc Tryd.prog W 0 (fun _ => true) held 40 v d p) :
    ∃ (a b : Int) (A : Option Addr) (n c : Nat) (cs : List Clu), v = .agg #[.int .i64 a, .int .i64 b, .slice A n c] ∧ (Lit.int .i64 a).wf = true ∧ (Lit.int .i64 b).wf = true ∧ ArgC W A n cs ∧ n ≤ maxLen := by
  obtain ⟨cs, rfl, hsz⟩ := okWide_struct Tryd.underlying40 hv
  obtain ⟨c0, c1, c2, rfl⟩ := array3 (hsz.trans cellsLawPuzzle)
  obtain ⟨fuel, hf⟩ := h
  obtain ⟨xs, m, _, hx, hcl, hxl, hfs⟩ := DataW.trod_struct Tryd.underlying40 hf
  obtain ⟨x0, x1, rfl⟩ : ∃ x0 x1, xs = [x0, x1] := by
    match xs, hxl with
    | [x0, x1], _ => exact ⟨x0, x1, rfl⟩
  have e0 : DataW.trod enc Tryd.prog W 0 (fun _ => true) held m 37 [c0, c1] = some x0 := by simpa [Tryd.cellsLawLock, Value.cells] using hfs 0 _ rfl
  have e1 : DataW.trod enc Tryd.prog W 0 (fun _ => true) held m 38 [c2] = some x1 := by simpa [cellsClues, Value.cells] using hfs 1 _ rfl
  obtain ⟨y0, y1, k, _, _, f0, f1⟩ := trod_struct2 Tryd.underlying37 e0
  have f0' : DataW.trod enc Tryd.prog W 0 (fun _ => true) held k 3 [c0] = some y0 := by simpa [cellsInt] using f0
  have f1' : DataW.trod enc Tryd.prog W 0 (fun _ => true) held k 3 [c1] = some y1 := by simpa [cellsInt] using f1
  obtain ⟨a, ea, _, wa⟩ := DataW.trod_int Tryd.underlying3 f0'
  obtain ⟨b, eb, _, wb⟩ := DataW.trod_int Tryd.underlying3 f1'
  simp at ea eb
  subst ea eb
  rcases open_slice_fields Tryd.underlying38 Tryd.underlying106 (by kernel_rfl) (by kernel_rfl) e1 with ⟨hc, _⟩ | ⟨ad, n, cap, m2, D, Pl, hc, _, hl, hm, hmm, _, hi⟩
  · simp at hc
    subst hc
    exact ⟨a, b, none, 0, 0, [], rfl, wa, wb, ⟨rfl, .inl rfl⟩, by unfold maxLen; omega⟩
  · simp at hc
    subst hc
    have hm' : m2 = cap := by rw [hmm]; rfl
    have key : ∀ i, ∃ q : Clu, i < n → W.cell? (ad.add (i * 3 + 0)) = some (.int .i64 q.1) ∧ W.cell? (ad.add (i * 3 + 1)) = some (.int .i64 q.2.1) ∧ W.cell? (ad.add (i * 3 + 2)) = some (.int .i64 q.2.2) := fun i => by
      by_cases hin : i < n
      · obtain ⟨ys, k, _, _, _, hfs⟩ := hi i (by omega)
        obtain ⟨v0, y0, hc0, _, ht0⟩ := hfs 0 _ rfl
        obtain ⟨v1, y1, hc1, _, ht1⟩ := hfs 1 _ rfl
        obtain ⟨v2, y2, hc2, _, ht2⟩ := hfs 2 _ rfl
        obtain ⟨x, e0, _, _⟩ := DataW.trod_int Tryd.underlying3 ht0
        obtain ⟨y, e1, _, _⟩ := DataW.trod_int Tryd.underlying3 ht1
        obtain ⟨z, e2, _, _⟩ := DataW.trod_int Tryd.underlying3 ht2
        simp at e0 e1 e2
        subst e0 e1 e2
        exact ⟨(x, y, z), fun _ => ⟨hc0, hc1, hc2⟩⟩
      · exact ⟨cu0, fun h => absurd h hin⟩
    obtain ⟨f, hf'⟩ := Classical.skolem.1 key
    have e : ∀ k, k < n → ((List.range n).map f).getD k cu0 = f k := fun k hk => by simp [List.getD, hk]
    refine ⟨a, b, some ad, n, cap, (List.range n).map f, rfl, wa, wb, ⟨by simp, ?_⟩, by omega⟩
    rcases Nat.eq_zero_or_pos n with h0 | h0
    · exact .inl h0
    · obtain ⟨bk, off, spot⟩ := ad
      have h1 := (hf' 0 h0).1
      have hs : spot = none := by simpa [Addr.add] using World.cell?_spot h1
      subst hs
      have hb := World.block_lt_of_cell? _ _ h1
      refine .inr ⟨bk, off, rfl, by simpa [Addr.add] using hb, fun k hk => ?_⟩
      rw [e k hk]
      have := hf' k hk
      rw [addr_add, addr_add, addr_add] at this
      exact ⟨this.1, this.2.1, this.2.2⟩

theorem szClueS_any (A : Option Addr) (n c : Nat) (w : World) (hn : n ≤ 9223372036854775807) :
    Calls Tryd.prog 41 #[.slice A n c, .int .i64 1048576] w fun e w' => e = .returned (.int .i64 (if (n : Int) ≤ 1048576 then 1048576 - (n : Int) else -1)) ∧ w = w' := by
  by_cases h : (n : Int) ≤ 1048576
  · go_enter Tryd.func41, Tryd.ntmps41
    go_wp2
    go_ret
    exact ⟨ret_int (by first | rfl | rw [if_pos h]), rfl⟩
  · go_enter Tryd.func41, Tryd.ntmps41
    go_wp2
    go_ret
    exact ⟨ret_int (by first | rfl | rw [if_neg h]), rfl⟩

theorem szPuzzle_any (a b : Int) (A : Option Addr) (n c : Nat) (w : World) (hn : n ≤ 9223372036854775807) :
    Calls Tryd.prog 16 #[.agg #[.int .i64 a, .int .i64 b, .slice A n c], .int .i64 1048576] w fun e w' => (∃ r : Int, e = .returned (.int .i64 r) ∧ (0 ≤ r → n ≤ 1048576)) ∧ Below w.heap.size w w' := by
  by_cases h : (n : Int) ≤ 1048576
  · go_enter Tryd.func16, Tryd.ntmps16
    go_wp2_with (go_at_call 41; refine (szClueS_any _ _ _ _ hn).mono ?_; rw [if_pos h]; rintro e w1 ⟨rfl, rfl⟩)
    go_ret
    refine ⟨⟨_, rfl, fun _ => by omega⟩, ?_⟩
    (repeat (first | assumption | exact Below.refl _ _ | (refine Below.alloc ?_ (by first | omega | (simp; done) | (simp; omega)) _) | (refine Below.setCell ?_ (by first | omega | (simp; done) | (simp; omega)) _) | refine bel_drewN ?_ _ | refine bel_drew ?_ | (refine bel_call ?_ (by assumption))))
  · go_enter Tryd.func16, Tryd.ntmps16
    go_wp2_with (go_at_call 41; refine (szClueS_any _ _ _ _ hn).mono ?_; rw [if_neg h]; rintro e w1 ⟨rfl, rfl⟩)
    go_ret
    refine ⟨⟨-1, rfl, fun h => by omega⟩, ?_⟩
    (repeat (first | assumption | exact Below.refl _ _ | (refine Below.alloc ?_ (by first | omega | (simp; done) | (simp; omega)) _) | (refine Below.setCell ?_ (by first | omega | (simp; done) | (simp; omega)) _) | refine bel_drewN ?_ _ | refine bel_drew ?_ | (refine bel_call ?_ (by assumption))))

/-- A clue's three cells. -/
def c3F (x y z : Int) (j : Nat) : Value := (#[.int .i64 x, .int .i64 y, .int .i64 z] : Array Value).toList.getD j undef

theorem toClue_any (x y z : Int) (w : World) :
    Calls Tryd.prog 81 #[.agg #[.int .i64 x, .int .i64 y, .int .i64 z]] w fun e w' => e = .returned (.agg #[.int .i64 x, .int .i64 y, .int .i64 z]) ∧ Below w.heap.size w w' := by
  go_enter Tryd.func81, Tryd.ntmps81
  go_wp2_with fail
  refine bodyPost_ret (v := .agg #[.int .i64 x, .int .i64 y, .int .i64 z]) (by simp [results, Tryd.results81, go_sem]) rfl ⟨rfl, ?_⟩
  (repeat (first | assumption | exact Below.refl _ _ | (refine Below.alloc ?_ (by first | omega | (simp; done) | (simp; omega)) _) | (refine Below.setCell ?_ (by first | omega | (simp; done) | (simp; omega)) _) | refine bel_drewN ?_ _ | refine bel_drew ?_ | (refine bel_call ?_ (by assumption))))

theorem info_clue : (Tryd.prog.info? 77).map (fun i => (i.zero, i.size, i.bytes)) = some (some (.agg #[.int .i64 0, .int .i64 0, .int .i64 0]), 3, 24) := by kernel_rfl

theorem make_clues (n : Nat) (hn : n ≤ 1048576) (W : World) : (Instr.makeSlice 44 (.int .i64 (n : Int)) (.int .i64 (n : Int))).run Tryd.prog W = .ok (.slice (some ⟨W.heap.size, 0, none⟩) n n) (W.alloc (.cells (madeCells #[.int .i64 0, .int .i64 0, .int .i64 0] (n * 3)) 77)) := by
  obtain ⟨i0, hi, hz0, hz1, hz2⟩ := info_parts info_clue
  have := run_make_rowN (P := Tryd.prog) 44 77 i0 _ Tryd.underlying44 hi hz0 .i64 .i64 n n (Nat.le_refl _) (by rw [hz2]; omega) (by omega) W
  rw [hz1] at this
  exact this

theorem made_clues (w : World) (n : Nat) : Cells (w.alloc (.cells (madeCells #[.int .i64 0, .int .i64 0, .int .i64 0] (n * 3)) 77)) w.heap.size (n * 3) (fun _ => .int .i64 0) :=
  ⟨by simp, fun j hj => by
    rw [World.cell?_alloc_new, World.frozen?_alloc_new]
    refine ⟨?_, rfl⟩
    have h1 : j < (madeCells #[Value.int .i64 0, .int .i64 0, .int .i64 0] (n * 3)).size := by rw [size_madeCells]; exact hj
    rw [Array.getElem?_eq_getElem h1]
    have h2 : j % 3 = 0 ∨ j % 3 = 1 ∨ j % 3 = 2 := by omega
    rcases h2 with h2 | h2 | h2 <;> simp [madeCells, h2]⟩

/-- Three cells more. -/
theorem clu_cells {w : World} {g n k : Nat} {cs : List Clu} {z : Nat → Value} {x y q : Int} (hk : k < n) (h : Cells w g (n * 3) (fun j => if j < k * 3 then cluF cs j else z j)) (hx : (cs.getD k cu0).1 = x) (hy : (cs.getD k cu0).2.1 = y) (hq : (cs.getD k cu0).2.2 = q) :
    Cells (((w.setCell ⟨g, k * 3, none⟩ (.int .i64 x)).setCell ⟨g, k * 3 + 1, none⟩ (.int .i64 y)).setCell ⟨g, k * 3 + 2, none⟩ (.int .i64 q)) g (n * 3) (fun j => if j < (k + 1) * 3 then cluF cs j else z j) :=
  (((h.set_ (show k * 3 < n * 3 by omega) (.int .i64 x)).set_ (show k * 3 + 1 < n * 3 by omega) (.int .i64 y)).set_ (show k * 3 + 2 < n * 3 by omega) (.int .i64 q)).congr (fun j hj => by
    by_cases e2 : j = k * 3 + 2
    · subst e2; rw [if_pos rfl, if_pos (by omega), cluF_2, hq]
    · rw [if_neg e2]
      by_cases e1 : j = k * 3 + 1
      · subst e1; rw [if_pos rfl, if_pos (by omega), cluF_1, hy]
      · rw [if_neg e1]
        by_cases e0 : j = k * 3
        · subst e0; rw [if_pos rfl, if_pos (by omega), cluF_0, hx]
        · rw [if_neg e0]
          by_cases e3 : j < k * 3
          · rw [if_pos e3, if_pos (by omega)]
          · rw [if_neg e3, if_neg (by omega)])

set_option maxHeartbeats 1000000 in
theorem toClueS_any (A : Option Addr) (n c : Nat) (cs : List Clu) (w : World) (hn : n ≤ 1048576) (hA : ArgC w A n cs) :
    Calls Tryd.prog 45 #[.slice A n c] w fun e w' => e = .returned (.slice (some ⟨w.heap.size, 0, none⟩) n n) ∧ Cells w' w.heap.size (n * 3) (cluF cs) ∧ Below w.heap.size w w' := by
  have hmk := make_clues n hn
  have HM := Lib.hid (made_clues w n)
  have hat := hA.at_
  rcases hat with h0 | ⟨b, off, rfl, hb, hc⟩
  · have h0' : n ≤ 0 := by omega
    clear h0 hA
    go_enter Tryd.func45, Tryd.ntmps45
    go_wp2_with fail
    clear hmk
    go_loopw [4] (fun i wr => i = .int .i64 ((0 : Nat) : Int) ∧ Cells wr w.heap.size (n * 3) (fun _ => .int .i64 0) ∧ Below w.heap.size w wr) (fun _ _ => 0)
    case atStart => exact ⟨rfl, HM.out, by (repeat (first | assumption | exact Below.refl _ _ | (refine Below.alloc ?_ (by first | omega | (simp; done) | (simp; omega)) _) | (refine Below.setCell ?_ (by first | omega | (simp; done) | (simp; omega)) _) | refine bel_drewN ?_ _ | refine bel_drew ?_ | (refine bel_call ?_ (by assumption))))⟩
    case round =>
      obtain ⟨rfl, hCr, hB⟩ := hrel
      have HR := Lib.hid hCr
      clear hCr
      go_wp2_with fail
      go_ret
      exact ⟨rfl, HR.out.congr (fun j hj => by omega), hB⟩
  · have HC := Lib.hid hc
    clear hc hA
    go_enter Tryd.func45, Tryd.ntmps45
    go_wp2_with fail
    clear hmk
    go_loopw [4] (fun i wr => ∃ k : Nat, k ≤ n ∧ i = .int .i64 k ∧ Cells wr w.heap.size (n * 3) (fun j => if j < k * 3 then cluF cs j else .int .i64 0) ∧ Below w.heap.size w wr) (fun i _ => n - (intOf i).toNat)
    case atStart => exact ⟨0, by omega, rfl, HM.out.congr (fun j _ => by simp), by (repeat (first | assumption | exact Below.refl _ _ | (refine Below.alloc ?_ (by first | omega | (simp; done) | (simp; omega)) _) | (refine Below.setCell ?_ (by first | omega | (simp; done) | (simp; omega)) _) | refine bel_drewN ?_ _ | refine bel_drew ?_ | (refine bel_call ?_ (by assumption))))⟩
    case round =>
      obtain ⟨k, hk, rfl, hCr, hB⟩ := hrel
      have HR := Lib.hid hCr
      clear hCr
      by_cases hlt : k < n
      · have o0 : wr.cell? ⟨b, off + k * 3, none⟩ = some (.int .i64 (cs.getD k cu0).1) := by rw [hB.cell (p := ⟨b, off + k * 3, none⟩) hb]; exact (HC.out k hlt).1
        have o1 : wr.cell? ⟨b, off + k * 3 + 1, none⟩ = some (.int .i64 (cs.getD k cu0).2.1) := by rw [hB.cell (p := ⟨b, off + k * 3 + 1, none⟩) hb]; exact (HC.out k hlt).2.1
        have o2 : wr.cell? ⟨b, off + k * 3 + 2, none⟩ = some (.int .i64 (cs.getD k cu0).2.2) := by rw [hB.cell (p := ⟨b, off + k * 3 + 2, none⟩) hb]; exact (HC.out k hlt).2.2
        generalize hx : (cs.getD k cu0).1 = x at o0
        generalize hy : (cs.getD k cu0).2.1 = y at o1
        generalize hq : (cs.getD k cu0).2.2 = z at o2
        have HX := Lib.hid hx
        have HY := Lib.hid hy
        have HQ := Lib.hid hq
        clear hx hy hq
        go_wp2_with (go_at_call 81; refine (toClue_any _ _ _ _).mono ?_; rintro e w3 ⟨rfl, hb3⟩; have h3 := Lib.hid (HR.out.call hb3); have p1 := h3.out.cell (show k * 3 < n * 3 by omega); have p2 := h3.out.frozen (show k * 3 < n * 3 by omega); have p3 := h3.out.cell (show k * 3 + 1 < n * 3 by omega); have p4 := h3.out.frozen (show k * 3 + 1 < n * 3 by omega); have p5 := h3.out.cell (show k * 3 + 2 < n * 3 by omega); have p6 := h3.out.frozen (show k * 3 + 2 < n * 3 by omega))
        have HW := Lib.hid (clu_cells hlt h3.out HX.out HY.out HQ.out)
        go_roundw
        case rel => exact ⟨k + 1, by omega, by go_num, HW.out, (((bel_call hB hb3).setCell (Nat.le_refl _) _).setCell (Nat.le_refl _) _).setCell (Nat.le_refl _) _⟩
        case measure => simp [intOf]; omega
      · go_wp2_with fail
        go_ret
        exact ⟨rfl, HR.out.congr (fun j hj => by rw [if_pos (by omega)]), hB⟩

set_option maxHeartbeats 1000000 in
theorem toPuzzle_any (a b : Int) (A : Option Addr) (n c : Nat) (cs : List Clu) (w : World) (hn : n ≤ 1048576) (hA : ArgC w A n cs) :
    Calls Tryd.prog 18 #[.agg #[.int .i64 a, .int .i64 b, .slice A n c]] w fun e w' => ∃ g, e = .returned (.agg #[.int .i64 a, .int .i64 b, .slice (some ⟨g, 0, none⟩) n n]) ∧ w.heap.size ≤ g ∧ Cells w' g (n * 3) (cluF cs) ∧ Below w.heap.size w w' := by
  have HA := Lib.hid hA
  clear hA
  go_enter Tryd.func18, Tryd.ntmps18
  go_wp2_with fail
  have CU := ((Cells.new (W := w) (cs := #[.int .i64 a, .int .i64 b, .slice A n c]) (t := 40) (g := w.heap.size) (n := 3) rfl rfl).alloc (.cells #[.int .i64 0, .int .i64 0, .slice none 0 0] 46)).alloc (.cells #[.int .i64 0, .int .i64 0, .slice none 0 0] 46)
  have CQ := (Cells.new (W := w.alloc (.cells #[.int .i64 a, .int .i64 b, .slice A n c] 40)) (cs := #[.int .i64 0, .int .i64 0, .slice none 0 0]) (t := 46) (g := w.heap.size + 1) (n := 3) (by simp) rfl).alloc (.cells #[.int .i64 0, .int .i64 0, .slice none 0 0] 46)
  have CT := Cells.new (W := (w.alloc (.cells #[.int .i64 a, .int .i64 b, .slice A n c] 40)).alloc (.cells #[.int .i64 0, .int .i64 0, .slice none 0 0] 46)) (cs := #[.int .i64 0, .int .i64 0, .slice none 0 0]) (t := 46) (g := w.heap.size + 1 + 1) (n := 3) (by simp) rfl
  have hB0 : Below w.heap.size w (((w.alloc (.cells #[.int .i64 a, .int .i64 b, .slice A n c] 40)).alloc (.cells #[.int .i64 0, .int .i64 0, .slice none 0 0] 46)).alloc (.cells #[.int .i64 0, .int .i64 0, .slice none 0 0] 46)) := by (repeat (first | assumption | exact Below.refl _ _ | (refine Below.alloc ?_ (by first | omega | (simp; done) | (simp; omega)) _) | (refine Below.setCell ?_ (by first | omega | (simp; done) | (simp; omega)) _) | refine bel_drewN ?_ _ | refine bel_drew ?_ | (refine bel_call ?_ (by assumption))))
  refine (toLock_any _ _ _).mono ?_
  rintro e w1 ⟨rfl, hb1⟩
  have DU := Lib.hid (CU.call hb1)
  have DQ := Lib.hid (CQ.call hb1)
  have DT := Lib.hid (CT.call hb1)
  have HB1 := Lib.hid (((bel_call hB0 hb1).setCell (p := ⟨w.heap.size + 1 + 1, 0, none⟩) (by show w.heap.size ≤ w.heap.size + 1 + 1; omega) (.int .i64 a)).setCell (p := ⟨w.heap.size + 1 + 1, 1, none⟩) (by show w.heap.size ≤ w.heap.size + 1 + 1; omega) (.int .i64 b))
  clear CU CQ CT hB0 hb1
  have t0 : w1.cell? ⟨w.heap.size + 1 + 1, 0, none⟩ = some (.int .i64 0) := DT.out.cell (show 0 < 3 by omega)
  have t1 : w1.cell? ⟨w.heap.size + 1 + 1, 1, none⟩ = some (.int .i64 0) := DT.out.cell (show 1 < 3 by omega)
  have f0 := DT.out.frozen (show 0 < 3 by omega)
  have f1 := DT.out.frozen (show 1 < 3 by omega)
  have s2 : w1.cell? ⟨w.heap.size, 2, none⟩ = some (.slice A n c) := DU.out.cell (show 2 < 3 by omega)
  have EQ := Lib.hid ((DQ.out.far (p := ⟨w.heap.size + 1 + 1, 0, none⟩) (by show w.heap.size + 1 + 1 ≠ w.heap.size + 1; omega) (.int .i64 a)).far (p := ⟨w.heap.size + 1 + 1, 1, none⟩) (by show w.heap.size + 1 + 1 ≠ w.heap.size + 1; omega) (.int .i64 b))
  have ET := Lib.hid ((DT.out.set_ (show 0 < 3 by omega) (.int .i64 a)).set_ (show 1 < 3 by omega) (.int .i64 b))
  go_wp2_with fail
  refine (toClueS_any _ _ _ cs _ hn (HA.out.below HB1.out)).mono ?_
  rintro e w2 ⟨rfl, hG2, hb2⟩
  have FQ := Lib.hid (EQ.out.call hb2)
  have FT := Lib.hid (ET.out.call hb2)
  have HB2 := Lib.hid (bel_call HB1.out hb2)
  have HG2 := Lib.hid hG2
  have HZ := Lib.hid HB1.out.size
  have HZT := Lib.hid ET.out.lt
  clear t0 t1 f0 f1 s2 hb2 hG2
  have T0 : w2.cell? ⟨w.heap.size + 1 + 1, 0, none⟩ = some (.int .i64 a) := FT.out.cell (show 0 < 3 by omega)
  have T1 : w2.cell? ⟨w.heap.size + 1 + 1, 1, none⟩ = some (.int .i64 b) := FT.out.cell (show 1 < 3 by omega)
  have T2 : w2.cell? ⟨w.heap.size + 1 + 1, 2, none⟩ = some (.slice none 0 0) := FT.out.cell (show 2 < 3 by omega)
  have F2 := FT.out.frozen (show 2 < 3 by omega)
  have Q0 : w2.cell? ⟨w.heap.size + 1, 0, none⟩ = some (.int .i64 0) := FQ.out.cell (show 0 < 3 by omega)
  have Q1 : w2.cell? ⟨w.heap.size + 1, 1, none⟩ = some (.int .i64 0) := FQ.out.cell (show 1 < 3 by omega)
  have Q2 : w2.cell? ⟨w.heap.size + 1, 2, none⟩ = some (.slice none 0 0) := FQ.out.cell (show 2 < 3 by omega)
  have G0 := FQ.out.frozen (show 0 < 3 by omega)
  have G1 := FQ.out.frozen (show 1 < 3 by omega)
  have G2 := FQ.out.frozen (show 2 < 3 by omega)
  generalize ((w1.setCell ⟨w.heap.size + 1 + 1, 0, none⟩ (.int .i64 a)).setCell ⟨w.heap.size + 1 + 1, 1, none⟩ (.int .i64 b)).heap.size = g at *
  go_wp2_with fail
  refine bodyPost_ret (v := .agg #[.int .i64 a, .int .i64 b, .slice (some ⟨g, 0, none⟩) n n]) (by simp [results, Tryd.results18, go_sem, Q0, Q1, Q2]) rfl ⟨g, rfl, HZ.out, ?_, ?_⟩
  · have hz := HZT.out
    exact (((HG2.out.far (by show w.heap.size + 1 + 1 ≠ g; omega) _).far (by show w.heap.size + 1 ≠ g; omega) _).far (by show w.heap.size + 1 ≠ g; omega) _).far (by show w.heap.size + 1 ≠ g; omega) _
  · have h := HB2.out
    (repeat (first | assumption | exact Below.refl _ _ | (refine Below.alloc ?_ (by first | omega | (simp; done) | (simp; omega)) _) | (refine Below.setCell ?_ (by first | omega | (simp; done) | (simp; omega)) _) | refine bel_drewN ?_ _ | refine bel_drew ?_ | (refine bel_call ?_ (by assumption))))

theorem eqLock_same (a b : Int) (w : World) :
    Calls Tryd.prog 49 #[.agg #[.int .i64 a, .int .i64 b], .agg #[.int .i64 a, .int .i64 b]] w fun e w' => e = .returned (.bool true) ∧ Below w.heap.size w w' := by
  go_enter Tryd.func49, Tryd.ntmps49
  go_wp2_with fail
  go_ret
  refine ⟨rfl, ?_⟩
  (repeat (first | assumption | exact Below.refl _ _ | (refine Below.alloc ?_ (by first | omega | (simp; done) | (simp; omega)) _) | (refine Below.setCell ?_ (by first | omega | (simp; done) | (simp; omega)) _) | refine bel_drewN ?_ _ | refine bel_drew ?_ | (refine bel_call ?_ (by assumption))))

theorem eqClue_same (x y z : Int) (w : World) :
    Calls Tryd.prog 84 #[.agg #[.int .i64 x, .int .i64 y, .int .i64 z], .agg #[.int .i64 x, .int .i64 y, .int .i64 z]] w fun e w' => e = .returned (.bool true) ∧ Below w.heap.size w w' := by
  go_enter Tryd.func84, Tryd.ntmps84
  go_wp2_with fail
  go_ret
  refine ⟨rfl, ?_⟩
  (repeat (first | assumption | exact Below.refl _ _ | (refine Below.alloc ?_ (by first | omega | (simp; done) | (simp; omega)) _) | (refine Below.setCell ?_ (by first | omega | (simp; done) | (simp; omega)) _) | refine bel_drewN ?_ _ | refine bel_drew ?_ | (refine bel_call ?_ (by assumption))))

set_option maxHeartbeats 1000000 in
theorem eqClueS_any (A1 A2 : Option Addr) (n c1 c2 : Nat) (cs : List Clu) (w : World) (hm : n ≤ 1048576) (h1 : ArgC w A1 n cs) (h2 : ArgC w A2 n cs) :
    Calls Tryd.prog 50 #[.slice A1 n c1, .slice A2 n c2] w fun e w' => e = .returned (.bool true) ∧ Below w.heap.size w w' := by
  rcases h1.at_ with h0 | ⟨b1, o1, rfl, hb1, hc1⟩
  · subst h0
    clear h1 h2 hm
    go_enter Tryd.func50, Tryd.ntmps50
    go_wp2_with fail
    go_loop [5] (fun i => i = .int .i64 0) (fun _ => 0)
    case atStart => rfl
    case round =>
      obtain rfl := hrel
      go_wp2_with fail
      go_ret
      exact ⟨rfl, Below.refl _ _⟩
  · rcases h2.at_ with h0 | ⟨b2, o2, rfl, hb2, hc2⟩
    · subst h0
      clear h1 h2 hm hc1
      go_enter Tryd.func50, Tryd.ntmps50
      go_wp2_with fail
      go_loop [5] (fun i => i = .int .i64 0) (fun _ => 0)
      case atStart => rfl
      case round =>
        obtain rfl := hrel
        go_wp2_with fail
        go_ret
        exact ⟨rfl, Below.refl _ _⟩
    · have H1 := Lib.hid hc1
      have H2 := Lib.hid hc2
      clear hc1 hc2 h1 h2
      go_enter Tryd.func50, Tryd.ntmps50
      go_wp2_with fail
      go_loopw [5] (fun i wr => ∃ k : Nat, k ≤ n ∧ i = .int .i64 k ∧ Below w.heap.size w wr) (fun i _ => n - (intOf i).toNat)
      case atStart => exact ⟨0, by omega, rfl, Below.refl _ _⟩
      case round =>
        obtain ⟨k, hk, rfl, hB⟩ := hrel
        by_cases hlt : k < n
        · have p0 : wr.cell? ⟨b1, o1 + k * 3, none⟩ = some (.int .i64 (cs.getD k cu0).1) := by rw [hB.cell (p := ⟨b1, o1 + k * 3, none⟩) hb1]; exact (H1.out k hlt).1
          have p1 : wr.cell? ⟨b1, o1 + k * 3 + 1, none⟩ = some (.int .i64 (cs.getD k cu0).2.1) := by rw [hB.cell (p := ⟨b1, o1 + k * 3 + 1, none⟩) hb1]; exact (H1.out k hlt).2.1
          have p2 : wr.cell? ⟨b1, o1 + k * 3 + 2, none⟩ = some (.int .i64 (cs.getD k cu0).2.2) := by rw [hB.cell (p := ⟨b1, o1 + k * 3 + 2, none⟩) hb1]; exact (H1.out k hlt).2.2
          have q0 : wr.cell? ⟨b2, o2 + k * 3, none⟩ = some (.int .i64 (cs.getD k cu0).1) := by rw [hB.cell (p := ⟨b2, o2 + k * 3, none⟩) hb2]; exact (H2.out k hlt).1
          have q1 : wr.cell? ⟨b2, o2 + k * 3 + 1, none⟩ = some (.int .i64 (cs.getD k cu0).2.1) := by rw [hB.cell (p := ⟨b2, o2 + k * 3 + 1, none⟩) hb2]; exact (H2.out k hlt).2.1
          have q2 : wr.cell? ⟨b2, o2 + k * 3 + 2, none⟩ = some (.int .i64 (cs.getD k cu0).2.2) := by rw [hB.cell (p := ⟨b2, o2 + k * 3 + 2, none⟩) hb2]; exact (H2.out k hlt).2.2
          generalize (cs.getD k cu0).1 = x at p0 q0
          generalize (cs.getD k cu0).2.1 = y at p1 q1
          generalize (cs.getD k cu0).2.2 = z at p2 q2
          go_wp2_with fail
          go_region_with (go_at_call 84; refine (eqClue_same _ _ _ _).mono ?_; rintro e w3 ⟨rfl, hb3⟩)
          all_goals
            have HW := Lib.hid (below_undrew hb3)
            clear hb3
            go_wp2_with fail
            go_roundw
            case rel => exact ⟨k + 1, by omega, by go_num, bel_call hB HW.out⟩
            case measure => simp [intOf]; omega
        · go_wp2_with fail
          go_ret
          exact ⟨rfl, hB⟩

set_option maxHeartbeats 1000000 in
theorem eqPuzzle_any (a b : Int) (A1 A2 : Option Addr) (n c1 c2 : Nat) (cs : List Clu) (w : World) (hm : n ≤ 1048576) (h1 : ArgC w A1 n cs) (h2 : ArgC w A2 n cs) :
    Calls Tryd.prog 20 #[.agg #[.int .i64 a, .int .i64 b, .slice A1 n c1], .agg #[.int .i64 a, .int .i64 b, .slice A2 n c2]] w fun e w' => e = .returned (.bool true) ∧ Below w.heap.size w w' := by
  have H1 := Lib.hid h1
  have H2 := Lib.hid h2
  clear h1 h2
  go_enter Tryd.func20, Tryd.ntmps20
  go_wp2_with fail
  have C1 := (Cells.new (W := w) (cs := #[.int .i64 a, .int .i64 b, .slice A1 n c1]) (t := 46) (g := w.heap.size) (n := 3) rfl rfl).alloc (.cells #[.int .i64 a, .int .i64 b, .slice A2 n c2] 46)
  have C2 := Cells.new (W := w.alloc (.cells #[.int .i64 a, .int .i64 b, .slice A1 n c1] 46)) (cs := #[.int .i64 a, .int .i64 b, .slice A2 n c2]) (t := 46) (g := w.heap.size + 1) (n := 3) (by simp) rfl
  have hB0 : Below w.heap.size w ((w.alloc (.cells #[.int .i64 a, .int .i64 b, .slice A1 n c1] 46)).alloc (.cells #[.int .i64 a, .int .i64 b, .slice A2 n c2] 46)) := by (repeat (first | assumption | exact Below.refl _ _ | (refine Below.alloc ?_ (by first | omega | (simp; done) | (simp; omega)) _) | (refine Below.setCell ?_ (by first | omega | (simp; done) | (simp; omega)) _) | refine bel_drewN ?_ _ | refine bel_drew ?_ | (refine bel_call ?_ (by assumption))))
  refine (eqLock_same _ _ _).mono ?_
  rintro e w3 ⟨rfl, hb3⟩
  have HW := Lib.hid (bel_call hB0 hb3)
  have D1 := Lib.hid (C1.call hb3)
  have D2 := Lib.hid (C2.call hb3)
  have l2 : w3.cell? ⟨w.heap.size, 2, none⟩ = some (.slice A1 n c1) := D1.out.cell (show 2 < 3 by omega)
  have r2 : w3.cell? ⟨w.heap.size + 1, 2, none⟩ = some (.slice A2 n c2) := D2.out.cell (show 2 < 3 by omega)
  clear hb3 C1 C2 hB0
  go_wp2_with fail
  refine (eqClueS_any _ _ _ _ _ cs _ hm (H1.out.below HW.out) (H2.out.below HW.out)).mono ?_
  rintro e w4 ⟨rfl, hb4⟩
  have HX := Lib.hid (bel_call HW.out hb4)
  clear hb4
  go_wp2_with fail
  go_ret
  exact ⟨rfl, HX.out⟩

end Go.Proofs.YtgdjbclkdnmebaaDoor
