/- A list of hints among the arguments, opened, its size told, copied and compared by the law. No conditions beyond those of each lemma. -/
import Derived.Test.YtfgogiafimiibaaSs
import Derived.Test.YtfgogiafimiibaaHk
namespace Go.Proofs.Ytfgogiafimiibaa
open Go.ChangeShapes Go.WideShapes Go.ChangeAt Go.RowKit Go.Joins Go.Deep

/-- A hint: its guess, its places, its others. -/
abbrev Hnt := ByteArray × Int × Int

abbrev hn0 : Hnt := (ByteArray.empty, 0, 0)

/-- Hints as cells: three for each. -/
def hntF (hs : List Hnt) (j : Nat) : Value :=
  if j % 3 = 0 then .string (hs.getD (j / 3) hn0).1 else if j % 3 = 1 then .int .i64 (hs.getD (j / 3) hn0).2.1 else .int .i64 (hs.getD (j / 3) hn0).2.2

theorem hntF_0 (hs : List Hnt) (k : Nat) : hntF hs (k * 3) = .string (hs.getD k hn0).1 := by
  unfold hntF
  rw [if_pos (by omega), show k * 3 / 3 = k by omega]

theorem hntF_1 (hs : List Hnt) (k : Nat) : hntF hs (k * 3 + 1) = .int .i64 (hs.getD k hn0).2.1 := by
  unfold hntF
  rw [if_neg (by omega), if_pos (by omega), show (k * 3 + 1) / 3 = k by omega]

theorem hntF_2 (hs : List Hnt) (k : Nat) : hntF hs (k * 3 + 2) = .int .i64 (hs.getD k hn0).2.2 := by
  unfold hntF
  rw [if_neg (by omega), if_neg (by omega), show (k * 3 + 2) / 3 = k by omega]

/-- A list of hints that came in. -/
structure ArgH (w : World) (A : Option Addr) (n : Nat) (hs : List Hnt) : Prop where
  len : hs.length = n
  at_ : n = 0 ∨ ∃ b off, A = some ⟨b, off, none⟩ ∧ b < w.heap.size ∧ ∀ k, k < n → w.cell? ⟨b, off + k * 3, none⟩ = some (.string (hs.getD k hn0).1) ∧ w.cell? ⟨b, off + k * 3 + 1, none⟩ = some (.int .i64 (hs.getD k hn0).2.1) ∧ w.cell? ⟨b, off + k * 3 + 2, none⟩ = some (.int .i64 (hs.getD k hn0).2.2)
  sz : ∀ k, k < n → (hs.getD k hn0).1.size ≤ maxLen
  wf1 : ∀ k, k < n → (Lit.int .i64 (hs.getD k hn0).2.1).wf = true
  wf2 : ∀ k, k < n → (Lit.int .i64 (hs.getD k hn0).2.2).wf = true

theorem ArgH.below {w w' : World} {A : Option Addr} {n : Nat} {hs : List Hnt} (h : ArgH w A n hs) (hb : Below w.heap.size w w') : ArgH w' A n hs :=
  ⟨h.len, h.at_.imp id fun ⟨b, off, e, hb', hc⟩ => ⟨b, off, e, Nat.lt_of_lt_of_le hb' hb.size, fun k hk => ⟨by rw [hb.cell (p := ⟨b, off + k * 3, none⟩) hb']; exact (hc k hk).1, by rw [hb.cell (p := ⟨b, off + k * 3 + 1, none⟩) hb']; exact (hc k hk).2.1, by rw [hb.cell (p := ⟨b, off + k * 3 + 2, none⟩) hb']; exact (hc k hk).2.2⟩⟩, h.sz, h.wf1, h.wf2⟩

/-- A list of hints of the call's own is such a list. -/
theorem argH_of {w w0 : World} {A0 : Option Addr} {g n : Nat} {hs : List Hnt} (h : ArgH w0 A0 n hs) (hC : Cells w g (n * 3) (hntF hs)) : ArgH w (some ⟨g, 0, none⟩) n hs :=
  ⟨h.len, .inr ⟨g, 0, rfl, hC.lt, fun k hk => ⟨by rw [Nat.zero_add, ← hntF_0]; exact hC.cell (by omega), by rw [Nat.zero_add, ← hntF_1]; exact hC.cell (by omega), by rw [Nat.zero_add, ← hntF_2]; exact hC.cell (by omega)⟩⟩, h.sz, h.wf1, h.wf2⟩

set_option maxRecDepth 100000 in
theorem open_hints {H : Type} {enc : TypeId × Value → H} {W : World} {b0 : Nat} {held : Bool} {v : Value} {d : DataW H} {p : List MemPlace}
    (hv : Value.okWide Try.prog W .any b0 29 v) (h : DataW.Trod enc Try.prog W 0 (fun _ => true) held 29 v d p) :
    ∃ (A : Option Addr) (n c : Nat) (hs : List Hnt), v = .slice A n c ∧ ArgH W A n hs ∧ n ≤ maxLen := by
  obtain ⟨A, n, c, rfl⟩ := okWide_slice Try.underlying29 hv
  obtain ⟨fuel, hf⟩ := h
  rcases open_slice_fields Try.underlying29 Try.underlying80 (by kernel_rfl) (by kernel_rfl) hf with ⟨hcs, _⟩ | ⟨a, len, cap, m, D, Pl, hcs, _, hl, hm, hmm, _, hi⟩
  · simp [Value.cells] at hcs
    obtain ⟨rfl, rfl, rfl⟩ := hcs
    exact ⟨none, 0, 0, [], rfl, ⟨rfl, .inl rfl, fun k hk => by omega, fun k hk => by omega, fun k hk => by omega⟩, by unfold maxLen; omega⟩
  · simp [Value.cells] at hcs
    obtain ⟨rfl, rfl, rfl⟩ := hcs
    have hm' : m = c := by rw [hmm]; rfl
    have key : ∀ i, ∃ q : Hnt, i < n → W.cell? (a.add (i * 3 + 0)) = some (.string q.1) ∧ W.cell? (a.add (i * 3 + 1)) = some (.int .i64 q.2.1) ∧ W.cell? (a.add (i * 3 + 2)) = some (.int .i64 q.2.2) ∧ q.1.size ≤ maxLen ∧ (Lit.int .i64 q.2.1).wf = true ∧ (Lit.int .i64 q.2.2).wf = true := fun i => by
      by_cases hin : i < n
      · obtain ⟨ys, k, _, _, _, hfs⟩ := hi i (by omega)
        obtain ⟨v0, y0, hc0, _, ht0⟩ := hfs 0 _ rfl
        obtain ⟨v1, y1, hc1, _, ht1⟩ := hfs 1 _ rfl
        obtain ⟨v2, y2, hc2, _, ht2⟩ := hfs 2 _ rfl
        obtain ⟨s, e0, _, hs⟩ := DataW.trod_string Try.underlying9 ht0
        obtain ⟨x, e1, _, hx⟩ := DataW.trod_int Try.underlying3 ht1
        obtain ⟨y, e2, _, hy⟩ := DataW.trod_int Try.underlying3 ht2
        simp at e0 e1 e2
        subst e0 e1 e2
        exact ⟨(s, x, y), fun _ => ⟨hc0, hc1, hc2, hs, hx, hy⟩⟩
      · exact ⟨hn0, fun h => absurd h hin⟩
    obtain ⟨f, hf'⟩ := Classical.skolem.1 key
    have e : ∀ k, k < n → ((List.range n).map f).getD k hn0 = f k := fun k hk => by simp [List.getD, hk]
    refine ⟨some a, n, c, (List.range n).map f, rfl, ⟨by simp, ?_, fun k hk => by rw [e k hk]; exact (hf' k hk).2.2.2.1, fun k hk => by rw [e k hk]; exact (hf' k hk).2.2.2.2.1, fun k hk => by rw [e k hk]; exact (hf' k hk).2.2.2.2.2⟩, by omega⟩
    rcases Nat.eq_zero_or_pos n with h0 | h0
    · exact .inl h0
    · obtain ⟨b, off, spot⟩ := a
      have h1 := (hf' 0 h0).1
      have hs : spot = none := by simpa [Addr.add] using World.cell?_spot h1
      subst hs
      have hb := World.block_lt_of_cell? _ _ h1
      refine .inr ⟨b, off, rfl, by simpa [Addr.add] using hb, fun k hk => ?_⟩
      rw [e k hk]
      have ad : ∀ j, (⟨b, off, none⟩ : Addr).add j = ⟨b, off + j, none⟩ := fun j => by unfold Addr.add; split <;> simp_all
      have := hf' k hk
      rw [ad, ad, ad] at this
      exact ⟨this.1, this.2.1, this.2.2.1⟩

theorem szHint_any (s : ByteArray) (x y z : Int) (w : World) (h0 : 0 ≤ z) (h1 : z ≤ 1048576) (hs : s.size ≤ maxLen) :
    Calls Try.prog 69 #[.agg #[.string s, .int .i64 x, .int .i64 y], .int .i64 z] w fun e w' => e = .returned (.int .i64 (if z - (s.size : Int) < 0 then -1 else z - (s.size : Int))) ∧ Below w.heap.size w w' := by
  unfold maxLen at hs
  by_cases h : z - (s.size : Int) < 0
  all_goals
    go_enter Try.func69, Try.ntmps69
    go_wp2_with fail
    go_ret
    refine ⟨rfl, ?_⟩
    (repeat (first | assumption | exact Below.refl _ _ | (refine Below.alloc ?_ (by first | omega | (simp; done) | (simp; omega)) _) | (refine Below.setCell ?_ (by first | omega | (simp; done) | (simp; omega)) _) | refine bel_drewN ?_ _ | refine bel_drew ?_ | (refine bel_call ?_ (by assumption))))

theorem szHintS_any (A : Option Addr) (n c : Nat) (hs : List Hnt) (w : World) (hn : n ≤ maxLen) (hA : ArgH w A n hs) :
    Calls Try.prog 21 #[.slice A n c, .int .i64 1048576] w (SzOut w n) := by
  unfold maxLen at hn
  by_cases h : n ≤ 1048576
  · rcases hA.at_ with h0 | ⟨b, off, rfl, hb, hc⟩
    · subst h0
      clear hA
      go_enter Try.func21, Try.ntmps21
      go_wp2_with fail
      go_loop [1, 5] (fun r i => i = .int .i64 0 ∧ r = .int .i64 1048576) (fun _ _ => 0)
      case atStart => exact ⟨rfl, rfl⟩
      case round =>
        obtain ⟨rfl, rfl⟩ := hrel
        go_wp2_with fail
        go_ret
        exact ⟨1048576, rfl, by omega, by omega, fun _ => h, Below.refl _ _⟩
    · have HC := Lib.hid hc
      have HZ := Lib.hid hA.sz
      clear hc hA
      go_enter Try.func21, Try.ntmps21
      go_wp2_with fail
      go_loopw [1, 5] (fun r i wr => ∃ (k : Nat) (z : Int), k ≤ n ∧ i = .int .i64 k ∧ r = .int .i64 z ∧ 0 ≤ z ∧ z ≤ 1048576 ∧ Below w.heap.size w wr) (fun _ i _ => n - (intOf i).toNat)
      case atStart => exact ⟨0, 1048576 - (n : Int), by omega, rfl, by first | rfl | (congr 1; omega), by omega, by omega, Below.refl _ _⟩
      case round =>
        obtain ⟨k, z, hk, rfl, rfl, hz0, hz1, hB⟩ := hrel
        by_cases hlt : k < n
        · have o0 : wr.cell? ⟨b, off + k * 3, none⟩ = some (.string (hs.getD k hn0).1) := by rw [hB.cell (p := ⟨b, off + k * 3, none⟩) hb]; exact (HC.out k hlt).1
          have o1 : wr.cell? ⟨b, off + k * 3 + 1, none⟩ = some (.int .i64 (hs.getD k hn0).2.1) := by rw [hB.cell (p := ⟨b, off + k * 3 + 1, none⟩) hb]; exact (HC.out k hlt).2.1
          have o2 : wr.cell? ⟨b, off + k * 3 + 2, none⟩ = some (.int .i64 (hs.getD k hn0).2.2) := by rw [hB.cell (p := ⟨b, off + k * 3 + 2, none⟩) hb]; exact (HC.out k hlt).2.2
          have hsz := Lib.hid (HZ.out k hlt)
          generalize (hs.getD k hn0).1 = s at o0 hsz
          generalize (hs.getD k hn0).2.1 = x at o1
          generalize (hs.getD k hn0).2.2 = y at o2
          by_cases hneg : z - (s.size : Int) < 0
          · go_wp2_with (go_at_call 69; refine (szHint_any _ _ _ _ _ hz0 hz1 hsz.out).mono ?_; rw [if_pos hneg]; rintro e w3 ⟨rfl, hb3⟩)
            go_ret
            exact ⟨-1, rfl, by omega, by omega, fun _ => h, bel_call hB hb3⟩
          · go_wp2_with (go_at_call 69; refine (szHint_any _ _ _ _ _ hz0 hz1 hsz.out).mono ?_; rw [if_neg hneg]; rintro e w3 ⟨rfl, hb3⟩)
            have HB := Lib.hid (bel_call hB hb3)
            clear hB hb3
            go_roundw
            case rel => exact ⟨k + 1, z - (s.size : Int), by omega, by go_num, rfl, by omega, by omega, HB.out⟩
            case measure => simp [intOf]; omega
        · go_wp2_with fail
          go_ret
          exact ⟨z, rfl, by omega, by omega, fun _ => h, hB⟩
  · clear hA
    go_enter Try.func21, Try.ntmps21
    go_wp2_with fail
    go_ret
    exact ⟨-1, rfl, by omega, by omega, by omega, Below.refl _ _⟩

theorem toHint_any (s : ByteArray) (x y : Int) (w : World) :
    Calls Try.prog 71 #[.agg #[.string s, .int .i64 x, .int .i64 y]] w fun e w' => e = .returned (.agg #[.string s, .int .i64 x, .int .i64 y]) ∧ Below w.heap.size w w' := by
  go_enter Try.func71, Try.ntmps71
  go_wp2_with fail
  have HF : Cells (((w.alloc (.cells #[.string s, .int .i64 x, .int .i64 y] 80)).alloc (.cells #[.string s, .int .i64 x, .int .i64 y] 77)).alloc (.cells #[.string s, .int .i64 x, .int .i64 y] 77)) (w.heap.size + 1) 3 (h3F s x y) := (cells_lit (by simp) (three_of rfl rfl rfl)).alloc _
  refine bodyPost_ret (hint_resG rfl _ _ (w.heap.size + 1) s x y rfl (HF.cell (show 0 < 3 by omega)) (HF.cell (show 1 < 3 by omega)) (HF.cell (show 2 < 3 by omega))) rfl ?_
  refine ⟨rfl, ?_⟩
  (repeat (first | assumption | exact Below.refl _ _ | (refine Below.alloc ?_ (by first | omega | (simp; done) | (simp; omega)) _) | (refine Below.setCell ?_ (by first | omega | (simp; done) | (simp; omega)) _) | refine bel_drewN ?_ _ | refine bel_drew ?_ | (refine bel_call ?_ (by assumption))))

/-- The cells of hints that have just been made. -/
def hzF (j : Nat) : Value := if j % 3 = 0 then .string ByteArray.empty else .int .i64 0

theorem info_hint : (Try.prog.info? 77).map (fun i => (i.zero, i.size, i.bytes)) = some (some (.agg #[.string ByteArray.empty, .int .i64 0, .int .i64 0]), 3, 32) := by kernel_rfl

theorem make_hints (n : Nat) (hn : n ≤ 1048576) (W : World) : (Instr.makeSlice 33 (.int .i64 (n : Int)) (.int .i64 (n : Int))).run Try.prog W = .ok (.slice (some ⟨W.heap.size, 0, none⟩) n n) (W.alloc (.cells (madeCells #[.string ByteArray.empty, .int .i64 0, .int .i64 0] (n * 3)) 77)) := by
  obtain ⟨i0, hi, hz0, hz1, hz2⟩ := info_parts info_hint
  have := run_make_rowN (P := Try.prog) 33 77 i0 _ Try.underlying33 hi hz0 .i64 .i64 n n (Nat.le_refl _) (by rw [hz2]; omega) (by omega) W
  rw [hz1] at this
  exact this

theorem made_hints (w : World) (n : Nat) : Cells (w.alloc (.cells (madeCells #[.string ByteArray.empty, .int .i64 0, .int .i64 0] (n * 3)) 77)) w.heap.size (n * 3) hzF :=
  ⟨by simp, fun j hj => by
    rw [World.cell?_alloc_new, World.frozen?_alloc_new]
    refine ⟨?_, rfl⟩
    have h1 : j < (madeCells #[Value.string ByteArray.empty, .int .i64 0, .int .i64 0] (n * 3)).size := by rw [size_madeCells]; exact hj
    rw [Array.getElem?_eq_getElem h1]
    have h2 : j % 3 = 0 ∨ j % 3 = 1 ∨ j % 3 = 2 := by omega
    rcases h2 with h2 | h2 | h2 <;> simp [madeCells, hzF, h2]⟩

set_option maxHeartbeats 1000000 in
theorem toHintS_any (A : Option Addr) (n c : Nat) (hs : List Hnt) (w : World) (hn : n ≤ 1048576) (hA : ArgH w A n hs) :
    Calls Try.prog 23 #[.slice A n c] w fun e w' => e = .returned (.slice (some ⟨w.heap.size, 0, none⟩) n n) ∧ Cells w' w.heap.size (n * 3) (hntF hs) ∧ Below w.heap.size w w' := by
  have hmk := make_hints n hn
  have HM := Lib.hid (made_hints w n)
  have hat := hA.at_
  rcases hat with h0 | ⟨b, off, rfl, hb, hc⟩
  · have h0' : n ≤ 0 := by omega
    clear h0 hA
    go_enter Try.func23, Try.ntmps23
    go_wp2_with fail
    clear hmk
    go_loopw [4] (fun i wr => i = .int .i64 ((0 : Nat) : Int) ∧ Cells wr w.heap.size (n * 3) hzF ∧ Below w.heap.size w wr) (fun _ _ => 0)
    case atStart => exact ⟨rfl, HM.out, by (repeat (first | assumption | exact Below.refl _ _ | (refine Below.alloc ?_ (by first | omega | (simp; done) | (simp; omega)) _) | (refine Below.setCell ?_ (by first | omega | (simp; done) | (simp; omega)) _) | refine bel_drewN ?_ _ | refine bel_drew ?_ | (refine bel_call ?_ (by assumption))))⟩
    case round =>
      obtain ⟨rfl, hCr, hB⟩ := hrel
      have HR := Lib.hid hCr
      clear hCr
      go_wp2_with fail
      go_ret
      exact ⟨rfl, HR.out.congr (fun j hj => by omega), hB⟩
  · have HC := Lib.hid hc
    clear hc hA
    go_enter Try.func23, Try.ntmps23
    go_wp2_with fail
    clear hmk
    go_loopw [4] (fun i wr => ∃ k : Nat, k ≤ n ∧ i = .int .i64 k ∧ Cells wr w.heap.size (n * 3) (fun j => if j < k * 3 then hntF hs j else hzF j) ∧ Below w.heap.size w wr) (fun i _ => n - (intOf i).toNat)
    case atStart => exact ⟨0, by omega, rfl, HM.out.congr (fun j _ => by simp), by (repeat (first | assumption | exact Below.refl _ _ | (refine Below.alloc ?_ (by first | omega | (simp; done) | (simp; omega)) _) | (refine Below.setCell ?_ (by first | omega | (simp; done) | (simp; omega)) _) | refine bel_drewN ?_ _ | refine bel_drew ?_ | (refine bel_call ?_ (by assumption))))⟩
    case round =>
      obtain ⟨k, hk, rfl, hCr, hB⟩ := hrel
      have HR := Lib.hid hCr
      clear hCr
      by_cases hlt : k < n
      · have o0 : wr.cell? ⟨b, off + k * 3, none⟩ = some (.string (hs.getD k hn0).1) := by rw [hB.cell (p := ⟨b, off + k * 3, none⟩) hb]; exact (HC.out k hlt).1
        have o1 : wr.cell? ⟨b, off + k * 3 + 1, none⟩ = some (.int .i64 (hs.getD k hn0).2.1) := by rw [hB.cell (p := ⟨b, off + k * 3 + 1, none⟩) hb]; exact (HC.out k hlt).2.1
        have o2 : wr.cell? ⟨b, off + k * 3 + 2, none⟩ = some (.int .i64 (hs.getD k hn0).2.2) := by rw [hB.cell (p := ⟨b, off + k * 3 + 2, none⟩) hb]; exact (HC.out k hlt).2.2
        generalize hx : (hs.getD k hn0).1 = x at o0
        generalize hy : (hs.getD k hn0).2.1 = y at o1
        generalize hq : (hs.getD k hn0).2.2 = z at o2
        have HX := Lib.hid hx
        have HY := Lib.hid hy
        have HQ := Lib.hid hq
        clear hx hy hq
        go_wp2_with (go_at_call 71; refine (toHint_any _ _ _ _).mono ?_; rintro e w3 ⟨rfl, hb3⟩; have h3 := Lib.hid (HR.out.call hb3); have p1 := h3.out.cell (show k * 3 < n * 3 by omega); have p2 := h3.out.frozen (show k * 3 < n * 3 by omega); have p3 := h3.out.cell (show k * 3 + 1 < n * 3 by omega); have p4 := h3.out.frozen (show k * 3 + 1 < n * 3 by omega); have p5 := h3.out.cell (show k * 3 + 2 < n * 3 by omega); have p6 := h3.out.frozen (show k * 3 + 2 < n * 3 by omega))
        have HW := Lib.hid ((((h3.out.set_ (show k * 3 < n * 3 by omega) (.string x)).set_ (show k * 3 + 1 < n * 3 by omega) (.int .i64 y)).set_ (show k * 3 + 2 < n * 3 by omega) (.int .i64 z)).congr (f' := fun j => if j < (k + 1) * 3 then hntF hs j else hzF j) (fun j hj => by
          by_cases e2 : j = k * 3 + 2
          · subst e2; rw [if_pos rfl, if_pos (by omega), hntF_2, HQ.out]
          · rw [if_neg e2]
            by_cases e1 : j = k * 3 + 1
            · subst e1; rw [if_pos rfl, if_pos (by omega), hntF_1, HY.out]
            · rw [if_neg e1]
              by_cases e0 : j = k * 3
              · subst e0; rw [if_pos rfl, if_pos (by omega), hntF_0, HX.out]
              · rw [if_neg e0]
                by_cases e3 : j < k * 3
                · rw [if_pos e3, if_pos (by omega)]
                · rw [if_neg e3, if_neg (by omega)]))
        go_roundw
        case rel => exact ⟨k + 1, by omega, by go_num, HW.out, (((bel_call hB hb3).setCell (Nat.le_refl _) _).setCell (Nat.le_refl _) _).setCell (Nat.le_refl _) _⟩
        case measure => simp [intOf]; omega
      · go_wp2_with fail
        go_ret
        exact ⟨rfl, HR.out.congr (fun j hj => by rw [if_pos (by omega)]), hB⟩

theorem eqHint_same (s : ByteArray) (x y : Int) (w : World) :
    Calls Try.prog 73 #[.agg #[.string s, .int .i64 x, .int .i64 y], .agg #[.string s, .int .i64 x, .int .i64 y]] w fun e w' => e = .returned (.bool true) ∧ Below w.heap.size w w' := by
  go_enter Try.func73, Try.ntmps73
  go_wp2_with fail
  go_ret
  refine ⟨rfl, ?_⟩
  (repeat (first | assumption | exact Below.refl _ _ | (refine Below.alloc ?_ (by first | omega | (simp; done) | (simp; omega)) _) | (refine Below.setCell ?_ (by first | omega | (simp; done) | (simp; omega)) _) | refine bel_drewN ?_ _ | refine bel_drew ?_ | (refine bel_call ?_ (by assumption))))

set_option maxHeartbeats 1000000 in
theorem eqHintS_same (g1 g2 n c1 c2 : Nat) (hs : List Hnt) (w : World) (hm : n ≤ 1048576) (hC1 : Cells w g1 (n * 3) (hntF hs)) (hC2 : Cells w g2 (n * 3) (hntF hs)) :
    Calls Try.prog 25 #[.slice (some ⟨g1, 0, none⟩) n c1, .slice (some ⟨g2, 0, none⟩) n c2] w fun e w' => e = .returned (.bool true) ∧ Below w.heap.size w w' := by
  have H1 := Lib.hid hC1
  have H2 := Lib.hid hC2
  clear hC1 hC2
  go_enter Try.func25, Try.ntmps25
  go_wp2_with fail
  go_loopw [5] (fun i wr => ∃ k : Nat, k ≤ n ∧ i = .int .i64 k ∧ Below w.heap.size w wr) (fun i _ => n - (intOf i).toNat)
  case atStart => exact ⟨0, by omega, rfl, Below.refl _ _⟩
  case round =>
    obtain ⟨k, hk, rfl, hB⟩ := hrel
    by_cases hlt : k < n
    · have D1 := H1.out.below hB H1.out.lt
      have D2 := H2.out.below hB H2.out.lt
      have o0 : wr.cell? ⟨g1, k * 3, none⟩ = some (.string (hs.getD k hn0).1) := by rw [← hntF_0]; exact D1.cell (by omega)
      have o1 : wr.cell? ⟨g1, k * 3 + 1, none⟩ = some (.int .i64 (hs.getD k hn0).2.1) := by rw [← hntF_1]; exact D1.cell (by omega)
      have o2 : wr.cell? ⟨g1, k * 3 + 2, none⟩ = some (.int .i64 (hs.getD k hn0).2.2) := by rw [← hntF_2]; exact D1.cell (by omega)
      have p0 : wr.cell? ⟨g2, k * 3, none⟩ = some (.string (hs.getD k hn0).1) := by rw [← hntF_0]; exact D2.cell (by omega)
      have p1 : wr.cell? ⟨g2, k * 3 + 1, none⟩ = some (.int .i64 (hs.getD k hn0).2.1) := by rw [← hntF_1]; exact D2.cell (by omega)
      have p2 : wr.cell? ⟨g2, k * 3 + 2, none⟩ = some (.int .i64 (hs.getD k hn0).2.2) := by rw [← hntF_2]; exact D2.cell (by omega)
      clear D1 D2
      generalize (hs.getD k hn0).1 = s at o0 p0
      generalize (hs.getD k hn0).2.1 = x at o1 p1
      generalize (hs.getD k hn0).2.2 = y at o2 p2
      go_wp2_with fail
      go_region_with (go_at_call 73; refine (eqHint_same _ _ _ _).mono ?_; rintro e w3 ⟨rfl, hb3⟩)
      all_goals
        have HW := Lib.hid (below_undrew hb3)
        clear hb3
        go_wp2_with fail
        go_roundw
        case rel => exact ⟨k + 1, by omega, by go_num, bel_call hB HW.out⟩
        case measure => simp [intOf]; omega
    · go_wp2_with fail
      go_ret
      exact ⟨rfl, hB⟩

end Go.Proofs.Ytfgogiafimiibaa
