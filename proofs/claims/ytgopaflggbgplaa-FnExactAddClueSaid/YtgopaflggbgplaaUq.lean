/- Clues put together; a puzzle without one clue, as both programs make it. For at most 1000 clues, puzzles in blocks of the law's own. -/
import Derived.Test.YtgopaflggbgplaaUm
import Derived.Lib.AppendZeros
import Derived.Lib.BufferMore
import Derived.Deep.RegionLaw
namespace Go.Proofs.Ytgopaflggbgplaa
set_option maxRecDepth 100000
open Go.ChangeShapes Go.WideShapes Go.ChangeAt Go.RowKit Go.Joins

/-- Clues as values in a row. -/
def cv : List Clu → List Value
  | [] => []
  | c :: cs => .int .i64 c.1 :: .int .i64 c.2.1 :: .int .i64 c.2.2 :: cv cs

theorem cv_length (cs : List Clu) : (cv cs).length = cs.length * 3 := by
  induction cs with
  | nil => rfl
  | cons c cs ih => simp only [cv, List.length_cons, ih]; omega

theorem cv_app (xs ys : List Clu) : cv (xs ++ ys) = cv xs ++ cv ys := by
  induction xs with
  | nil => rfl
  | cons c cs ih => simp only [cv, List.cons_append, ih]

theorem cv_one (cs : List Clu) : ∀ u ∈ cv cs, u.oneCell' = true := by
  induction cs with
  | nil => intro u hu; simp [cv] at hu
  | cons c cs ih =>
    intro u hu
    simp only [cv, List.mem_cons] at hu
    rcases hu with rfl | rfl | rfl | h
    · rfl
    · rfl
    · rfl
    · exact ih u h

theorem cluF_cons (c : Clu) (cs : List Clu) (j : Nat) : cluF (c :: cs) (j + 3) = cluF cs j := by
  unfold cluF
  rw [show (j + 3) % 3 = j % 3 by omega, show (j + 3) / 3 = j / 3 + 1 by omega]
  rfl

theorem cv_get (cs : List Clu) (j : Nat) (hj : j < cs.length * 3) : (cv cs)[j]? = some (cluF cs j) := by
  induction cs generalizing j with
  | nil => simp at hj
  | cons c cs ih =>
    rcases j with _ | _ | _ | j
    · rfl
    · rfl
    · rfl
    · rw [cluF_cons]
      exact ih j (by rw [List.length_cons] at hj; omega)

/-- A list of clues that lies somewhere. -/
structure PartC (w : World) (a : Addr) (n : Nat) (vs : List Value) : Prop where
  len : vs.length = n * 3
  lt : a.block < w.heap.size
  at_ : ∀ j u, vs[j]? = some u → w.cell? (a.add j) = some u
  one : ∀ u ∈ vs, u.oneCell' = true

theorem add_blockC (a : Addr) (j : Nat) : (a.add j).block = a.block := by unfold Addr.add; split <;> rfl

theorem PartC.below {w w' : World} {a : Addr} {n B : Nat} {vs : List Value} (h : PartC w a n vs) (hb : Below B w w') (hB : w.heap.size ≤ B) : PartC w' a n vs :=
  ⟨h.len, Nat.lt_of_lt_of_le h.lt hb.size, fun j u hj => by rw [hb.cell (p := a.add j) (by rw [add_blockC]; have := h.lt; omega)]; exact h.at_ j u hj, h.one⟩

theorem part_of {w : World} {b off n : Nat} {cs : List Clu} (h : ArgC w (some ⟨b, off, none⟩) n cs) (hb : b < w.heap.size) : PartC w ⟨b, off, none⟩ n (cv cs) := by
  refine ⟨by rw [cv_length, h.len], hb, fun j u hj => ?_, cv_one cs⟩
  have hlt : j < cs.length * 3 := by
    rw [← cv_length]
    rcases Nat.lt_or_ge j (cv cs).length with h1 | h1
    · exact h1
    · rw [List.getElem?_eq_none h1] at hj; cases hj
  rw [cv_get cs j hlt] at hj
  cases hj
  have hn := h.len
  obtain ⟨b', off', e, _, hc⟩ := h.at_.resolve_left (by omega)
  cases e
  obtain ⟨c0, c1, c2⟩ := hc (j / 3) (by omega)
  rw [show (⟨b, off, none⟩ : Addr).add j = ⟨b, off + j, none⟩ by simp [Addr.add]]
  have h3 : j = j / 3 * 3 ∨ j = j / 3 * 3 + 1 ∨ j = j / 3 * 3 + 2 := by omega
  generalize j / 3 = q at c0 c1 c2 h3
  rcases h3 with rfl | rfl | rfl
  · rw [c0, cluF_0]
  · rw [← Nat.add_assoc, c1, cluF_1]
  · rw [← Nat.add_assoc, c2, cluF_2]

theorem argC_head {w : World} {A : Option Addr} {n k : Nat} {cs : List Clu} (h : ArgC w A n cs) (hk : k ≤ n) : ArgC w A k (cs.take k) := by
  refine ⟨by rw [List.length_take, h.len]; omega, ?_⟩
  rcases h.at_ with h0 | ⟨b, off, e, hb, hc⟩
  · exact .inl (by omega)
  · refine .inr ⟨b, off, e, hb, fun j hj => ?_⟩
    have e2 : (cs.take k).getD j cu0 = cs.getD j cu0 := by simp only [List.getD, List.getElem?_take, if_pos hj]
    rw [e2]
    exact hc j (by omega)

theorem argC_tail {w : World} {b off n k : Nat} {cs : List Clu} (h : ArgC w (some ⟨b, off, none⟩) n cs) (hk : k ≤ n) : ArgC w (some ⟨b, off + k * 3, none⟩) (n - k) (cs.drop k) := by
  refine ⟨by rw [List.length_drop, h.len], ?_⟩
  rcases h.at_ with h0 | ⟨b', off', e, hb, hc⟩
  · exact .inl (by omega)
  · cases e
    refine .inr ⟨b, off + k * 3, rfl, hb, fun j hj => ?_⟩
    obtain ⟨c0, c1, c2⟩ := hc (k + j) (by omega)
    rw [show (cs.drop k).getD j cu0 = cs.getD (k + j) cu0 by simp only [List.getD, List.getElem?_drop]]
    rw [show off + k * 3 + j * 3 = off + (k + j) * 3 by omega]
    exact ⟨c0, c1, c2⟩

/-- What lies behind an index, where the program's slice of it points. -/
theorem part_tail {w : World} {b off n k : Nat} {cs : List Clu} (h : ArgC w (some ⟨b, off, none⟩) n cs) (hb : b < w.heap.size) (hk : k ≤ n) :
    ∃ a1 : Addr, (if n = k then some (⟨b, off, none⟩ : Addr) else some ⟨b, off + k * 3, none⟩) = some a1 ∧ PartC w a1 (n - k) (cv (cs.drop k)) := by
  by_cases he : n = k
  · refine ⟨_, if_pos he, ?_⟩
    have h0 : cs.drop k = [] := by rw [← he, ← h.len, List.drop_length]
    rw [h0, show n - k = 0 by omega]
    exact ⟨rfl, hb, fun j u hj => by simp [cv] at hj, fun u hu => by simp [cv] at hu⟩
  · exact ⟨_, if_neg he, part_of (argC_tail h hk) hb⟩

/-- A row of clues of the call's own. -/
theorem own_kc {w : World} {B : Nat} {v : Value} {cs : List Clu} {n : Nat} (h : w.ownsRow B 37 3 v n (cv cs)) (hl : cs.length = n) : ∃ A c, v = .slice A n c ∧ KC w B w.heap.size A n (cluF cs) := by
  rcases Nat.eq_zero_or_pos n with h0 | h0
  · subst h0
    rcases h.2 with ⟨rfl, _⟩ | ⟨g, cap, cur, rfl, _⟩
    · exact ⟨none, 0, rfl, .inl rfl⟩
    · exact ⟨_, cap, rfl, .inl rfl⟩
  · obtain ⟨g, c, rfl, hb, hlt⟩ := h.form h0
    refine ⟨_, c, rfl, .inr ⟨g, rfl, hb, hlt, hlt, fun j hj => ⟨?_, h.frozenAt j⟩⟩⟩
    rw [h.cellAt j (by omega)]
    exact cv_get cs j (by omega)

set_option maxHeartbeats 2000000 in
theorem growC_any (n : Nat) (hn : n ≤ 1000) (w : World) :
    Calls Try.prog 50 #[.slice none 0 0, .int .i64 n] w fun e w' => ∃ v, e = .returned v ∧ w'.ownsRow w.heap.size 37 3 v 0 [] ∧ Below w.heap.size w w' := by
  by_cases h0 : n = 0
  · subst h0
    go_enter Try.func50, Try.ntmps50
    go_wp2_with fail
    go_ret
    exact ⟨_, rfl, World.ownsRow_nil _ _ _ _, Below.refl _ _⟩
  obtain ⟨i0, hi, hy0, hy1, hy2⟩ := info_parts info_clue
  have h0 : 0 < n := by omega
  have HR := Lib.hid (fun W : World => Lib.run_append_nil_zeros (P := Try.prog) W 31 3 31 37 i0 (.agg #[.int .i64 0, .int .i64 0, .int .i64 0]) .i64 .i64 Try.underlying31 Try.underlying3 hi hy0 n h0 (by omega) (by omega) (by rw [hy2]; omega))
  go_enter Try.func50, Try.ntmps50
  go_wp2_with (at_builtin; refine Lib.wpList_append_run _ rfl _ _ 31 3 rfl (.slice none 0 0) (.int .i64 n) rfl rfl _ _ (HR.out _) ?_)
  go_ret
  refine ⟨_, rfl, ?_, ?_⟩
  · exact World.ownsRow_made _ _ _ (Nat.le_refl _) (grownCap_le_maxLen _ _ _ _ (by unfold maxLen; omega)) (by rw [Array.size_append, size_zeroCells, size_zeroCells]; have := grownCap_ge w n 0 37; simp; omega)
  · (repeat (first | assumption | exact Below.refl _ _ | (refine Below.alloc ?_ (by first | omega | (simp; done) | (simp; omega)) _) | (refine Below.setCell ?_ (by first | omega | (simp; done) | (simp; omega)) _) | refine bel_drewN ?_ _ | refine bel_drew ?_ | (refine bel_call ?_ (by assumption))))

def twoFC (x y : Value) (j : Nat) : Value := (#[x, y] : Array Value).toList.getD j undef

set_option maxHeartbeats 4000000 in
theorem concatC_any (g : Nat) (a0 a1 : Addr) (n0 c0 n1 c1 cp : Nat) (v0 v1 : List Value) (w : World) (hn : n0 + n1 ≤ 1000) (hC : Cells w g 2 (twoFC (.slice (some a0) n0 c0) (.slice (some a1) n1 c1))) (hp0 : PartC w a0 n0 v0) (hp1 : PartC w a1 n1 v1) :
    Calls Try.prog 33 #[.slice (some ⟨g, 0, none⟩) 2 cp] w fun e w' => ∃ v, e = .returned v ∧ w'.ownsRow w.heap.size 37 3 v (n0 + n1) (v0 ++ v1) ∧ Below w.heap.size w w' := by
  obtain ⟨i0, hi, hy0, hy1, hy2⟩ := info_parts info_clue
  have HC := Lib.hid hC
  have P0 := Lib.hid hp0
  have P1 := Lib.hid hp1
  have x0 : w.cell? ⟨g, 0, none⟩ = some (.slice (some a0) n0 c0) := hC.cell (show 0 < 2 by omega)
  have x1 : w.cell? ⟨g, 1, none⟩ = some (.slice (some a1) n1 c1) := hC.cell (show 1 < 2 by omega)
  clear hC hp0 hp1
  go_enter Try.func33, Try.ntmps33
  go_wp2_with fail
  go_loop [3, 11] (fun s i => (i = .int .i64 0 ∧ s = .int .i64 0) ∨ (i = .int .i64 1 ∧ s = .int .i64 n0) ∨ (i = .int .i64 2 ∧ s = .int .i64 ((n0 : Int) + n1))) (fun _ i => 2 - (intOf i).toNat)
  case atStart => exact .inl ⟨rfl, rfl⟩
  case round =>
    rcases hrel with ⟨rfl, rfl⟩ | ⟨rfl, rfl⟩ | ⟨rfl, rfl⟩
    · go_wp2_with fail
      go_round
      case rel => exact .inr (.inl ⟨rfl, rfl⟩)
      case measure => decide
    · go_wp2_with fail
      go_round
      case rel => exact .inr (.inr ⟨rfl, rfl⟩)
      case measure => decide
    · obtain ⟨N, hN⟩ : ∃ N, n0 + n1 = N := ⟨_, rfl⟩
      have HN := Lib.hid hN
      have hNi : (n0 : Int) + (n1 : Int) = (N : Int) := by omega
      rw [hNi]
      have hn0 : n0 ≤ 1000 := by omega
      have hn1 : n0 + n1 ≤ 1000 := by omega
      rw [hN] at hn
      clear hNi hN x0 x1
      go_wp2_with (go_at_call 50; refine (growC_any N hn _).mono ?_; rintro e w1 ⟨v, rfl, hO, hb⟩)
      have HCW := Lib.hid (HC.out.call hb)
      have Q0 := Lib.hid (P0.out.below hb (Nat.le_refl _))
      have Q1 := Lib.hid (P1.out.below hb (Nat.le_refl _))
      have hs1 := hb.size
      go_loopw [6, 27] (fun v i wr => ((i = .int .i64 0 ∧ wr.ownsRow w.heap.size 37 3 v 0 []) ∨ (i = .int .i64 1 ∧ wr.ownsRow w.heap.size 37 3 v n0 v0) ∨ (i = .int .i64 2 ∧ wr.ownsRow w.heap.size 37 3 v (n0 + n1) (v0 ++ v1))) ∧ Below w.heap.size w wr) (fun _ i _ => 2 - (intOf i).toNat)
      case atStart => exact ⟨.inl ⟨rfl, hO⟩, hb⟩
      case round =>
        clear hO hb hs1 HCW Q0 Q1
        obtain ⟨hrel, hB⟩ := hrel
        have Q0 := Lib.hid (P0.out.below hB (Nat.le_refl _))
        have Q1 := Lib.hid (P1.out.below hB (Nat.le_refl _))
        have HCR := Lib.hid (HC.out.call hB)
        have hsz := hB.size
        have x0 : wr.cell? ⟨g, 0, none⟩ = some (.slice (some a0) n0 c0) := HCR.out.cell (show 0 < 2 by omega)
        have x1 : wr.cell? ⟨g, 1, none⟩ = some (.slice (some a1) n1 c1) := HCR.out.cell (show 1 < 2 by omega)
        rcases hrel with ⟨rfl, hO⟩ | ⟨rfl, hO⟩ | ⟨rfl, hO⟩
        · have HO := Lib.hid hO
          clear hO
          go_wp2_with (at_builtin; refine wpList_append_own _ rfl _ _ 31 rfl w.heap.size 37 i0 (.agg #[.int .i64 0, .int .i64 0, .int .i64 0]) 3 24 Try.underlying31 hi hy0 hy1 hy2 rfl (by decide) _ _ _ rfl HO.out a0 n0 c0 v0 rfl (by rw [Q0.out.len]) Q0.out.at_ Q0.out.one (by unfold maxLen; omega) (by omega) hsz ?_; intro v' w2 hown' hgrow hiff; clear hiff)
          have HB2 := Lib.hid (hB.grown hgrow hsz (fun j hj => (HO.out.lt j hj).1))
          have HO2 := Lib.hid hown'
          clear hown' hgrow
          go_roundw
          case rel => exact ⟨.inr (.inl ⟨rfl, by simpa using HO2.out⟩), HB2.out⟩
          case measure => decide
        · have HO := Lib.hid hO
          clear hO
          go_wp2_with (at_builtin; refine wpList_append_own _ rfl _ _ 31 rfl w.heap.size 37 i0 (.agg #[.int .i64 0, .int .i64 0, .int .i64 0]) 3 24 Try.underlying31 hi hy0 hy1 hy2 rfl (by decide) _ _ _ rfl HO.out a1 n1 c1 v1 rfl (by rw [Q1.out.len]) Q1.out.at_ Q1.out.one (by unfold maxLen; omega) (by omega) hsz ?_; intro v' w2 hown' hgrow hiff; clear hiff)
          have HB2 := Lib.hid (hB.grown hgrow hsz (fun j hj => (HO.out.lt j hj).1))
          have HO2 := Lib.hid hown'
          clear hown' hgrow
          go_roundw
          case rel => exact ⟨.inr (.inr ⟨rfl, HO2.out⟩), HB2.out⟩
          case measure => decide
        · go_wp2_with fail
          go_ret
          exact ⟨_, rfl, by rw [← HN.out]; exact hO, hB⟩

theorem step_appC {P : Program} {ops : Array Oper} {o : Oper} {a : Act} {w : World} {K : Act → World → Prop} {Q : Exit → Act → World → Prop} {E : Prop}
    (hg : o.guard = none) (s x : Operand) (t : TypeId) (hop : o.op = Op.call { callee := Callee.builtin Builtin.append, args := #[s, x], argTypes := #[t, t] })
    (base : Nat) (e : TypeId) (i : TypeInfo) (z : Value) (size bytes : Nat) (h1 : P.underlying t = some (.slice e)) (h2 : P.info? e = some i) (h3 : i.zero = some z) (h4 : i.size = size) (h5 : i.bytes = bytes) (h6 : z.cells.size = size) (h7 : 0 < size)
    (v : Value) (n : Nat) (xs : List Value) (hs : a.eval s = v) (hown : w.ownsRow base e size v n xs)
    (ad : Addr) (m c : Nat) (news : List Value) (hx : a.eval x = .slice (some ad) m c) (hn : news.length = m * size) (hc : ∀ j u, news[j]? = some u → w.cell? (ad.add j) = some u) (h1c : ∀ u ∈ news, u.oneCell' = true)
    (b1 : n + m ≤ maxLen) (b2 : (n + m) * bytes ≤ 140737488355328) (hbase : base ≤ w.heap.size)
    (hK : ∀ v' w', w'.ownsRow base e size v' (n + m) (xs ++ news) → w.grownBy w' v.ownBlock → K (a.put o.dst v') w') :
    if Region.wanted o (yielded ops a.tmps) = true then Oper.wp P o a w K Q else E := by
  have hw : Region.wanted o (yielded ops a.tmps) = true := by simp [Region.wanted, hg]
  rw [if_pos hw]
  obtain ⟨v', w', hrun, r1, r2, _⟩ := run_append_own (P := P) w base t o.type e i z size bytes h1 h2 h3 h4 h5 h6 h7 v n xs hown ad m c news hn hc h1c b1 b2 hbase
  unfold Oper.wp
  simp [execOp, hop, resolve, invoke, builtin, hs, hx, hrun, Result.andThen]
  exact hK v' w' r1 r2

set_option maxRecDepth 100000 in
theorem slice_headC (bk off n c k : Nat) (h : k ≤ c) (W : World) : (Instr.slice 31 (.slice (some ⟨bk, off, none⟩) n c) none (some (.int .i64 (k : Int))) none).run Try.prog W = .ok (.slice (some ⟨bk, off, none⟩) k c) W := by
  rw [run_slice_h (P := Try.prog) W 31 (some ⟨bk, off, none⟩) n c Try.underlying31 .i64 (k : Int) (by omega) (by omega)]
  simp [go_sem, sliced]

set_option maxRecDepth 100000 in
theorem slice_tailC {bk off n c k : Nat} {a1 : Addr} (h : k ≤ n) (ha : (if c = k then some (⟨bk, off, none⟩ : Addr) else some ⟨bk, off + k * 3, none⟩) = some a1) (W : World) :
    (Instr.slice 31 (.slice (some ⟨bk, off, none⟩) n c) (some (.int .i64 (k : Int))) none none).run Try.prog W = .ok (.slice (some a1) (n - k) (c - k)) W := by
  rw [run_slice_l (P := Try.prog) W 31 (some ⟨bk, off, none⟩) n c Try.underlying31 .i64 (k : Int) (by omega) (by omega)]
  by_cases he : c = k
  · rw [if_pos he] at ha
    cases ha
    simp [go_sem, sliced, he]
  · rw [if_neg he] at ha
    cases ha
    simp [go_sem, sliced, he, Addr.add]

/-- The clues but one. -/
def woC (cs : List Clu) (k : Nat) : List Clu := cs.take k ++ cs.drop (k + 1)

theorem woC_length {cs : List Clu} {n k : Nat} (h : cs.length = n) (hk : k < n) : (woC cs k).length = n - 1 := by unfold woC; rw [List.length_append, List.length_take, List.length_drop, h]; omega

set_option maxRecDepth 100000 in
set_option maxHeartbeats 4000000 in
theorem pzWithout_any (g n k : Nat) (cs : List Clu) (w : World) (hn : n ≤ 6) (hk : k < n) (hA : ArgC w (some ⟨g, 0, none⟩) n cs) :
    Calls Try.prog 31 #[.slice (some ⟨g, 0, none⟩) n n, .int .i64 (k : Int)] w fun e w' => ∃ v, e = .returned v ∧ w'.ownsRow w.heap.size 37 3 v (n - 1) (cv (woC cs k)) ∧ Below w.heap.size w w' := by
  have hg : g < w.heap.size := by
    obtain ⟨b', off', e, hb, _⟩ := hA.at_.resolve_left (by omega)
    cases e
    exact hb
  obtain ⟨a1, ha1, hp1⟩ := part_tail (k := k + 1) hA hg (by omega)
  have P0 := Lib.hid (part_of (argC_head (k := k) hA (by omega)) hg)
  have P1 := Lib.hid hp1
  obtain ⟨i0, hi, hy0, hy1, hy2⟩ := info_parts info_clue
  have hs0 := slice_headC g 0 n n k (by omega)
  have hs1 := slice_tailC (bk := g) (off := 0) (n := n) (c := n) (k := k + 1) (a1 := a1) (by omega) ha1
  rw [show ((k + 1 : Nat) : Int) = (k : Int) + 1 by omega] at hs1
  have hwk : IntKind.i64.wrap ((k : Int) + 1) = (k : Int) + 1 := by rw [IntKind.wrap_i64]; omega
  have HN5 : Hid (k + (n - (k + 1)) = n - 1) := Lib.hid (by omega)
  have HO0 := Lib.hid (own_keeps (World.ownsRow_made (base := w.heap.size) (e := 37) (size := 3) w #[] 0 (Nat.le_refl _) (by unfold maxLen; omega) rfl) (bel_drew (Below.refl _ _)))
  have HB0 := Lib.hid (bel_drew ((Below.refl w.heap.size w).alloc (Nat.le_refl _) (.cells #[] 37)))
  clear hA hp1 ha1
  go_enter Try.func31, Try.ntmps31
  go_wp2_with fail
  go_region_law (first
    | (refine step_appC rfl (.tmp 5) (.tmp 8) 31 rfl w.heap.size 37 i0 (.agg #[.int .i64 0, .int .i64 0, .int .i64 0]) 3 24 Try.underlying31 hi hy0 hy1 hy2 rfl (by decide) _ 0 [] rfl HO0.out ⟨g, 0, none⟩ k n (cv (cs.take k)) rfl P0.out.len (P0.out.below HB0.out (Nat.le_refl _)).at_ P0.out.one (by unfold maxLen; omega) (by omega) (by simp) ?_; intro v4 w4 hown4 hgrow4
       have HO4 := Lib.hid hown4
       have HB4 : Hid (Below w.heap.size w w4) := Lib.hid (HB0.out.grown hgrow4 HB0.out.size (fun j hj => (HO0.out.lt j hj).1))
       clear hown4 hgrow4)
    | (refine step_appC rfl (.tmp 9) (.tmp 13) 31 rfl w.heap.size 37 i0 (.agg #[.int .i64 0, .int .i64 0, .int .i64 0]) 3 24 Try.underlying31 hi hy0 hy1 hy2 rfl (by decide) v4 (0 + k) ([] ++ cv (cs.take k)) rfl HO4.out a1 (n - (k + 1)) (n - (k + 1)) (cv (cs.drop (k + 1))) rfl P1.out.len (P1.out.below HB4.out (Nat.le_refl _)).at_ P1.out.one (by unfold maxLen; omega) (by omega) HB4.out.size ?_; intro v5 w5 hown5 hgrow5
       have HO5 := Lib.hid hown5
       have HB5 : Hid (Below w.heap.size w w5) := Lib.hid (HB4.out.grown hgrow5 HB4.out.size (fun j hj => (HO4.out.lt j hj).1))
       clear hown5 hgrow5))
  all_goals
    go_wp2_with fail
    go_ret
    refine ⟨_, rfl, ?_, HB5.out⟩
    have := HO5.out
    rw [List.nil_append, ← cv_app, Nat.zero_add, HN5.out] at this
    exact this

theorem KC.far {w : World} {lo hi : Nat} {A : Option Addr} {n : Nat} {f : Nat → Value} {p : Addr} (h : KC w lo hi A n f) (hp : p.block < lo) (x : Value) : KC (w.setCell p x) lo hi A n f :=
  h.imp id fun ⟨g, e, h1, h2, hC⟩ => ⟨g, e, h1, h2, hC.far (by omega) x⟩

end Go.Proofs.Ytgopaflggbgplaa
