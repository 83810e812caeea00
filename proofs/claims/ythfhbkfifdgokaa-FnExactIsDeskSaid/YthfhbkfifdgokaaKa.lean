/- A desk among the arguments, opened, its size told, copied and compared by the law; whether it is one. No conditions beyond those of each lemma. -/
import Derived.Test.YthfhbkfifdgokaaKi
namespace Go.Proofs.Ythfhbkfifdgokaa
open Go.ChangeShapes Go.WideShapes Go.ChangeAt Go.RowKit Go.Joins

theorem array4 {cs : Array Value} (h : cs.size = 4) : ∃ a b c d, cs = #[a, b, c, d] := by
  obtain ⟨l⟩ := cs
  match l, h with
  | [a, b, c, d], _ => exact ⟨a, b, c, d, rfl⟩

theorem cellsInt : Try.prog.cellsOf 3 = 1 := by kernel_rfl

theorem Cells.new {W : World} {cs : Array Value} {t : TypeId} {g n : Nat} (hg : g = W.heap.size) (hn : n = cs.size) : Cells (W.alloc (.cells cs t)) g n (fun j => cs.toList.getD j undef) := by
  subst hg hn
  refine ⟨by simp, fun j hj => ?_⟩
  rw [World.cell?_alloc_new, World.frozen?_alloc_new]
  refine ⟨?_, rfl⟩
  simp [List.getD, hj]

theorem cellsLawDesk : Try.prog.cellsOf 33 = 4 := by kernel_rfl
theorem cellsStrs : Try.prog.cellsOf 24 = 1 := by kernel_rfl
theorem cellsStr : Try.prog.cellsOf 9 = 1 := by kernel_rfl

set_option maxRecDepth 100000 in
theorem open_desk {H : Type} {enc : TypeId × Value → H} {W : World} {b0 : Nat} {held : Bool} {v : Value} {d : DataW H} {p : List MemPlace}
    (hv : Value.okWide Try.prog W .any b0 33 v) (h : DataW.Trod enc Try.prog W 0 (fun _ => true) held 33 v d p) :
    ∃ (a b : Int) (s : ByteArray) (A : Option Addr) (n c : Nat) (ts : List ByteArray), v = .agg #[.int .i64 a, .int .i64 b, .string s, .slice A n c] ∧ (Lit.int .i64 a).wf = true ∧ (Lit.int .i64 b).wf = true ∧ s.size ≤ maxLen ∧ ArgS W A n ts ∧ n ≤ maxLen := by
  obtain ⟨cs, rfl, hsz⟩ := okWide_struct Try.underlying33 hv
  obtain ⟨c0, c1, c2, c3, rfl⟩ := array4 (hsz.trans cellsLawDesk)
  obtain ⟨fuel, hf⟩ := h
  obtain ⟨xs, m, _, hx, hcl, hxl, hfs⟩ := DataW.trod_struct Try.underlying33 hf
  obtain ⟨x0, x1, x2, rfl⟩ : ∃ x0 x1 x2, xs = [x0, x1, x2] := by
    match xs, hxl with
    | [x0, x1, x2], _ => exact ⟨x0, x1, x2, rfl⟩
  have e0 : DataW.trod enc Try.prog W 0 (fun _ => true) held m 31 [c0, c1] = some x0 := by simpa [Try.cellsLawLock, Value.cells] using hfs 0 _ rfl
  have e1 : DataW.trod enc Try.prog W 0 (fun _ => true) held m 9 [c2] = some x1 := by simpa [cellsStr, Value.cells] using hfs 1 _ rfl
  have e2 : DataW.trod enc Try.prog W 0 (fun _ => true) held m 24 [c3] = some x2 := by simpa [cellsStrs, Value.cells] using hfs 2 _ rfl
  obtain ⟨y0, y1, k, _, _, f0, f1⟩ := trod_struct2 Try.underlying31 e0
  have f0' : DataW.trod enc Try.prog W 0 (fun _ => true) held k 3 [c0] = some y0 := by simpa [cellsInt] using f0
  have f1' : DataW.trod enc Try.prog W 0 (fun _ => true) held k 3 [c1] = some y1 := by simpa [cellsInt] using f1
  obtain ⟨a, ea, _, wa⟩ := DataW.trod_int Try.underlying3 f0'
  obtain ⟨b, eb, _, wb⟩ := DataW.trod_int Try.underlying3 f1'
  obtain ⟨s, es, _, hs⟩ := DataW.trod_string Try.underlying9 e1
  simp at ea eb es
  subst ea eb es
  rcases open_strings Try.underlying24 Try.underlying9 (by kernel_rfl) e2 with ⟨hcs, _⟩ | ⟨ad, len, cap, ss, hcs, _, hl, hm, hlen, _, hat, hzz⟩
  · simp at hcs
    subst hcs
    exact ⟨a, b, s, none, 0, 0, [], rfl, wa, wb, hs, ⟨rfl, .inl rfl, fun k hk => by omega⟩, by unfold maxLen; omega⟩
  · simp at hcs
    subst hcs
    have hsl : len ≤ ss.length := by rw [hlen]; show len ≤ cap; omega
    have hg : ∀ k, k < len → (ss.take len).getD k ByteArray.empty = ss.getD k ByteArray.empty := fun k hk => by simp only [List.getD, List.getElem?_take, if_pos hk]
    have hsz' : ∀ k, k < len → ((ss.take len).getD k ByteArray.empty).size ≤ maxLen := fun k hk => by
      rw [hg k hk]
      have : ss.getD k ByteArray.empty = ss[k]'(by omega) := by simp [List.getD, List.getElem?_eq_getElem (show k < ss.length by omega)]
      rw [this]
      exact hzz _ (List.getElem_mem _)
    refine ⟨a, b, s, some ad, len, cap, ss.take len, rfl, wa, wb, hs, ⟨by simp; omega, ?_, hsz'⟩, by omega⟩
    rcases Nat.eq_zero_or_pos len with h0 | h0
    · exact .inl h0
    · obtain ⟨bk, off, spot⟩ := ad
      have h1 := hat 0 (by omega)
      have hs : spot = none := by simpa [Addr.add] using World.cell?_spot h1
      subst hs
      have hb := World.block_lt_of_cell? _ _ h1
      refine .inr ⟨bk, off, rfl, by simpa [Addr.add] using hb, fun k hk => ?_⟩
      have ad : (⟨bk, off, none⟩ : Addr).add k = ⟨bk, off + k, none⟩ := by unfold Addr.add; split <;> simp_all
      rw [hg k hk, ← ad]
      exact hat k (by omega)

/-- A desk's four cells. -/
def g4D (a b : Int) (s : ByteArray) (v : Value) (j : Nat) : Value := (#[.int .i64 a, .int .i64 b, .string s, v] : Array Value).toList.getD j undef

/-- The size of a list of texts, of what is left. -/
theorem szStringS_from (z0 : Int) (A : Option Addr) (n c : Nat) (ts : List ByteArray) (w : World) (hn : n ≤ maxLen) (h0 : 0 ≤ z0) (h1 : z0 ≤ 1048576) (hA : ArgS w A n ts) :
    Calls Try.prog 18 #[.slice A n c, .int .i64 z0] w (SzOut w n) := by
  unfold maxLen at hn
  by_cases h : (n : Int) ≤ z0
  · rcases hA.at_ with h0 | ⟨b, off, rfl, hb, hc⟩
    · subst h0
      clear hA
      have hz : ¬ z0 < 0 := by omega
      go_enter Try.func18, Try.ntmps18
      go_wp2_with fail
      go_loop [1, 5] (fun r i => i = .int .i64 0 ∧ r = .int .i64 z0) (fun _ _ => 0)
      case atStart => exact ⟨rfl, by first | rfl | (congr 1; omega)⟩
      case round =>
        obtain ⟨rfl, rfl⟩ := hrel
        go_wp2_with fail
        go_ret
        exact ⟨z0, rfl, by omega, by omega, fun _ => by omega, Below.refl _ _⟩
    · have HC := Lib.hid hc
      have HZ := Lib.hid hA.sz
      have hwz : IntKind.i64.wrap (z0 - (n : Int)) = z0 - (n : Int) := by rw [IntKind.wrap_i64]; omega
      have hz : ¬ z0 - (n : Int) < 0 := by omega
      clear hc hA
      go_enter Try.func18, Try.ntmps18
      go_wp2_with fail
      clear hwz hz
      go_loopw [1, 5] (fun r i wr => ∃ (k : Nat) (z : Int), k ≤ n ∧ i = .int .i64 k ∧ r = .int .i64 z ∧ 0 ≤ z ∧ z ≤ 1048576 ∧ Below w.heap.size w wr) (fun _ i _ => n - (intOf i).toNat)
      case atStart => exact ⟨0, z0 - (n : Int), by omega, rfl, by first | rfl | (congr 1; omega), by omega, by omega, Below.refl _ _⟩
      case round =>
        obtain ⟨k, z, hk, rfl, rfl, hz0, hz1, hB⟩ := hrel
        by_cases hlt : k < n
        · have o1 : wr.cell? ⟨b, off + k, none⟩ = some (.string (ts.getD k ByteArray.empty)) := by rw [hB.cell (p := ⟨b, off + k, none⟩) hb]; exact HC.out k hlt
          have hs := HZ.out k hlt
          unfold maxLen at hs
          generalize ts.getD k ByteArray.empty = s at o1 hs
          by_cases hneg : z - (s.size : Int) < 0
          · go_wp2_with fail
            go_ret
            exact ⟨-1, rfl, by omega, by omega, fun _ => by omega, hB⟩
          · go_wp2_with fail
            go_roundw
            case rel => exact ⟨k + 1, z - (s.size : Int), by omega, by go_num, by first | rfl | (congr 1; omega), by omega, by omega, hB⟩
            case measure => simp [intOf]; omega
        · go_wp2_with fail
          go_ret
          exact ⟨z, rfl, by omega, by omega, fun _ => by omega, hB⟩
  · have hneg : z0 - (n : Int) < 0 := by omega
    have hwz : IntKind.i64.wrap (z0 - (n : Int)) = z0 - (n : Int) := by rw [IntKind.wrap_i64]; omega
    go_enter Try.func18, Try.ntmps18
    go_wp2_with fail
    go_ret
    exact ⟨-1, rfl, by omega, by omega, fun h => by omega, Below.refl _ _⟩

theorem szDesk_any (a b : Int) (s : ByteArray) (A : Option Addr) (n c : Nat) (ts : List ByteArray) (w : World) (hn : n ≤ maxLen) (hs : s.size ≤ maxLen) (hA : ArgS w A n ts) :
    Calls Try.prog 10 #[.agg #[.int .i64 a, .int .i64 b, .string s, .slice A n c], .int .i64 1048576] w (SzOut w n) := by
  have HB := Lib.hid ((Below.refl w.heap.size w).alloc (Nat.le_refl _) (.cells #[.int .i64 a, .int .i64 b, .string s, .slice A n c] 33))
  have HA := Lib.hid (hA.below HB.out)
  have HN := Lib.hid hn
  unfold maxLen at hs
  have hw : IntKind.i64.wrap (1048576 - (s.size : Int)) = 1048576 - (s.size : Int) := by rw [IntKind.wrap_i64]; omega
  clear hA hn
  by_cases h : 1048576 - (s.size : Int) < 0
  · go_enter Try.func10, Try.ntmps10
    go_wp2_with fail
    go_ret
    exact ⟨-1, rfl, by omega, by omega, fun h => by omega, HB.out⟩
  · go_enter Try.func10, Try.ntmps10
    go_wp2_with fail
    refine (szStringS_from _ _ _ _ ts _ HN.out (by omega) (by omega) HA.out).mono ?_
    rintro e w1 ⟨r, rfl, hr1, hr2, hr3, hb1⟩
    have HB1 := Lib.hid (bel_call HB.out hb1)
    by_cases hneg : r < 0
    · go_wp2_with fail
      go_ret
      exact ⟨-1, rfl, by omega, by omega, fun h => by omega, HB1.out⟩
    · go_wp2_with fail
      go_ret
      exact ⟨r, rfl, hr1, hr2, hr3, HB1.out⟩

set_option maxHeartbeats 1000000 in
theorem toDesk_any (a b : Int) (s : ByteArray) (A : Option Addr) (n c : Nat) (ts : List ByteArray) (w : World) (hn : n ≤ 1048576) (hA : ArgS w A n ts) :
    Calls Try.prog 12 #[.agg #[.int .i64 a, .int .i64 b, .string s, .slice A n c]] w fun e w' => ∃ g, e = .returned (.agg #[.int .i64 a, .int .i64 b, .string s, .slice (some ⟨g, 0, none⟩) n n]) ∧ w.heap.size ≤ g ∧ Cells w' g n (strF ts) ∧ Below w.heap.size w w' := by
  have HA := Lib.hid hA
  clear hA
  obtain ⟨W0, hW0⟩ : ∃ W, ((w.alloc (.cells #[.int .i64 a, .int .i64 b, .string s, .slice A n c] 33)).alloc (.cells #[.int .i64 0, .int .i64 0, .string ⟨#[]⟩, .slice none 0 0] 26)).alloc (.cells #[.int .i64 0, .int .i64 0, .string ⟨#[]⟩, .slice none 0 0] 26) = W := ⟨_, rfl⟩
  have HU := Lib.hid (show Cells W0 w.heap.size 4 (g4D a b s (.slice A n c)) from hW0 ▸ ((Cells.new (W := w) (n := 4) rfl rfl).alloc _).alloc _)
  have HQ := Lib.hid (show Cells W0 (w.heap.size + 1) 4 (g4D 0 0 ⟨#[]⟩ (.slice none 0 0)) from hW0 ▸ (Cells.new (n := 4) (by simp) rfl).alloc _)
  have HT := Lib.hid (show Cells W0 (w.heap.size + 1 + 1) 4 (g4D 0 0 ⟨#[]⟩ (.slice none 0 0)) from hW0 ▸ Cells.new (n := 4) (by simp) rfl)
  have HB := Lib.hid (show Below w.heap.size w W0 from hW0 ▸ (by (repeat (first | assumption | exact Below.refl _ _ | (refine Below.alloc ?_ (by first | omega | (simp; done) | (simp; omega)) _) | (refine Below.setCell ?_ (by first | omega | (simp; done) | (simp; omega)) _) | refine bel_drewN ?_ _ | refine bel_drew ?_ | (refine bel_call ?_ (by assumption))))))
  have HW0 := Lib.hid hW0
  clear hW0
  go_enter Try.func12, Try.ntmps12
  go_wp2_with fail
  rw [HW0.out]
  refine (toLock_any _ _ _).mono ?_
  rintro e w1 ⟨rfl, hb1⟩
  have DU := Lib.hid (HU.out.call hb1)
  have DQ := Lib.hid (HQ.out.call hb1)
  have DT := Lib.hid (HT.out.call hb1)
  have HB1 := Lib.hid (bel_call HB.out hb1)
  obtain ⟨W2, hW2⟩ : ∃ W, ((w1.setCell ⟨w.heap.size + 1 + 1, 0, none⟩ (.int .i64 a)).setCell ⟨w.heap.size + 1 + 1, 1, none⟩ (.int .i64 b)).setCell ⟨w.heap.size + 1 + 1, 2, none⟩ (.string s) = W := ⟨_, rfl⟩
  have t0 : w1.cell? ⟨w.heap.size + 1 + 1, 0, none⟩ = some (.int .i64 0) := DT.out.cell (show 0 < 4 by omega)
  have t1 : w1.cell? ⟨w.heap.size + 1 + 1, 1, none⟩ = some (.int .i64 0) := DT.out.cell (show 1 < 4 by omega)
  have t2 : w1.cell? ⟨w.heap.size + 1 + 1, 2, none⟩ = some (.string ⟨#[]⟩) := DT.out.cell (show 2 < 4 by omega)
  have f0 := DT.out.frozen (show 0 < 4 by omega)
  have f1 := DT.out.frozen (show 1 < 4 by omega)
  have f2 := DT.out.frozen (show 2 < 4 by omega)
  have u2 : w1.cell? ⟨w.heap.size, 2, none⟩ = some (.string s) := DU.out.cell (show 2 < 4 by omega)
  have u3 : w1.cell? ⟨w.heap.size, 3, none⟩ = some (.slice A n c) := DU.out.cell (show 3 < 4 by omega)
  have HU2 := Lib.hid (show Cells W2 w.heap.size 4 (g4D a b s (.slice A n c)) from hW2 ▸ ((DU.out.far (by show w.heap.size + 1 + 1 ≠ w.heap.size; omega) _).far (by show w.heap.size + 1 + 1 ≠ w.heap.size; omega) _).far (by show w.heap.size + 1 + 1 ≠ w.heap.size; omega) _)
  have HQ2 := Lib.hid (show Cells W2 (w.heap.size + 1) 4 (g4D 0 0 ⟨#[]⟩ (.slice none 0 0)) from hW2 ▸ ((DQ.out.far (by show w.heap.size + 1 + 1 ≠ w.heap.size + 1; omega) _).far (by show w.heap.size + 1 + 1 ≠ w.heap.size + 1; omega) _).far (by show w.heap.size + 1 + 1 ≠ w.heap.size + 1; omega) _)
  have HT2 := Lib.hid (show Cells W2 (w.heap.size + 1 + 1) 4 (g4D a b s (.slice none 0 0)) from hW2 ▸ (((DT.out.set_ (show 0 < 4 by omega) _).set_ (show 1 < 4 by omega) _).set_ (show 2 < 4 by omega) _).congr (fun j hj => by
    have : j = 0 ∨ j = 1 ∨ j = 2 ∨ j = 3 := by omega
    rcases this with rfl | rfl | rfl | rfl <;> rfl))
  have HB2 := Lib.hid (show Below w.heap.size w W2 from hW2 ▸ ((HB1.out.setCell (p := ⟨w.heap.size + 1 + 1, 0, none⟩) (by show w.heap.size ≤ w.heap.size + 1 + 1; omega) _).setCell (p := ⟨w.heap.size + 1 + 1, 1, none⟩) (by show w.heap.size ≤ w.heap.size + 1 + 1; omega) _).setCell (p := ⟨w.heap.size + 1 + 1, 2, none⟩) (by show w.heap.size ≤ w.heap.size + 1 + 1; omega) _)
  have HW2 := Lib.hid hW2
  have hlt := HT2.out.lt
  have HLT := Lib.hid hlt
  clear hW2 hb1 hlt
  go_wp2_with fail
  rw [HW2.out]
  refine (toStringS_any _ _ _ ts _ hn (HA.out.below HB2.out)).mono ?_
  rintro e w3 ⟨rfl, hC, hb3⟩
  clear t0 t1 t2 f0 f1 f2 u2 u3
  obtain ⟨G, hG⟩ : ∃ G, W2.heap.size = G := ⟨_, rfl⟩
  have hGl : w.heap.size + 1 + 1 < G := by rw [← hG]; exact HLT.out
  rw [hG] at hC hb3 ⊢
  have HC := Lib.hid hC
  have hGe := HC.out.lt
  have KU := Lib.hid (HU2.out.below hb3 (by omega))
  have KQ := Lib.hid (HQ2.out.below hb3 (by omega))
  have KT := Lib.hid (HT2.out.below hb3 (by omega))
  have HB3 := Lib.hid (HB2.out.trans (hb3.mono (by omega)))
  clear hC hb3 hG
  have t0 : w3.cell? ⟨w.heap.size + 1 + 1, 0, none⟩ = some (.int .i64 a) := KT.out.cell (show 0 < 4 by omega)
  have t1 : w3.cell? ⟨w.heap.size + 1 + 1, 1, none⟩ = some (.int .i64 b) := KT.out.cell (show 1 < 4 by omega)
  have t2 : w3.cell? ⟨w.heap.size + 1 + 1, 2, none⟩ = some (.string s) := KT.out.cell (show 2 < 4 by omega)
  have t3 : w3.cell? ⟨w.heap.size + 1 + 1, 3, none⟩ = some (.slice none 0 0) := KT.out.cell (show 3 < 4 by omega)
  have f3 := KT.out.frozen (show 3 < 4 by omega)
  have q0 : w3.cell? ⟨w.heap.size + 1, 0, none⟩ = some (.int .i64 0) := KQ.out.cell (show 0 < 4 by omega)
  have q1 : w3.cell? ⟨w.heap.size + 1, 1, none⟩ = some (.int .i64 0) := KQ.out.cell (show 1 < 4 by omega)
  have q2 : w3.cell? ⟨w.heap.size + 1, 2, none⟩ = some (.string ⟨#[]⟩) := KQ.out.cell (show 2 < 4 by omega)
  have q3 : w3.cell? ⟨w.heap.size + 1, 3, none⟩ = some (.slice none 0 0) := KQ.out.cell (show 3 < 4 by omega)
  have p0 := KQ.out.frozen (show 0 < 4 by omega)
  have p1 := KQ.out.frozen (show 1 < 4 by omega)
  have p2 := KQ.out.frozen (show 2 < 4 by omega)
  have p3 := KQ.out.frozen (show 3 < 4 by omega)
  go_wp2_with fail
  refine bodyPost_ret (v := .agg #[.int .i64 a, .int .i64 b, .string s, .slice (some ⟨G, 0, none⟩) n n]) (by simp [results, Try.results12, go_sem, q0, q1, q2, q3]) rfl ?_
  refine ⟨G, rfl, by omega, ((((HC.out.far (p := ⟨w.heap.size + 1 + 1, 3, none⟩) (by show w.heap.size + 1 + 1 ≠ G; omega) _).far (p := ⟨w.heap.size + 1, 0, none⟩) (by show w.heap.size + 1 ≠ G; omega) _).far (p := ⟨w.heap.size + 1, 1, none⟩) (by show w.heap.size + 1 ≠ G; omega) _).far (p := ⟨w.heap.size + 1, 2, none⟩) (by show w.heap.size + 1 ≠ G; omega) _).far (p := ⟨w.heap.size + 1, 3, none⟩) (by show w.heap.size + 1 ≠ G; omega) _, ?_⟩
  exact ((((HB3.out.setCell (p := ⟨w.heap.size + 1 + 1, 3, none⟩) (by show w.heap.size ≤ w.heap.size + 1 + 1; omega) _).setCell (p := ⟨w.heap.size + 1, 0, none⟩) (by show w.heap.size ≤ w.heap.size + 1; omega) _).setCell (p := ⟨w.heap.size + 1, 1, none⟩) (by show w.heap.size ≤ w.heap.size + 1; omega) _).setCell (p := ⟨w.heap.size + 1, 2, none⟩) (by show w.heap.size ≤ w.heap.size + 1; omega) _).setCell (p := ⟨w.heap.size + 1, 3, none⟩) (by show w.heap.size ≤ w.heap.size + 1; omega) _

theorem eqLock_same (a b : Int) (w : World) :
    Calls Try.prog 14 #[.agg #[.int .i64 a, .int .i64 b], .agg #[.int .i64 a, .int .i64 b]] w fun e w' => e = .returned (.bool true) ∧ Below w.heap.size w w' := by
  go_enter Try.func14, Try.ntmps14
  go_wp2_with fail
  go_ret
  exact ⟨rfl, by (repeat (first | assumption | exact Below.refl _ _ | (refine Below.alloc ?_ (by first | omega | (simp; done) | (simp; omega)) _) | (refine Below.setCell ?_ (by first | omega | (simp; done) | (simp; omega)) _) | refine bel_drewN ?_ _ | refine bel_drew ?_ | (refine bel_call ?_ (by assumption))))⟩

theorem eqDesk_any (a b : Int) (s : ByteArray) (A1 A2 : Option Addr) (n c1 c2 B1 B2 : Nat) (ts : List ByteArray) (w : World) (h1 : OwnS w B1 A1 n ts) (h2 : OwnS w B2 A2 n ts) :
    Calls Try.prog 7 #[.agg #[.int .i64 a, .int .i64 b, .string s, .slice A1 n c1], .agg #[.int .i64 a, .int .i64 b, .string s, .slice A2 n c2]] w fun e w' => e = .returned (.bool true) ∧ Below w.heap.size w w' := by
  have H1 := Lib.hid h1
  have H2 := Lib.hid h2
  obtain ⟨W0, hW0⟩ : ∃ W, (w.alloc (.cells #[.int .i64 a, .int .i64 b, .string s, .slice A1 n c1] 26)).alloc (.cells #[.int .i64 a, .int .i64 b, .string s, .slice A2 n c2] 26) = W := ⟨_, rfl⟩
  have HU := Lib.hid (show Cells W0 w.heap.size 4 (g4D a b s (.slice A1 n c1)) from hW0 ▸ (Cells.new (W := w) (n := 4) rfl rfl).alloc _)
  have HQ := Lib.hid (show Cells W0 (w.heap.size + 1) 4 (g4D a b s (.slice A2 n c2)) from hW0 ▸ Cells.new (n := 4) (by simp) rfl)
  have HB := Lib.hid (show Below w.heap.size w W0 from hW0 ▸ (by (repeat (first | assumption | exact Below.refl _ _ | (refine Below.alloc ?_ (by first | omega | (simp; done) | (simp; omega)) _) | (refine Below.setCell ?_ (by first | omega | (simp; done) | (simp; omega)) _) | refine bel_drewN ?_ _ | refine bel_drew ?_ | (refine bel_call ?_ (by assumption))))))
  have HW0 := Lib.hid hW0
  clear hW0 h1 h2
  go_enter Try.func7, Try.ntmps7
  go_wp2_with fail
  rw [HW0.out]
  refine (eqLock_same _ _ _).mono ?_
  rintro e w1 ⟨rfl, hb1⟩
  have DU := Lib.hid (HU.out.call hb1)
  have DQ := Lib.hid (HQ.out.call hb1)
  have HB1 := Lib.hid (bel_call HB.out hb1)
  have u2 : w1.cell? ⟨w.heap.size, 2, none⟩ = some (.string s) := DU.out.cell (show 2 < 4 by omega)
  have u3 : w1.cell? ⟨w.heap.size, 3, none⟩ = some (.slice A1 n c1) := DU.out.cell (show 3 < 4 by omega)
  have q2 : w1.cell? ⟨w.heap.size + 1, 2, none⟩ = some (.string s) := DQ.out.cell (show 2 < 4 by omega)
  have q3 : w1.cell? ⟨w.heap.size + 1, 3, none⟩ = some (.slice A2 n c2) := DQ.out.cell (show 3 < 4 by omega)
  clear hb1
  go_wp2_with fail
  refine (eqStringS_gen _ _ _ _ _ _ _ ts _ (H1.out.keep HB1.out) (H2.out.keep HB1.out)).mono ?_
  rintro e w2 ⟨rfl, hb2⟩
  go_wp2_with fail
  go_ret
  exact ⟨rfl, bel_call HB1.out hb2⟩

theorem coGood_any (a b : Int) (s : ByteArray) (A : Option Addr) (n c : Nat) (ts : List ByteArray) (w : World) (hn : n ≤ maxLen) (hs : s.size ≤ maxLen) (hA : ArgS w A n ts) :
    Calls Try.prog 19 #[.agg #[.int .i64 a, .int .i64 b, .string s, .slice A n c]] w fun e w' => e = .returned (.bool (dkB a b ts s)) ∧ Below w.heap.size w w' := by
  have HB := Lib.hid ((Below.refl w.heap.size w).alloc (Nat.le_refl _) (.cells #[.int .i64 a, .int .i64 b, .string s, .slice A n c] 26))
  have HA := Lib.hid (hA.below HB.out)
  have HN := Lib.hid hn
  have HS := Lib.hid hs
  clear hA hn hs
  go_enter Try.func19, Try.ntmps19
  go_wp2_with (go_at_call 26; refine (deAsked_any _ _ _ _ _ ts _ _ HN.out HS.out HA.out).mono ?_; rintro e w1 ⟨rfl, hb1⟩)
  go_ret
  exact ⟨rfl, bel_call HB.out hb1⟩

theorem specIsDesk_any (a b : Int) (s : ByteArray) (A : Option Addr) (n c : Nat) (ts : List ByteArray) (w : World) (hn : n ≤ maxLen) (hs : s.size ≤ maxLen) (hA : ArgS w A n ts) :
    Calls Try.prog 11 #[.agg #[.int .i64 a, .int .i64 b, .string s, .slice A n c]] w fun e w' => e = .returned (.bool (dkB a b ts s)) ∧ Below w.heap.size w w' := by
  have HB := Lib.hid ((Below.refl w.heap.size w).alloc (Nat.le_refl _) (.cells #[.int .i64 a, .int .i64 b, .string s, .slice A n c] 26))
  have HA := Lib.hid (hA.below HB.out)
  have HN := Lib.hid hn
  have HS := Lib.hid hs
  clear hA hn hs
  go_enter Try.func11, Try.ntmps11
  go_wp2_with (go_at_call 19; refine (coGood_any _ _ _ _ _ _ ts _ HN.out HS.out HA.out).mono ?_; rintro e w1 ⟨rfl, hb1⟩)
  go_ret
  exact ⟨rfl, bel_call HB.out hb1⟩

set_option maxHeartbeats 2000000 in
theorem isDesk_any (a b : Int) (s : ByteArray) (A : Option Addr) (n c : Nat) (ts : List ByteArray) (w : World) (hn : n ≤ maxLen) (hs : s.size ≤ maxLen) (hA : ArgS w A n ts) :
    Calls Try.prog 13 #[.agg #[.int .i64 a, .int .i64 b, .string s, .slice A n c]] w fun e w' => e = .returned (.bool (dkB a b ts s)) ∧ Below w.heap.size w w' := by
  have HB := Lib.hid ((Below.refl w.heap.size w).alloc (Nat.le_refl _) (.cells #[.int .i64 a, .int .i64 b, .string s, .slice A n c] 26))
  have HU : Hid (Cells (w.alloc (.cells #[.int .i64 a, .int .i64 b, .string s, .slice A n c] 26)) w.heap.size 4 (g4D a b s (.slice A n c))) := Lib.hid (Cells.new (n := 4) rfl rfl)
  have HA := Lib.hid (hA.below HB.out)
  have HN := Lib.hid hn
  have HS := Lib.hid hs
  obtain ⟨p, hp⟩ : ∃ p, areZ a b ts = p := ⟨_, rfl⟩
  have HP := Lib.hid hp
  obtain ⟨q, hq⟩ : ∃ q, (goodB a b && isCodeB a b s) = q := ⟨_, rfl⟩
  have HQ := Lib.hid hq
  obtain ⟨r, hr⟩ : ∃ r, inS ts s = r := ⟨_, rfl⟩
  have HR := Lib.hid hr
  have HV : Hid (dkB a b ts s = (p && q && !r)) := Lib.hid (by unfold dkB alB askB; rw [hp, hq, hr, Bool.and_assoc])
  clear hA hn hs hp hq hr
  rw [HV.out]
  cases p <;> cases q <;> cases r <;> go_enter Try.func13, Try.ntmps13
  all_goals go_wp2_with (first
    | (go_at_call 22; refine (areDead_any _ _ _ _ _ ts _ HN.out HA.out).mono ?_; rw [HP.out]; rintro e w1 ⟨rfl, hb1⟩
       have H1 := Lib.hid (HU.out.call hb1)
       have HB1 := Lib.hid (bel_call HB.out hb1)
       have HA1 := Lib.hid (HA.out.below hb1)
       have l0 : w1.cell? ⟨w.heap.size, 0, none⟩ = some (.int .i64 a) := H1.out.cell (show 0 < 4 by omega)
       have l1 : w1.cell? ⟨w.heap.size, 1, none⟩ = some (.int .i64 b) := H1.out.cell (show 1 < 4 by omega)
       have l2 : w1.cell? ⟨w.heap.size, 2, none⟩ = some (.string s) := H1.out.cell (show 2 < 4 by omega)
       clear hb1)
    | (go_at_call 23; refine (hasCode_any _ _ _ _ HS.out).mono ?_; rw [HQ.out]; rintro e w2 ⟨rfl, hb2⟩
       have H2 := Lib.hid (H1.out.call hb2)
       have HB2 := Lib.hid (bel_call HB1.out hb2)
       have HA2 := Lib.hid (HA1.out.below hb2)
       have m2 : w2.cell? ⟨w.heap.size, 2, none⟩ = some (.string s) := H2.out.cell (show 2 < 4 by omega)
       have m3 : w2.cell? ⟨w.heap.size, 3, none⟩ = some (.slice A n c) := H2.out.cell (show 3 < 4 by omega)
       clear hb2)
    | (go_at_call 24; refine (containsS_any _ _ _ ts _ _ HN.out HA2.out).mono ?_; rw [HR.out]; rintro e wq ⟨rfl, hwq⟩; subst hwq))
  all_goals go_ret
  all_goals first | exact ⟨rfl, HB2.out⟩ | exact ⟨rfl, HB1.out⟩

end Go.Proofs.Ythfhbkfifdgokaa
