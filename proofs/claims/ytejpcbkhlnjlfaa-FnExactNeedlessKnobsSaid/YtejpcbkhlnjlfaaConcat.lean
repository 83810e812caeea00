/- The library's functions that put lists together, at the program's types: Grow, Concat, Clone. For at most 1000 lists. -/
import Derived.Test.YtejpcbkhlnjlfaaKD2
import Derived.Lib.AppendZeros
import Derived.Lib.BufferMore
namespace Go.Proofs.Ytejpcbkhlnjlfaa
set_option maxRecDepth 100000
open Go.ChangeShapes Go.WideShapes Go.ChangeAt Go.RowKit Go.Joins

set_option maxHeartbeats 2000000 in
theorem grow_any (n : Nat) (h0 : 0 < n) (hn : n ≤ 1000) (w : World) :
    Calls Try.prog 108 #[.slice none 0 0, .int .i64 n] w fun e w' => ∃ v, e = .returned v ∧ w'.ownsRow w.heap.size 43 1 v 0 [] ∧ Below w.heap.size w w' := by
  obtain ⟨i0, hi, hy0, hy1, hy2⟩ := info_parts info_list
  have HR := Lib.hid (fun W : World => Lib.run_append_nil_zeros (P := Try.prog) W 24 3 24 43 i0 (.slice none 0 0) .i64 .i64 Try.underlying24 Try.underlying3 hi hy0 n h0 (by omega) (by omega) (by rw [hy2]; omega))
  go_enter Try.func108, Try.ntmps108
  go_wp2_with (at_builtin; refine Lib.wpList_append_run _ rfl _ _ 24 3 rfl (.slice none 0 0) (.int .i64 n) rfl rfl _ _ (HR.out _) ?_)
  go_ret
  refine ⟨_, rfl, ?_, ?_⟩
  · exact World.ownsRow_made _ _ _ (Nat.le_refl _) (grownCap_le_maxLen _ _ _ _ (by unfold maxLen; omega)) (by rw [Array.size_append, size_zeroCells, size_zeroCells]; have := grownCap_ge w n 0 43; simp; omega)
  · (repeat (first | assumption | exact Below.refl _ _ | (refine Below.alloc ?_ (by first | omega | (simp; done) | (simp; omega)) _) | (refine Below.setCell ?_ (by first | omega | (simp; done) | (simp; omega)) _) | refine bel_drewN ?_ _ | refine bel_drew ?_ | (refine bel_call ?_ (by assumption))))

/-- A list of values that lies somewhere. -/
structure Part (w : World) (a : Addr) (n : Nat) (vs : List Value) : Prop where
  len : vs.length = n
  lt : a.block < w.heap.size
  at_ : ∀ j u, vs[j]? = some u → w.cell? (a.add j) = some u
  one : ∀ u ∈ vs, u.oneCell' = true

theorem add_block (a : Addr) (j : Nat) : (a.add j).block = a.block := by unfold Addr.add; split <;> rfl

theorem Part.below {w w' : World} {a : Addr} {n B : Nat} {vs : List Value} (h : Part w a n vs) (hb : Below B w w') (hB : w.heap.size ≤ B) : Part w' a n vs :=
  ⟨h.len, Nat.lt_of_lt_of_le h.lt hb.size, fun j u hj => by rw [hb.cell (p := a.add j) (by rw [add_block]; have := h.lt; omega)]; exact h.at_ j u hj, h.one⟩

def twoF (x y : Value) (j : Nat) : Value := (#[x, y] : Array Value).toList.getD j undef

set_option maxHeartbeats 4000000 in
theorem concat_any (g : Nat) (a0 a1 : Addr) (n0 c0 n1 c1 cp : Nat) (v0 v1 : List Value) (w : World) (h0 : 0 < n0 + n1) (hn : n0 + n1 ≤ 1000) (hC : Cells w g 2 (twoF (.slice (some a0) n0 c0) (.slice (some a1) n1 c1))) (hp0 : Part w a0 n0 v0) (hp1 : Part w a1 n1 v1) :
    Calls Try.prog 94 #[.slice (some ⟨g, 0, none⟩) 2 cp] w fun e w' => ∃ v, e = .returned v ∧ w'.ownsRow w.heap.size 43 1 v (n0 + n1) (v0 ++ v1) ∧ Below w.heap.size w w' := by
  obtain ⟨i0, hi, hy0, hy1, hy2⟩ := info_parts info_list
  have HC := Lib.hid hC
  have P0 := Lib.hid hp0
  have P1 := Lib.hid hp1
  have x0 : w.cell? ⟨g, 0, none⟩ = some (.slice (some a0) n0 c0) := hC.cell (show 0 < 2 by omega)
  have x1 : w.cell? ⟨g, 1, none⟩ = some (.slice (some a1) n1 c1) := hC.cell (show 1 < 2 by omega)
  clear hC hp0 hp1
  go_enter Try.func94, Try.ntmps94
  go_wp2_with fail
  go_loop [3, 11] (fun s i => (i = .int .i64 0 ∧ s = .int .i64 0) ∨ (i = .int .i64 1 ∧ s = .int .i64 n0) ∨ (i = .int .i64 2 ∧ s = .int .i64 ((n0 : Int) + n1))) (fun _ i => 2 - (intOf i).toNat)
  case atStart => exact .inl ⟨rfl, rfl⟩
  case round =>
    rcases hrel with ⟨rfl, rfl⟩ | ⟨rfl, rfl⟩ | ⟨rfl, rfl⟩
    · go_wp2_with fail
      go_round
      case rel => exact .inr (.inl ⟨rfl, rfl⟩)
      case measure => decide
    · go_wp2_with fail
      go_round
      case rel => exact .inr (.inr ⟨rfl, rfl⟩)
      case measure => decide
    · obtain ⟨N, hN⟩ : ∃ N, n0 + n1 = N := ⟨_, rfl⟩
      have HN := Lib.hid hN
      have hNi : (n0 : Int) + (n1 : Int) = (N : Int) := by omega
      rw [hNi]
      have hn0 : n0 ≤ 1000 := by omega
      have hn1 : n0 + n1 ≤ 1000 := by omega
      rw [hN] at h0 hn
      clear hNi hN x0 x1
      go_wp2_with (go_at_call 108; refine (grow_any N h0 hn _).mono ?_; rintro e w1 ⟨v, rfl, hO, hb⟩)
      have HCW := Lib.hid (HC.out.call hb)
      have Q0 := Lib.hid (P0.out.below hb (Nat.le_refl _))
      have Q1 := Lib.hid (P1.out.below hb (Nat.le_refl _))
      have hs1 := hb.size
      go_loopw [6, 27] (fun v i wr => ((i = .int .i64 0 ∧ wr.ownsRow w.heap.size 43 1 v 0 []) ∨ (i = .int .i64 1 ∧ wr.ownsRow w.heap.size 43 1 v n0 v0) ∨ (i = .int .i64 2 ∧ wr.ownsRow w.heap.size 43 1 v (n0 + n1) (v0 ++ v1))) ∧ Below w.heap.size w wr) (fun _ i _ => 2 - (intOf i).toNat)
      case atStart => exact ⟨.inl ⟨rfl, hO⟩, hb⟩
      case round =>
        clear hO hb hs1 HCW Q0 Q1
        obtain ⟨hrel, hB⟩ := hrel
        have Q0 := Lib.hid (P0.out.below hB (Nat.le_refl _))
        have Q1 := Lib.hid (P1.out.below hB (Nat.le_refl _))
        have HCR := Lib.hid (HC.out.call hB)
        have hsz := hB.size
        have x0 : wr.cell? ⟨g, 0, none⟩ = some (.slice (some a0) n0 c0) := HCR.out.cell (show 0 < 2 by omega)
        have x1 : wr.cell? ⟨g, 1, none⟩ = some (.slice (some a1) n1 c1) := HCR.out.cell (show 1 < 2 by omega)
        rcases hrel with ⟨rfl, hO⟩ | ⟨rfl, hO⟩ | ⟨rfl, hO⟩
        · have HO := Lib.hid hO
          clear hO
          go_wp2_with (at_builtin; refine wpList_append_own _ rfl _ _ 24 rfl w.heap.size 43 i0 (.slice none 0 0) 1 24 Try.underlying24 hi hy0 hy1 hy2 rfl (by decide) _ _ _ rfl HO.out a0 n0 c0 v0 rfl (by rw [Q0.out.len, Nat.mul_one]) Q0.out.at_ Q0.out.one (by unfold maxLen; omega) (by omega) hsz ?_; intro v' w2 hown' hgrow hiff; clear hiff)
          have HB2 := Lib.hid (hB.grown hgrow hsz (fun j hj => (HO.out.lt j hj).1))
          have HO2 := Lib.hid hown'
          clear hown' hgrow
          go_roundw
          case rel => exact ⟨.inr (.inl ⟨rfl, by simpa using HO2.out⟩), HB2.out⟩
          case measure => decide
        · have HO := Lib.hid hO
          clear hO
          go_wp2_with (at_builtin; refine wpList_append_own _ rfl _ _ 24 rfl w.heap.size 43 i0 (.slice none 0 0) 1 24 Try.underlying24 hi hy0 hy1 hy2 rfl (by decide) _ _ _ rfl HO.out a1 n1 c1 v1 rfl (by rw [Q1.out.len, Nat.mul_one]) Q1.out.at_ Q1.out.one (by unfold maxLen; omega) (by omega) hsz ?_; intro v' w2 hown' hgrow hiff; clear hiff)
          have HB2 := Lib.hid (hB.grown hgrow hsz (fun j hj => (HO.out.lt j hj).1))
          have HO2 := Lib.hid hown'
          clear hown' hgrow
          go_roundw
          case rel => exact ⟨.inr (.inr ⟨rfl, HO2.out⟩), HB2.out⟩
          case measure => decide
        · go_wp2_with fail
          go_ret
          exact ⟨_, rfl, by rw [← HN.out]; exact hO, hB⟩

theorem clone_any (A : Option Addr) (n c : Nat) (xs : List Int) (w : World) (h0 : 0 < n) (hn : n ≤ 1048576) (hA : IntsA w A n xs) :
    Calls Try.prog 107 #[.slice A n c] w fun e w' => ∃ g c', e = .returned (.slice (some ⟨g, 0, none⟩) n c') ∧ w.heap.size ≤ g ∧ Cells w' g n (digF xs) ∧ Below w.heap.size w w' := by
  obtain ⟨i0, hi, hy0, hy1, hy2⟩ := info_parts info_int
  have HL := Lib.hid hA.len
  have HO := Lib.hid (World.ownsRow_made (base := w.heap.size) (e := 3) (size := 1) w #[] 0 (Nat.le_refl _) (by unfold maxLen; omega) rfl)
  have HB0 := Lib.hid ((Below.refl w.heap.size w).alloc (Nat.le_refl _) (.cells #[] 3))
  obtain ⟨b, off, rfl, hb, hc⟩ := hA.at_.resolve_left (by omega)
  have HN : Hid (∀ j u, (iv xs)[j]? = some u → (w.alloc (.cells #[] 3)).cell? ((⟨b, off, none⟩ : Addr).add j) = some u) := Lib.hid (iv_news HL.out (fun k hk => by rw [World.cell?_alloc_lt _ _ _ hb]; exact hc k hk))
  have hnil : ∀ W : World, (binOp .eql 43 (.slice (some ⟨b, off, none⟩) n c) (.slice none 0 0)).run Try.prog W = .ok (.bool false) W := fun W => Lib.run_eql_slice_some_nil W _ _ _ Try.underlying43
  clear hA hc
  go_enter Try.func107, Try.ntmps107
  go_wp2_with (at_builtin; refine wpList_append_own _ rfl _ _ 43 rfl w.heap.size 3 i0 (.int .i64 0) 1 8 Try.underlying43 hi hy0 hy1 hy2 rfl (by decide) _ _ _ rfl HO.out ⟨b, off, none⟩ n c (iv xs) rfl (by simp [iv]; have := HL.out; omega) HN.out (iv_one _) (by unfold maxLen; omega) (by omega) (by simp) ?_; intro v' w1 hown' hgrow hiff)
  have hv : v' ≠ .slice none 0 0 := fun e => by have := (hiff.1 e).1; cases this
  have HB1 := Lib.hid (HB0.out.grown hgrow HB0.out.size (fun j hj => (HO.out.lt j hj).1))
  obtain ⟨g, c', rfl, hg, hC⟩ := own_ints (xs := xs) (n := n) (by simpa using hown') hv
  go_ret
  exact ⟨g, c', rfl, hg, hC, HB1.out⟩

end Go.Proofs.Ytejpcbkhlnjlfaa
