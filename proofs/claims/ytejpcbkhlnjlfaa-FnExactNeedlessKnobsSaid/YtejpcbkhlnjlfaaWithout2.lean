/- Gears without a knob, as the model makes them: the walk. For at most 1048576 numbers. -/
import Derived.Test.YtejpcbkhlnjlfaaWithout
namespace Go.Proofs.Ytejpcbkhlnjlfaa
open Go.ChangeShapes Go.WideShapes Go.ChangeAt Go.RowKit Go.Joins

/-- The first lists, without one. -/
def woAt (ks : List (List Int)) (q : Int) : Nat → List (List Int)
  | 0 => []
  | k + 1 => if (k : Int) = q then woAt ks q k else woAt ks q k ++ [ks.getD k []]

theorem woAt_length (ks : List (List Int)) (q : Int) (k : Nat) : (woAt ks q k).length ≤ k := by
  induction k with
  | zero => simp [woAt]
  | succ k ih =>
    rw [woAt]
    split
    · omega
    · rw [List.length_append, List.length_singleton]; omega

theorem info_list : (Try.prog.info? 43).map (fun i => (i.zero, i.size, i.bytes)) = some (some (.slice none 0 0), 1, 24) := by kernel_rfl

theorem row_succ {w : World} {base : Nat} {e : TypeId} {size n : Nat} {v : Value} {xs : List Value} (h : w.ownsRow base e size v (n + 1) xs) : ∃ g c, v = .slice (some ⟨g, 0, none⟩) (n + 1) c := by
  obtain ⟨g, c, e, _⟩ := h.form (by omega)
  exact ⟨g, c, e⟩

theorem news_one {W : World} {B : Nat} {x : Value} {t : TypeId} (hB : B = W.heap.size) : ∀ j u, ([x] : List Value)[j]? = some u → (W.alloc (.cells #[x] t)).cell? ((⟨B, 0, none⟩ : Addr).add j) = some u := by
  subst hB
  exact World.news_of_block (heap_alloc_new W _)

theorem own_kept {w w' : World} {base : Nat} {e : TypeId} {size : Nat} {v : Value} {n : Nat} {xs : List Value} (h : w.ownsRow base e size v n xs) (hb : Below w.heap.size w w') : w'.ownsRow base e size v n xs :=
  h.kept (row := none) ⟨hb.os, hb.tape, hb.output, hb.size, fun i hi _ => hb.block i hi⟩ (Classical.em _)

def gF (a b : Int) (v : Value) (j : Nat) : Value := (#[.int .i64 a, .int .i64 b, v] : Array Value).toList.getD j undef

set_option maxRecDepth 100000 in
set_option maxHeartbeats 4000000 in
theorem joWithout_any (a b q : Int) (A : Option Addr) (n c : Nat) (ks : List (List Int)) (w : World) (hm : n + lensAt ks n ≤ 1048576) (hA : KnobsA w A n ks) :
    Calls Try.prog 92 #[.agg #[.int .i64 a, .int .i64 b, .slice A n c], .int .i64 q] w fun e w' => ∃ v G Cp, e = .returned (.agg #[.int .i64 a, .int .i64 b, v]) ∧ RowG w' (w.heap.size + 3) v (woAt ks q n) G Cp ∧ w.heap.size + 3 ≤ w'.heap.size ∧ Below w.heap.size w w' := by
  have HL := Lib.hid (show ∀ k, k < n → (ks.getD k []).length ≤ 1048576 from fun k hk => by have := lensAt_one (ks := ks) hk; omega)
  have HA := Lib.hid hA
  have hm2 : n ≤ 1048576 := by omega
  obtain ⟨i0, hi, hy0, hy1, hy2⟩ := info_parts info_list
  clear hA hm
  go_enter Try.func92, Try.ntmps92
  go_wp2_with fail
  have CU : Cells (((w.alloc (.cells #[.int .i64 a, .int .i64 b, .slice A n c] 31)).alloc (.cells #[.int .i64 0, .int .i64 0, .slice none 0 0] 31)).alloc (.cells #[.int .i64 a, .int .i64 b, .slice none 0 0] 31)) w.heap.size 3 (gF a b (.slice A n c)) := ((Cells.new (W := w) (n := 3) rfl rfl).alloc _).alloc _
  have CQ : Cells (((w.alloc (.cells #[.int .i64 a, .int .i64 b, .slice A n c] 31)).alloc (.cells #[.int .i64 0, .int .i64 0, .slice none 0 0] 31)).alloc (.cells #[.int .i64 a, .int .i64 b, .slice none 0 0] 31)) (w.heap.size + 1) 3 (gF 0 0 (.slice none 0 0)) := (Cells.new (n := 3) (by simp) rfl).alloc _
  have CT : Cells (((w.alloc (.cells #[.int .i64 a, .int .i64 b, .slice A n c] 31)).alloc (.cells #[.int .i64 0, .int .i64 0, .slice none 0 0] 31)).alloc (.cells #[.int .i64 a, .int .i64 b, .slice none 0 0] 31)) (w.heap.size + 1 + 1) 3 (gF a b (.slice none 0 0)) := Cells.new (n := 3) (by simp) rfl
  have hB0 : Below w.heap.size w (((w.alloc (.cells #[.int .i64 a, .int .i64 b, .slice A n c] 31)).alloc (.cells #[.int .i64 0, .int .i64 0, .slice none 0 0] 31)).alloc (.cells #[.int .i64 a, .int .i64 b, .slice none 0 0] 31)) := by (repeat (first | assumption | exact Below.refl _ _ | (refine Below.alloc ?_ (by first | omega | (simp; done) | (simp; omega)) _) | (refine Below.setCell ?_ (by first | omega | (simp; done) | (simp; omega)) _) | refine bel_drewN ?_ _ | refine bel_drew ?_ | (refine bel_call ?_ (by assumption))))
  have hz0 : w.heap.size + 3 ≤ (((w.alloc (.cells #[.int .i64 a, .int .i64 b, .slice A n c] 31)).alloc (.cells #[.int .i64 0, .int .i64 0, .slice none 0 0] 31)).alloc (.cells #[.int .i64 a, .int .i64 b, .slice none 0 0] 31)).heap.size := by simp
  go_loopw [14] (fun i wr => ∃ (k : Nat) (v : Value) (G Cp : Nat → Nat), k ≤ n ∧ i = .int .i64 k ∧ RowG wr (w.heap.size + 3) v (woAt ks q k) G Cp ∧ Cells wr w.heap.size 3 (gF a b (.slice A n c)) ∧ Cells wr (w.heap.size + 1) 3 (gF 0 0 (.slice none 0 0)) ∧ Cells wr (w.heap.size + 1 + 1) 3 (gF a b v) ∧ w.heap.size + 3 ≤ wr.heap.size ∧ Below w.heap.size w wr) (fun i _ => n - (intOf i).toNat)
  case atStart => exact ⟨0, .slice none 0 0, fun _ => 0, fun _ => 0, by omega, rfl, ⟨World.ownsRow_nil _ _ _ _, fun i hi => by simp [woAt] at hi, fun i j hi => by simp [woAt] at hi⟩, CU, CQ, CT, hz0, hB0⟩
  case round =>
    clear CU CQ CT hB0 hz0
    obtain ⟨k, v, G, Cp, hk, rfl, hR, hU, hQ, hT, hz, hB⟩ := hrel
    have HR := Lib.hid hR
    have HU := Lib.hid hU
    have HQ := Lib.hid hQ
    have HT := Lib.hid hT
    clear hR hU hQ hT
    by_cases hlt : k < n
    · obtain ⟨b0, off, rfl, hb0, hc⟩ := HA.out.at_.resolve_left (by omega)
      obtain ⟨Ak, ck, o1', _, hI⟩ := hc k hlt
      have o1 : wr.cell? ⟨b0, off + k, none⟩ = some (.slice Ak (ks.getD k []).length ck) := by rw [hB.cell (p := ⟨b0, off + k, none⟩) hb0]; exact o1'
      have HI := Lib.hid (hI.below hB)
      have hl := HL.out k hlt
      have hwl := woAt_length ks q k
      have HWO : Hid (woAt ks q (k + 1) = if (k : Int) = q then woAt ks q k else woAt ks q k ++ [ks.getD k []]) := Lib.hid rfl
      obtain ⟨xs, hxs⟩ : ∃ xs, ks.getD k [] = xs := ⟨_, rfl⟩
      rw [hxs] at o1 HI hl HWO
      obtain ⟨m, hmm⟩ : ∃ m, xs.length = m := ⟨_, rfl⟩
      have HM := Lib.hid hmm
      rw [hmm] at o1 HI hl
      generalize woAt ks q k = K0 at HR hwl HWO
      clear hc o1' hI hxs hmm
      by_cases hkq : (k : Int) = q
      · have HW1 : Hid (woAt ks q (k + 1) = K0) := Lib.hid (by rw [HWO.out, if_pos hkq])
        subst hkq
        go_wp2_with fail
        go_roundw
        case rel => exact ⟨k + 1, v, G, Cp, by omega, by go_num, by rw [HW1.out]; exact HR.out, HU.out, HQ.out, HT.out, hz, hB⟩
        case measure => simp [intOf]; omega
      · have HW1 : Hid (woAt ks q (k + 1) = K0 ++ [xs]) := Lib.hid (by rw [HWO.out, if_neg hkq])
        have hkq' : ((k : Int) == q) = false := by simpa using hkq
        have m2 : wr.cell? ⟨w.heap.size + 1 + 1, 2, none⟩ = some v := HT.out.cell (show 2 < 3 by omega)
        go_wp2_with fail
        go_region_law (first
          | (go_simp; go_at_call 96; refine (l1Own_any _ _ _ xs _ hl (HI.out.below (bel_drew (Below.refl _ _)))).mono ?_; rintro e w2 ⟨g2, c2, rfl, hg2, hC2, hb2⟩
             have HB2 := Lib.hid (below_undrew hb2)
             have HC2 := Lib.hid hC2
             have HG2 := Lib.hid hg2
             have HT2 := Lib.hid (HT.out.call HB2.out)
             have m3 : w2.cell? ⟨w.heap.size + 1 + 1, 2, none⟩ = some v := HT2.out.cell (show 2 < 3 by omega)
             have m4 : (w2.alloc (.cells #[.slice (some ⟨g2, 0, none⟩) m c2] 43)).cell? ⟨w.heap.size + 1 + 1, 2, none⟩ = some v := (HT2.out.alloc _).cell (show 2 < 3 by omega)
             have HO2 := Lib.hid ((own_kept HR.out.own HB2.out).alloc (.cells #[.slice (some ⟨g2, 0, none⟩) m c2] 43))
             have HZ2 := Lib.hid (Nat.le_trans hz HB2.out.size)
             clear hb2 hC2 hg2)
          | (refine step_append_at rfl (.tmp 23) (.tmp 26) 24 rfl (w.heap.size + 3) 43 i0 (.slice none 0 0) 1 24 Try.underlying24 hi hy0 hy1 hy2 rfl (by decide) v K0.length (rowV K0 G Cp) rfl HO2.out ⟨w2.heap.size, 0, none⟩ 1 1 [.slice (some ⟨g2, 0, none⟩) m c2] rfl rfl (news_one rfl) (by simp [Value.oneCell']) (by unfold maxLen; omega) (by omega) (by have := HZ2.out; simp; omega) ?_; intro v' w4 hown' hgrow hblk
             have HR4 := Lib.hid (HR.out.snoc HB2.out hz HG2.out HC2.out HM.out hown' hgrow hblk)
             have hlt2 := HO2.out.lt
             have HT4 := Lib.hid ((HT2.out.alloc (.cells #[.slice (some ⟨g2, 0, none⟩) m c2] 43)).kept hgrow (fun e => by have := (hlt2 _ e).1; omega))
             have HU4 := Lib.hid (((HU.out.call HB2.out).alloc (.cells #[.slice (some ⟨g2, 0, none⟩) m c2] 43)).kept hgrow (fun e => by have := (hlt2 _ e).1; omega))
             have HQ4 := Lib.hid (((HQ.out.call HB2.out).alloc (.cells #[.slice (some ⟨g2, 0, none⟩) m c2] 43)).kept hgrow (fun e => by have := (hlt2 _ e).1; omega))
             have HB4 := Lib.hid (((bel_call hB HB2.out).alloc (bel_call hB HB2.out).size _).grown hgrow (by have := HZ2.out; simp; omega) (fun j hj => by have := (hlt2 j hj).1; omega))
             have HZ4 := Lib.hid (show w.heap.size + 3 ≤ w4.heap.size by have h1 := HZ2.out; have h2 := hgrow.size; simp at h2; omega)
             obtain ⟨g', cap', rfl⟩ := row_succ hown'
             have c2' : w4.cell? ⟨w.heap.size + 1 + 1, 2, none⟩ = some v := HT4.out.cell (show 2 < 3 by omega)
             have c3 := HT4.out.frozen (show 2 < 3 by omega)
             clear hown' hgrow hblk hlt2))
        all_goals
          have HRN := Lib.hid (HR4.out.far (g := w.heap.size + 1 + 1) (k := 2) (by omega) (.slice (some ⟨g', 0, none⟩) (K0.length + 1) cap'))
          have HUN := Lib.hid (HU4.out.far (p := ⟨w.heap.size + 1 + 1, 2, none⟩) (by show w.heap.size + 1 + 1 ≠ w.heap.size; omega) (.slice (some ⟨g', 0, none⟩) (K0.length + 1) cap'))
          have HQN := Lib.hid (HQ4.out.far (p := ⟨w.heap.size + 1 + 1, 2, none⟩) (by show w.heap.size + 1 + 1 ≠ w.heap.size + 1; omega) (.slice (some ⟨g', 0, none⟩) (K0.length + 1) cap'))
          have HTN := Lib.hid ((HT4.out.set_ (show 2 < 3 by omega) (.slice (some ⟨g', 0, none⟩) (K0.length + 1) cap')).congr (f' := gF a b (.slice (some ⟨g', 0, none⟩) (K0.length + 1) cap')) (fun j hj => by
            have : j = 0 ∨ j = 1 ∨ j = 2 := by omega
            rcases this with rfl | rfl | rfl <;> rfl))
          go_wp2_with fail
          go_roundw
          case rel => exact ⟨k + 1, _, _, _, by omega, by go_num, by rw [HW1.out]; exact HRN.out, HUN.out, HQN.out, HTN.out, by rw [size_setCell]; exact HZ4.out, HB4.out.setCell (by show w.heap.size ≤ w.heap.size + 1 + 1; omega) _⟩
          case measure => simp [intOf]; omega
    · obtain rfl : k = n := by omega
      obtain ⟨A', c', hv⟩ : ∃ A' c', v = .slice A' (woAt ks q k).length c' := by
        rcases HR.out.own.2 with ⟨e, h0⟩ | ⟨g, cap, _, e, _⟩
        · exact ⟨none, 0, by rw [e, h0]⟩
        · exact ⟨_, cap, e⟩
      have HV := Lib.hid hv
      generalize (woAt ks q k).length = m' at hv HV
      subst hv
      have t0 : wr.cell? ⟨w.heap.size + 1 + 1, 0, none⟩ = some (.int .i64 a) := HT.out.cell (show 0 < 3 by omega)
      have t1 : wr.cell? ⟨w.heap.size + 1 + 1, 1, none⟩ = some (.int .i64 b) := HT.out.cell (show 1 < 3 by omega)
      have t2 : wr.cell? ⟨w.heap.size + 1 + 1, 2, none⟩ = some (.slice A' m' c') := HT.out.cell (show 2 < 3 by omega)
      have q0 : wr.cell? ⟨w.heap.size + 1, 0, none⟩ = some (.int .i64 0) := HQ.out.cell (show 0 < 3 by omega)
      have q1 : wr.cell? ⟨w.heap.size + 1, 1, none⟩ = some (.int .i64 0) := HQ.out.cell (show 1 < 3 by omega)
      have q2 : wr.cell? ⟨w.heap.size + 1, 2, none⟩ = some (.slice none 0 0) := HQ.out.cell (show 2 < 3 by omega)
      have f0 := HQ.out.frozen (show 0 < 3 by omega)
      have f1 := HQ.out.frozen (show 1 < 3 by omega)
      have f2 := HQ.out.frozen (show 2 < 3 by omega)
      go_wp2_with fail
      refine bodyPost_ret (v := .agg #[.int .i64 a, .int .i64 b, .slice A' m' c']) (by simp [results, Try.results92, go_sem, q0, q1, q2]) rfl ⟨_, rfl, ⟨G, Cp, ?_⟩, ?_, ?_⟩
      · exact ((HR.out.far (by omega) _).far (by omega) _).far (by omega) _
      · rw [size_setCell, size_setCell, size_setCell]; exact hz
      · (repeat (first | assumption | exact Below.refl _ _ | (refine Below.alloc ?_ (by first | omega | (simp; done) | (simp; omega)) _) | (refine Below.setCell ?_ (by first | omega | (simp; done) | (simp; omega)) _) | refine bel_drewN ?_ _ | refine bel_drew ?_ | (refine bel_call ?_ (by assumption))))

end Go.Proofs.Ytejpcbkhlnjlfaa
