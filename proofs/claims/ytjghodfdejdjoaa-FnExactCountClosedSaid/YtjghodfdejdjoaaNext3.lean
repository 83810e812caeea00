/- The codes one turn away, as the model lists them: the walk. No conditions. -/
import Derived.Test.YtjghodfdejdjoaaNext2
namespace Go.Proofs.Ytjghodfdejdjoaa
open Go.ChangeShapes Go.WideShapes Go.ChangeAt Go.RowKit Go.Joins

theorem less_yes {x y : ByteArray} (h : x.data.toList < y.data.toList) : Op.bytesLess x.toList y.toList = true := by
  rw [ByteArray.toList_eq, ByteArray.toList_eq, bytesLess_eq]; exact decide_eq_true h

theorem less_no {x y : ByteArray} (h : ¬ x.data.toList < y.data.toList) : Op.bytesLess x.toList y.toList = false := by
  rw [ByteArray.toList_eq, ByteArray.toList_eq, bytesLess_eq]; exact decide_eq_false h

theorem same_yes {x y : ByteArray} (h : x.data.toList = y.data.toList) : (x.toList == y.toList) = true := by
  rw [ByteArray.toList_eq, ByteArray.toList_eq]; simpa using h

theorem same_no {x y : ByteArray} (h : x.data.toList ≠ y.data.toList) : (x.toList == y.toList) = false := by
  rw [ByteArray.toList_eq, ByteArray.toList_eq]; simpa using h

def twoI : List Int := [1, -1]

theorem cells_twoI {w : World} {t : TypeId} : Cells (w.alloc (.cells #[.int .i64 1, .int .i64 (-1)] t)) w.heap.size 2 (digF twoI) := by
  refine ⟨by simp, fun j hj => ?_⟩
  rw [World.cell?_alloc_new, World.frozen?_alloc_new]
  have : j = 0 ∨ j = 1 := by omega
  rcases this with rfl | rfl <;> exact ⟨rfl, rfl⟩

theorem twoI_at {k q : Nat} (hq : q < 2) : twoI.getD q 0 = nxY (2 * k + q) := by
  have : q = 0 ∨ q = 1 := by omega
  unfold nxY twoI
  rcases this with rfl | rfl
  · rw [if_pos (by omega)]; rfl
  · rw [if_neg (by omega)]; rfl

set_option maxHeartbeats 4000000 in
set_option maxRecDepth 100000 in
theorem specNext_any (a b : Int) (s : ByteArray) (w : World) (hs : s.size ≤ maxLen) :
    Calls Try.prog 26 #[.agg #[.int .i64 a, .int .i64 b], .string s] w (StrsOut w (nextL a b s) (askB a b s)) := by
  have HS := Lib.hid hs
  clear hs
  by_cases ha : askB a b s = true
  · have HY := Lib.hid ha
    have HA := Lib.hid (asked ha)
    obtain ⟨n1, n6, b2, b10⟩ : 1 ≤ s.size ∧ s.size ≤ 6 ∧ 2 ≤ b ∧ b ≤ 10 := ⟨HA.out.n1, HA.out.n6, HA.out.b2, HA.out.b10⟩
    obtain ⟨i0, hi, hy0, hy1, hy2⟩ := info_parts info_string
    have HDS : Hid ((dg s).length = s.size) := Lib.hid (dg_length s)
    clear ha
    go_enter Try.func26, Try.ntmps26
    go_wp2_with (go_at_call 38; refine (whAsked_any _ _ _ _ HS.out).mono ?_; rw [HY.out]; rintro e w1 ⟨rfl, hb⟩; obtain ⟨hc, hf, hz⟩ := bcell hb; have hz0 : w.heap.size < w1.heap.size := by (try simp at hz); omega)
    have l0 : w1.cell? ⟨w.heap.size, 0, none⟩ = some (.int .i64 a) := by rw [hc _ _ (by simp)]; simp
    have l1 : w1.cell? ⟨w.heap.size, 1, none⟩ = some (.int .i64 b) := by rw [hc _ _ (by simp)]; simp
    have z1 : w.heap.size < w1.heap.size := hz0
    have HB1 := Lib.hid (show Below w.heap.size w w1 by (repeat (first | assumption | exact Below.refl _ _ | (refine Below.alloc ?_ (by first | omega | (simp; done) | (simp; omega)) _) | (refine Below.setCell ?_ (by first | omega | (simp; done) | (simp; omega)) _) | refine bel_drewN ?_ _ | refine bel_drew ?_ | (refine bel_call ?_ (by assumption)))))
    have L0 := Lib.hid l0
    have L1 := Lib.hid l1
    clear hc hf hz hb l0 l1 hz0
    go_loopw [6, 7] (fun v i wr => ∃ (k : Nat) (R : List ByteArray), k ≤ s.size ∧ i = .int .i64 k ∧ NS w1.heap.size wr v R ∧ R.length ≤ 2 * k ∧ Rising (keyL R) ∧ (∀ y, y ∈ keyL R ↔ y ∈ keyL (nxC b (dg s) (2 * k))) ∧ Below w1.heap.size w1 wr) (fun _ i _ => s.size - (intOf i).toNat)
    case atStart => exact ⟨0, [], by omega, rfl, .inl ⟨rfl, rfl⟩, by simp, List.Pairwise.nil, fun y => Iff.rfl, Below.refl _ _⟩
    case round =>
      obtain ⟨k, R0, hk, rfl, hns, hlen, hri, hme, hB⟩ := hrel
      have HNS := Lib.hid hns
      have HRI := Lib.hid hri
      have HME := Lib.hid hme
      clear hns hri hme
      have l0 := (hB.cell (p := ⟨w.heap.size, 0, none⟩) z1).trans L0.out
      by_cases hlt : k < s.size
      · have hka : (k : Int) < a := by have := HA.out.size; omega
        obtain ⟨wi, hw⟩ : ∃ wi, wi = wr := ⟨_, rfl⟩
        subst hw
        go_wp2_with fail
        have hP := cells_twoI (w := wi) (t := 3)
        have HN4 := Lib.hid (HNS.out.keep ((Below.refl _ _).alloc (Nat.le_refl _) (.cells #[.int .i64 1, .int .i64 (-1)] 3)))
        have hB4 : Below w1.heap.size w1 (wi.alloc (.cells #[.int .i64 1, .int .i64 (-1)] 3)) := hB.alloc hB.size _
        generalize wi.heap.size = G at hP
        generalize (wi.alloc (.cells #[.int .i64 1, .int .i64 (-1)] 3)) = w4 at hP HN4 hB4
        clear hB l0
        go_loopw [6, 24] (fun v i wr => ∃ (q : Nat) (R : List ByteArray), q ≤ 2 ∧ i = .int .i64 q ∧ NS w1.heap.size wr v R ∧ R.length ≤ 2 * k + q ∧ Rising (keyL R) ∧ (∀ y, y ∈ keyL R ↔ y ∈ keyL (nxC b (dg s) (2 * k + q))) ∧ Cells wr G 2 (digF twoI) ∧ Below w1.heap.size w1 wr) (fun _ i _ => 2 - (intOf i).toNat)
        case atStart => exact ⟨0, R0, by omega, rfl, HN4.out, hlen, HRI.out, HME.out, hP, hB4⟩
        case round =>
          clear hP hB4 hlen HRI HME HN4
          obtain ⟨q, R, hq, rfl, hns, hlen, hri, hme, hP, hB⟩ := hrel
          have HN := Lib.hid hns
          have HRI := Lib.hid hri
          have HME := Lib.hid hme
          have HP := Lib.hid hP
          clear hns hri hme hP
          by_cases hqt : q < 2
          · have p0 : wr.cell? ⟨G, q, none⟩ = some (.int .i64 (nxY (2 * k + q))) := by
              rw [HP.out.cell hqt, digF, twoI_at (k := k) hqt]
            have HX := Lib.hid (nxC_next (b := b) (ds := dg s) (k := k) hqt)
            have HTu := Lib.hid (nxY_turn hka hqt)
            generalize nxY (2 * k + q) = y at p0 HX HTu
            have r0 := (hB.cell (p := ⟨w.heap.size, 0, none⟩) z1).trans L0.out
            have r1 := (hB.cell (p := ⟨w.heap.size, 1, none⟩) z1).trans L1.out
            go_wp2_with (go_at_call 39; refine (whMake_any _ _ _ _ _ _ HY.out HTu.out).mono ?_; rintro e w5 ⟨rfl, hb5⟩)
            have HB5 := Lib.hid (bel_call hB hb5)
            have HN5 := Lib.hid (HN.out.keep hb5)
            have HP5 := Lib.hid (HP.out.call hb5)
            clear p0 r0 r1 hb5 HN HP hB
            generalize textOf (stepD b (dg s) (k : Int) y) = x at HX
            rcases HN5.out with ⟨rfl, rfl⟩ | ⟨hne, g, c, rfl, hgc, hgB, hC⟩
            · clear hlen
              go_loop [11] (fun j' => j' = .int .i64 0) (fun _ => 0)
              case atStart => rfl
              case round =>
                obtain rfl := hrel
                have OC := Lib.hid (own_keeps (World.ownsRow_made (base := w5.heap.size) (e := 9) (size := 1) w5 #[] 0 (Nat.le_refl _) (by unfold maxLen; omega) rfl) (bel_drew (Below.refl _ _)))
                have OA := Lib.hid (own_keeps ((World.ownsRow_made (base := w5.heap.size) (e := 9) (size := 1) w5 #[] 0 (Nat.le_refl _) (by unfold maxLen; omega) rfl).alloc (.cells #[.string x] 9)) (bel_drew (Below.refl _ _)))
                have OB : Hid (((w5.alloc (.cells #[.string x] 9)).alloc (.cells #[] 9)).drew.ownsRow w5.heap.size 9 1 (.slice (some ⟨w5.heap.size + 1, 0, none⟩) 0 0) 0 []) := Lib.hid (by
                  have h := own_keeps (World.ownsRow_made (base := w5.heap.size) (e := 9) (size := 1) (w5.alloc (.cells #[.string x] 9)) #[] 0 (by simp) (by unfold maxLen; omega) rfl) (bel_drew (Below.refl _ _))
                  simpa using h)
                have BC := Lib.hid (bel_drew ((Below.refl w5.heap.size w5).alloc (Nat.le_refl _) (.cells #[] 9)))
                have BA := Lib.hid (bel_drew (((Below.refl w5.heap.size w5).alloc (Nat.le_refl _) (.cells #[] 9)).alloc (by simp) (.cells #[.string x] 9)))
                have BB := Lib.hid (bel_drew (((Below.refl w5.heap.size w5).alloc (Nat.le_refl _) (.cells #[.string x] 9)).alloc (by simp) (.cells #[] 9)))
                have XA := Lib.hid (cells_x (w := w5.alloc (.cells #[] 9)) (x := x) (t := 9) (g := w5.heap.size + 1) (by simp)).drew
                have XB := Lib.hid (((cells_x (w := w5) (x := x) (t := 9) (g := w5.heap.size) rfl).alloc (.cells #[] 9)).drew)
                go_wp2_with fail
                go_region_law (first
                    | (refine step_append_nil rfl (.tmp 60) (.tmp 63) 24 rfl 9 i0 Try.underlying24 hi (w5.heap.size) 0 0 0 rfl (Nat.le_refl _) 0 rfl ?_)
                    | (refine step_append_nil rfl (.tmp 60) (.tmp 63) 24 rfl 9 i0 Try.underlying24 hi (w5.heap.size + 1) 0 0 0 rfl (Nat.le_refl _) 0 rfl ?_)
                    | (refine step_append_own rfl (.tmp 64) (.tmp 66) 24 rfl w5.heap.size 9 i0 (.string ByteArray.empty) 1 16 Try.underlying24 hi hy0 hy1 hy2 rfl (by decide) (.slice (some ⟨w5.heap.size, 0, none⟩) 0 0) 0 [] rfl OA.out ⟨w5.heap.size + 1, 0, none⟩ 1 1 [.string x] rfl rfl (news_x XA.out) (by simp [Value.oneCell']) (by unfold maxLen; omega) (by omega) BA.out.size ?_; intro v7 w7 hown7 hgrow7
                       have HB7 := Lib.hid (BA.out.grown hgrow7 BA.out.size (fun k hk => (OA.out.lt k hk).1))
                       obtain ⟨g7, c7, rfl, hc7⟩ := own_form hown7 (by omega)
                       have HO7 := Lib.hid hown7
                       clear hown7 hgrow7)
                    | (refine step_append_own rfl (.tmp 64) (.tmp 66) 24 rfl w5.heap.size 9 i0 (.string ByteArray.empty) 1 16 Try.underlying24 hi hy0 hy1 hy2 rfl (by decide) (.slice (some ⟨w5.heap.size + 1, 0, none⟩) 0 0) 0 [] rfl OB.out ⟨w5.heap.size, 0, none⟩ 1 1 [.string x] rfl rfl (news_x XB.out) (by simp [Value.oneCell']) (by unfold maxLen; omega) (by omega) BB.out.size ?_; intro v7 w7 hown7 hgrow7
                       have HB7 := Lib.hid (BB.out.grown hgrow7 BB.out.size (fun k hk => (OB.out.lt k hk).1))
                       obtain ⟨g7, c7, rfl, hc7⟩ := own_form hown7 (by omega)
                       have HO7 := Lib.hid hown7
                       clear hown7 hgrow7)
                    | (refine step_append_nil rfl (.tmp 67) (.tmp 70) 24 rfl 9 i0 Try.underlying24 hi g7 0 (0 + 1) c7 rfl hc7 0 rfl ?_))
                all_goals
                  have HNS := Lib.hid ((NS.of_own (R := [x]) (n := 0 + 1) HO7.out (by simp)).base HB5.out.size)
                  have HBE := Lib.hid (bel_call HB5.out HB7.out)
                  go_wp2_with fail
                  go_roundw
                  case rel => exact ⟨q + 1, [x], by omega, by go_num, HNS.out, by simp; omega, List.pairwise_singleton _ _, fun z => by
                    rw [show 2 * k + (q + 1) = 2 * k + q + 1 by omega, HX.out, keyL_app, List.mem_append, ← HME.out z]
                    simp [keyL], HP5.out.call HB7.out, HBE.out⟩
                  case measure => simp [intOf]; omega
            · have HC := Lib.hid hC
              have hlen0 : 0 < R.length := List.length_pos_iff.2 hne
              clear hC hne
              obtain ⟨N, hN⟩ : ∃ N, R.length = N := ⟨_, rfl⟩
              rw [hN] at HC hgc hlen hlen0
              have HNl := Lib.hid hN
              rw [hN]
              clear hN
              go_loop [11] (fun j' => ∃ j : Nat, j' = .int .i64 j ∧ j ≤ N ∧ ∀ i, i < j → (R.getD i ByteArray.empty).data.toList < x.data.toList) (fun j' => N - (intOf j').toNat)
              case atStart => exact ⟨0, rfl, by omega, fun i hi => by omega⟩
              case round =>
                obtain ⟨j, rfl, hj, hlow⟩ := hrel
                have HLW := Lib.hid hlow
                clear hlow
                by_cases hjn : j < N
                · have o1 : w5.cell? ⟨g, j, none⟩ = some (.string (R.getD j ByteArray.empty)) := HC.out.cell hjn
                  obtain ⟨t, ht⟩ : ∃ t, R.getD j ByteArray.empty = t := ⟨_, rfl⟩
                  have HTj := Lib.hid ht
                  rw [ht] at o1
                  clear ht
                  by_cases hless : t.data.toList < x.data.toList
                  · have hb1 := less_yes hless
                    have HLS := Lib.hid hless
                    clear hless
                    go_wp2_with fail
                    go_round
                    case rel => exact ⟨j + 1, by go_num, by omega, fun i hi => by
                      rcases Nat.lt_succ_iff_lt_or_eq.1 hi with h | h
                      · exact HLW.out i h
                      · subst h; rw [HTj.out]; exact HLS.out⟩
                    case measure => simp [intOf]; omega
                  · have hb1 := less_no hless
                    by_cases hsm : t.data.toList = x.data.toList
                    · have hb2 := same_yes hsm
                      have HSM := Lib.hid hsm
                      clear hless hsm
                      go_wp2_with fail
                      go_roundw
                      case rel => exact ⟨q + 1, R, by omega, by go_num, by rw [HNl.out.symm] at *; exact HN5.out, by rw [HNl.out]; omega, HRI.out, fun z => by
                        rw [show 2 * k + (q + 1) = 2 * k + q + 1 by omega, HX.out, keyL_app, List.mem_append, ← HME.out z]
                        refine ⟨.inl, fun h => h.elim id fun h => ?_⟩
                        have hz : z = x.data.toList := by simpa [keyL] using h
                        rw [hz, ← HSM.out, ← HTj.out]
                        exact List.mem_map.2 ⟨R.getD j ByteArray.empty, by
                          simp only [List.getD]
                          rw [List.getElem?_eq_getElem (by rw [HNl.out]; exact hjn)]
                          exact List.getElem_mem _, rfl⟩, HP5.out, HB5.out⟩
                      case measure => simp [intOf]; omega
                    · have hb2 := same_no hsm
                      have HPU := Lib.hid (put_strs HRI.out (by rw [HNl.out]; exact hj) HLW.out (fun _ => by rw [HTj.out]; exact ⟨hless, hsm⟩))
                      clear hless hsm
                      go_wp2_with fail
                      have hjN : j ≤ N := hj
                      have hgc' : N ≤ c := hgc
                      have OC := Lib.hid (own_keeps (World.ownsRow_made (base := w5.heap.size) (e := 9) (size := 1) w5 #[] 0 (Nat.le_refl _) (by unfold maxLen; omega) rfl) (bel_drew (Below.refl _ _)))
                      have OA := Lib.hid (own_keeps ((World.ownsRow_made (base := w5.heap.size) (e := 9) (size := 1) w5 #[] 0 (Nat.le_refl _) (by unfold maxLen; omega) rfl).alloc (.cells #[.string x] 9)) (bel_drew (Below.refl _ _)))
                      have OB : Hid (((w5.alloc (.cells #[.string x] 9)).alloc (.cells #[] 9)).drew.ownsRow w5.heap.size 9 1 (.slice (some ⟨w5.heap.size + 1, 0, none⟩) 0 0) 0 []) := Lib.hid (by
                        have h := own_keeps (World.ownsRow_made (base := w5.heap.size) (e := 9) (size := 1) (w5.alloc (.cells #[.string x] 9)) #[] 0 (by simp) (by unfold maxLen; omega) rfl) (bel_drew (Below.refl _ _))
                        simpa using h)
                      have BC := Lib.hid (bel_drew ((Below.refl w5.heap.size w5).alloc (Nat.le_refl _) (.cells #[] 9)))
                      have BA := Lib.hid (bel_drew (((Below.refl w5.heap.size w5).alloc (Nat.le_refl _) (.cells #[] 9)).alloc (by simp) (.cells #[.string x] 9)))
                      have BB := Lib.hid (bel_drew (((Below.refl w5.heap.size w5).alloc (Nat.le_refl _) (.cells #[.string x] 9)).alloc (by simp) (.cells #[] 9)))
                      have XA := Lib.hid (cells_x (w := w5.alloc (.cells #[] 9)) (x := x) (t := 9) (g := w5.heap.size + 1) (by simp)).drew
                      have XB := Lib.hid (((cells_x (w := w5) (x := x) (t := 9) (g := w5.heap.size) rfl).alloc (.cells #[] 9)).drew)
                      have hjc : j ≤ c := by omega
                      have S1 : Hid ((sv (R.take j)).length = j * 1) := Lib.hid (by have := HNl.out; simp [sv]; omega)
                      have S2 : Hid ((sv (R.drop j)).length = (N - j) * 1) := Lib.hid (by have := HNl.out; simp [sv]; omega)
                      obtain ⟨A, hA⟩ : ∃ A, (if c = j then some ⟨g, 0, none⟩ else some ⟨g, j, none⟩ : Option Addr) = some A := by split <;> exact ⟨_, rfl⟩
                      have HAA := Lib.hid hA
                      go_region_law (first
                        | (refine step_append_own rfl (.tmp 60) (.tmp 63) 24 rfl w5.heap.size 9 i0 (.string ByteArray.empty) 1 16 Try.underlying24 hi hy0 hy1 hy2 rfl (by decide) (.slice (some ⟨w5.heap.size, 0, none⟩) 0 0) 0 [] rfl OA.out ⟨g, 0, none⟩ j c (sv (R.take j)) rfl S1.out (news_take HNl.out hjN (HC.out.call BA.out)) (sv_one _) (by unfold maxLen; omega) (by omega) BA.out.size ?_; intro v4 w4' hown4 hgrow4
                           have HO4 := Lib.hid hown4
                           have HB4 := Lib.hid (BA.out.grown hgrow4 BA.out.size (fun k hk => (OA.out.lt k hk).1))
                           have HX4 := Lib.hid (XA.out.grown hgrow4 (by simp [Value.ownBlock]))
                           clear hown4 hgrow4)
                        | (refine step_append_own rfl (.tmp 60) (.tmp 63) 24 rfl w5.heap.size 9 i0 (.string ByteArray.empty) 1 16 Try.underlying24 hi hy0 hy1 hy2 rfl (by decide) (.slice (some ⟨w5.heap.size + 1, 0, none⟩) 0 0) 0 [] rfl OB.out ⟨g, 0, none⟩ j c (sv (R.take j)) rfl S1.out (news_take HNl.out hjN (HC.out.call BB.out)) (sv_one _) (by unfold maxLen; omega) (by omega) BB.out.size ?_; intro v4 w4' hown4 hgrow4
                           have HO4 := Lib.hid hown4
                           have HB4 := Lib.hid (BB.out.grown hgrow4 BB.out.size (fun k hk => (OB.out.lt k hk).1))
                           have HX4 := Lib.hid (XB.out.grown hgrow4 (by simp [Value.ownBlock]))
                           clear hown4 hgrow4)
                        | (refine step_append_own rfl (.tmp 60) (.tmp 63) 24 rfl w5.heap.size 9 i0 (.string ByteArray.empty) 1 16 Try.underlying24 hi hy0 hy1 hy2 rfl (by decide) (.slice (some ⟨w5.heap.size, 0, none⟩) 0 0) 0 [] rfl OC.out ⟨g, 0, none⟩ j c (sv (R.take j)) rfl S1.out (news_take HNl.out hjN (HC.out.call BC.out)) (sv_one _) (by unfold maxLen; omega) (by omega) BC.out.size ?_; intro v4 w4' hown4 hgrow4
                           have HO4 := Lib.hid hown4
                           have HB4 := Lib.hid (BC.out.grown hgrow4 BC.out.size (fun k hk => (OC.out.lt k hk).1))
                           clear hown4 hgrow4)
                        | (refine step_append_own rfl (.tmp 64) (.tmp 66) 24 rfl w5.heap.size 9 i0 (.string ByteArray.empty) 1 16 Try.underlying24 hi hy0 hy1 hy2 rfl (by decide) v4 (0 + j) ([] ++ sv (R.take j)) rfl (HO4.out) ⟨w5.heap.size + 1, 0, none⟩ 1 1 [.string x] rfl rfl (news_x HX4.out) (by simp [Value.oneCell']) (by unfold maxLen; omega) (by omega) (HB4.out).size ?_; intro v7 w7 hown7 hgrow7
                           have HO7 := Lib.hid hown7
                           have HB7 := Lib.hid ((HB4.out).grown hgrow7 (HB4.out).size (fun k hk => ((HO4.out).lt k hk).1))
                           clear hown7 hgrow7)
                        | (refine step_append_own rfl (.tmp 64) (.tmp 66) 24 rfl w5.heap.size 9 i0 (.string ByteArray.empty) 1 16 Try.underlying24 hi hy0 hy1 hy2 rfl (by decide) v4 (0 + j) ([] ++ sv (R.take j)) rfl (HO4.out) ⟨w5.heap.size, 0, none⟩ 1 1 [.string x] rfl rfl (news_x HX4.out) (by simp [Value.oneCell']) (by unfold maxLen; omega) (by omega) (HB4.out).size ?_; intro v7 w7 hown7 hgrow7
                           have HO7 := Lib.hid hown7
                           have HB7 := Lib.hid ((HB4.out).grown hgrow7 (HB4.out).size (fun k hk => ((HO4.out).lt k hk).1))
                           clear hown7 hgrow7)
                        | (refine step_append_own rfl (.tmp 64) (.tmp 66) 24 rfl w5.heap.size 9 i0 (.string ByteArray.empty) 1 16 Try.underlying24 hi hy0 hy1 hy2 rfl (by decide) v4 (0 + j) ([] ++ sv (R.take j)) rfl (HO4.out.alloc (.cells #[.string x] 9)) ⟨w4'.heap.size, 0, none⟩ 1 1 [.string x] rfl rfl (news_x (cells_x rfl)) (by simp [Value.oneCell']) (by unfold maxLen; omega) (by omega) (HB4.out.alloc HB4.out.size (.cells #[.string x] 9)).size ?_; intro v7 w7 hown7 hgrow7
                           have HO7 := Lib.hid hown7
                           have HB7 := Lib.hid ((HB4.out.alloc HB4.out.size (.cells #[.string x] 9)).grown hgrow7 (HB4.out.alloc HB4.out.size (.cells #[.string x] 9)).size (fun k hk => ((HO4.out.alloc (.cells #[.string x] 9)).lt k hk).1))
                           clear hown7 hgrow7)
                        | (refine step_append_own rfl (.tmp 67) (.tmp 70) 24 rfl w5.heap.size 9 i0 (.string ByteArray.empty) 1 16 Try.underlying24 hi hy0 hy1 hy2 rfl (by decide) v7 (0 + j + 1) ([] ++ sv (R.take j) ++ [.string x]) rfl HO7.out A (N - j) (c - j) (sv (R.drop j)) rfl S2.out (news_drop HNl.out hjN hgc' HAA.out (HC.out.call HB7.out)) (sv_one _) (by unfold maxLen; omega) (by omega) HB7.out.size ?_; intro v11 w11 hown11 hgrow11
                           have HO11 := Lib.hid hown11
                           have HB11 := Lib.hid (HB7.out.grown hgrow11 HB7.out.size (fun k hk => (HO7.out.lt k hk).1))
                           clear hown11 hgrow11))
                      all_goals
                        have HNS := Lib.hid ((NS.of_own (R := R.take j ++ [x] ++ R.drop j) (n := 0 + j + 1 + (N - j)) (by rw [sv_app, sv_app]; exact HO11.out) (by simp)).base HB5.out.size)
                        have HBE := Lib.hid (bel_call HB5.out HB11.out)
                        go_wp2_with fail
                        go_roundw
                        case rel => exact ⟨q + 1, R.take j ++ [x] ++ R.drop j, by omega, by go_num, HNS.out, by have := HNl.out; simp; omega, HPU.out.1, fun z => by
                          rw [HPU.out.2 z, show 2 * k + (q + 1) = 2 * k + q + 1 by omega, HX.out, keyL_app, List.mem_append, ← HME.out z]
                          simp [keyL], HP5.out.call HB11.out, HBE.out⟩
                        case measure => simp [intOf]; omega
                · obtain rfl : j = N := by omega
                  have HPU := Lib.hid (put_strs HRI.out (by rw [HNl.out]; exact Nat.le_refl _) HLW.out (fun h => by rw [HNl.out] at h; omega))
                  go_wp2_with fail
                  have hgc' : j ≤ c := hgc
                  have HGC := Lib.hid hgc
                  have hjN : j ≤ j := Nat.le_refl _
                  clear hgc hj
                  have OC := Lib.hid (own_keeps (World.ownsRow_made (base := w5.heap.size) (e := 9) (size := 1) w5 #[] 0 (Nat.le_refl _) (by unfold maxLen; omega) rfl) (bel_drew (Below.refl _ _)))
                  have OA := Lib.hid (own_keeps ((World.ownsRow_made (base := w5.heap.size) (e := 9) (size := 1) w5 #[] 0 (Nat.le_refl _) (by unfold maxLen; omega) rfl).alloc (.cells #[.string x] 9)) (bel_drew (Below.refl _ _)))
                  have OB : Hid (((w5.alloc (.cells #[.string x] 9)).alloc (.cells #[] 9)).drew.ownsRow w5.heap.size 9 1 (.slice (some ⟨w5.heap.size + 1, 0, none⟩) 0 0) 0 []) := Lib.hid (by
                    have h := own_keeps (World.ownsRow_made (base := w5.heap.size) (e := 9) (size := 1) (w5.alloc (.cells #[.string x] 9)) #[] 0 (by simp) (by unfold maxLen; omega) rfl) (bel_drew (Below.refl _ _))
                    simpa using h)
                  have BC := Lib.hid (bel_drew ((Below.refl w5.heap.size w5).alloc (Nat.le_refl _) (.cells #[] 9)))
                  have BA := Lib.hid (bel_drew (((Below.refl w5.heap.size w5).alloc (Nat.le_refl _) (.cells #[] 9)).alloc (by simp) (.cells #[.string x] 9)))
                  have BB := Lib.hid (bel_drew (((Below.refl w5.heap.size w5).alloc (Nat.le_refl _) (.cells #[.string x] 9)).alloc (by simp) (.cells #[] 9)))
                  have XA := Lib.hid (cells_x (w := w5.alloc (.cells #[] 9)) (x := x) (t := 9) (g := w5.heap.size + 1) (by simp)).drew
                  have XB := Lib.hid (((cells_x (w := w5) (x := x) (t := 9) (g := w5.heap.size) rfl).alloc (.cells #[] 9)).drew)
                  have hjc : j ≤ c := HGC.out
                  have S1 : Hid ((sv (R.take j)).length = j * 1) := Lib.hid (by have := HNl.out; simp [sv]; omega)
                  have S2 : Hid ((sv (R.drop j)).length = 0 * 1) := Lib.hid (by have := HNl.out; simp [sv]; omega)
                  obtain ⟨A, hA⟩ : ∃ A, (if c = j then some ⟨g, 0, none⟩ else some ⟨g, j, none⟩ : Option Addr) = some A := by split <;> exact ⟨_, rfl⟩
                  have HAA := Lib.hid hA
                  go_region_law (first
                    | (refine step_append_own rfl (.tmp 60) (.tmp 63) 24 rfl w5.heap.size 9 i0 (.string ByteArray.empty) 1 16 Try.underlying24 hi hy0 hy1 hy2 rfl (by decide) (.slice (some ⟨w5.heap.size, 0, none⟩) 0 0) 0 [] rfl OA.out ⟨g, 0, none⟩ j c (sv (R.take j)) rfl S1.out (news_take HNl.out hjN (HC.out.call BA.out)) (sv_one _) (by unfold maxLen; omega) (by omega) BA.out.size ?_; intro v4 w4' hown4 hgrow4
                       have HO4 := Lib.hid hown4
                       have HB4 := Lib.hid (BA.out.grown hgrow4 BA.out.size (fun k hk => (OA.out.lt k hk).1))
                       have HX4 := Lib.hid (XA.out.grown hgrow4 (by simp [Value.ownBlock]))
                       clear hown4 hgrow4)
                    | (refine step_append_own rfl (.tmp 60) (.tmp 63) 24 rfl w5.heap.size 9 i0 (.string ByteArray.empty) 1 16 Try.underlying24 hi hy0 hy1 hy2 rfl (by decide) (.slice (some ⟨w5.heap.size + 1, 0, none⟩) 0 0) 0 [] rfl OB.out ⟨g, 0, none⟩ j c (sv (R.take j)) rfl S1.out (news_take HNl.out hjN (HC.out.call BB.out)) (sv_one _) (by unfold maxLen; omega) (by omega) BB.out.size ?_; intro v4 w4' hown4 hgrow4
                       have HO4 := Lib.hid hown4
                       have HB4 := Lib.hid (BB.out.grown hgrow4 BB.out.size (fun k hk => (OB.out.lt k hk).1))
                       have HX4 := Lib.hid (XB.out.grown hgrow4 (by simp [Value.ownBlock]))
                       clear hown4 hgrow4)
                    | (refine step_append_own rfl (.tmp 60) (.tmp 63) 24 rfl w5.heap.size 9 i0 (.string ByteArray.empty) 1 16 Try.underlying24 hi hy0 hy1 hy2 rfl (by decide) (.slice (some ⟨w5.heap.size, 0, none⟩) 0 0) 0 [] rfl OC.out ⟨g, 0, none⟩ j c (sv (R.take j)) rfl S1.out (news_take HNl.out hjN (HC.out.call BC.out)) (sv_one _) (by unfold maxLen; omega) (by omega) BC.out.size ?_; intro v4 w4' hown4 hgrow4
                       have HO4 := Lib.hid hown4
                       have HB4 := Lib.hid (BC.out.grown hgrow4 BC.out.size (fun k hk => (OC.out.lt k hk).1))
                       clear hown4 hgrow4)
                    | (refine step_append_own rfl (.tmp 64) (.tmp 66) 24 rfl w5.heap.size 9 i0 (.string ByteArray.empty) 1 16 Try.underlying24 hi hy0 hy1 hy2 rfl (by decide) v4 (0 + j) ([] ++ sv (R.take j)) rfl (HO4.out) ⟨w5.heap.size + 1, 0, none⟩ 1 1 [.string x] rfl rfl (news_x HX4.out) (by simp [Value.oneCell']) (by unfold maxLen; omega) (by omega) (HB4.out).size ?_; intro v7 w7 hown7 hgrow7
                       have HO7 := Lib.hid hown7
                       have HB7 := Lib.hid ((HB4.out).grown hgrow7 (HB4.out).size (fun k hk => ((HO4.out).lt k hk).1))
                       clear hown7 hgrow7)
                    | (refine step_append_own rfl (.tmp 64) (.tmp 66) 24 rfl w5.heap.size 9 i0 (.string ByteArray.empty) 1 16 Try.underlying24 hi hy0 hy1 hy2 rfl (by decide) v4 (0 + j) ([] ++ sv (R.take j)) rfl (HO4.out) ⟨w5.heap.size, 0, none⟩ 1 1 [.string x] rfl rfl (news_x HX4.out) (by simp [Value.oneCell']) (by unfold maxLen; omega) (by omega) (HB4.out).size ?_; intro v7 w7 hown7 hgrow7
                       have HO7 := Lib.hid hown7
                       have HB7 := Lib.hid ((HB4.out).grown hgrow7 (HB4.out).size (fun k hk => ((HO4.out).lt k hk).1))
                       clear hown7 hgrow7)
                    | (refine step_append_own rfl (.tmp 64) (.tmp 66) 24 rfl w5.heap.size 9 i0 (.string ByteArray.empty) 1 16 Try.underlying24 hi hy0 hy1 hy2 rfl (by decide) v4 (0 + j) ([] ++ sv (R.take j)) rfl (HO4.out.alloc (.cells #[.string x] 9)) ⟨w4'.heap.size, 0, none⟩ 1 1 [.string x] rfl rfl (news_x (cells_x rfl)) (by simp [Value.oneCell']) (by unfold maxLen; omega) (by omega) (HB4.out.alloc HB4.out.size (.cells #[.string x] 9)).size ?_; intro v7 w7 hown7 hgrow7
                       have HO7 := Lib.hid hown7
                       have HB7 := Lib.hid ((HB4.out.alloc HB4.out.size (.cells #[.string x] 9)).grown hgrow7 (HB4.out.alloc HB4.out.size (.cells #[.string x] 9)).size (fun k hk => ((HO4.out.alloc (.cells #[.string x] 9)).lt k hk).1))
                       clear hown7 hgrow7)
                    | (refine step_append_own rfl (.tmp 67) (.tmp 70) 24 rfl w5.heap.size 9 i0 (.string ByteArray.empty) 1 16 Try.underlying24 hi hy0 hy1 hy2 rfl (by decide) v7 (0 + j + 1) ([] ++ sv (R.take j) ++ [.string x]) rfl HO7.out A 0 (c - j) (sv (R.drop j)) rfl S2.out (news_drop HNl.out hjN hgc' HAA.out (HC.out.call HB7.out)) (sv_one _) (by unfold maxLen; omega) (by omega) HB7.out.size ?_; intro v11 w11 hown11 hgrow11
                       have HO11 := Lib.hid hown11
                       have HB11 := Lib.hid (HB7.out.grown hgrow11 HB7.out.size (fun k hk => (HO7.out.lt k hk).1))
                       clear hown11 hgrow11))
                  all_goals
                    have HNS := Lib.hid ((NS.of_own (R := R.take j ++ [x] ++ R.drop j) (n := 0 + j + 1 + 0) (by rw [sv_app, sv_app]; exact HO11.out) (by simp)).base HB5.out.size)
                    have HBE := Lib.hid (bel_call HB5.out HB11.out)
                    go_wp2_with fail
                    go_roundw
                    case rel => exact ⟨q + 1, R.take j ++ [x] ++ R.drop j, by omega, by go_num, HNS.out, by have := HNl.out; simp; omega, HPU.out.1, fun z => by
                      rw [HPU.out.2 z, show 2 * k + (q + 1) = 2 * k + q + 1 by omega, HX.out, keyL_app, List.mem_append, ← HME.out z]
                      simp [keyL], HP5.out.call HB11.out, HBE.out⟩
                    case measure => simp [intOf]; omega
          · obtain rfl : q = 2 := by omega
            go_wp2_with fail
            go_roundw
            case rel => exact ⟨k + 1, R, by omega, by go_num, HN.out, by omega, HRI.out, HME.out, hB⟩
            case measure => simp [intOf]; omega
      · obtain rfl : k = s.size := by omega
        have hka : ¬ ((s.size : Int) < a) := by have := HA.out.size; omega
        go_wp2_with fail
        go_ret2
        rw [HY.out, nextL_of HY.out HRI.out HME.out]
        exact ns_out HNS.out (by omega) (Nat.le_of_lt z1) (HB1.out.trans (hB.mono (Nat.le_of_lt z1)))
  · have HY := Lib.hid (Bool.eq_false_iff.2 ha)
    clear ha
    go_enter Try.func26, Try.ntmps26
    go_wp2_with (go_at_call 38; refine (whAsked_any _ _ _ _ HS.out).mono ?_; rw [HY.out]; rintro e w1 ⟨rfl, hb⟩; obtain ⟨hc, hf, hz⟩ := bcell hb; have hz0 : w.heap.size < w1.heap.size := by (try simp at hz); omega)
    go_ret2
    rw [HY.out, nextL_no HY.out]
    refine strs_none ?_
    (repeat (first | assumption | exact Below.refl _ _ | (refine Below.alloc ?_ (by first | omega | (simp; done) | (simp; omega)) _) | (refine Below.setCell ?_ (by first | omega | (simp; done) | (simp; omega)) _) | refine bel_drewN ?_ _ | refine bel_drew ?_ | (refine bel_call ?_ (by assumption))))

end Go.Proofs.Ytjghodfdejdjoaa
