/- Gears read from a text, as the program reads them. For texts of at most 2^20 bytes, where the library's variables hold what they are laid with. -/
import Derived.Test.YtealpmjkmioocaaDoorPgW
namespace Go.Proofs.YtealpmjkmioocaaDoor
set_option maxRecDepth 100000
open Go.ChangeShapes Go.WideShapes Go.ChangeAt Go.RowKit Go.Joins

def pgW (s : ByteArray) : Int := if pgB s then lkW (pgH s) else 0
def pgD (s : ByteArray) : Int := if pgB s then lkD (pgH s) else 0
def pgZ (s : ByteArray) : List (List Int) := if pgB s then pgK s else []

theorem split_any (s : ByteArray) (hs : s.size ≤ 1048576) (w : World) (hL : LibW w) :
    Calls Tryd.prog 10 #[.string s, .string ⟨#[58]⟩] w fun e w' => e = .returned (.slice (some ⟨w.heap.size, 0, none⟩) (spA 58 s).length (spA 58 s).length) ∧ Cells w' w.heap.size (spA 58 s).length (strF (spA 58 s)) ∧ Below w.heap.size w w' := by
  obtain ⟨m, hm⟩ := hL.max
  have hc : Lib.countB s ⟨#[58]⟩ + 1 = (spA 58 s).length := by rw [← split_spA, Lib.splitB_all ⟨#[58]⟩ (Nat.le_refl 1) 0 _ s rfl]
  refine (Go.Proofs.Tryd.strings_Split s ⟨#[58]⟩ m w (by omega) hm (Nat.le_refl 1)).mono ?_
  rintro e w' ⟨rfl, rfl⟩
  rw [hc, split_spA]
  refine ⟨rfl, ?_, (Below.refl _ _).alloc (Nat.le_refl _) _⟩
  refine (Cells.new (g := w.heap.size) rfl (by simp)).congr fun j hj => ?_
  simp [strF, List.getD, List.getElem?_eq_getElem hj]

theorem take_snocP {ks : List (List Int)} {k : Nat} (h : k < ks.length) : ks.take (k + 1) = ks.take k ++ [ks.getD k []] := by
  rw [List.take_succ_eq_append_getElem h]
  simp [List.getD, List.getElem?_eq_getElem h]

theorem drop_at {A : Nat} {a1 : Addr} {k n : Nat} (hlt : k < n) (ha : (if n = 0 then some (⟨A, 0, none⟩ : Addr) else some ⟨A, 1, none⟩) = some a1) : a1 = ⟨A, 1, none⟩ := by
  rw [if_neg (by omega)] at ha
  injection ha with ha
  exact ha.symm

set_option maxHeartbeats 4000000 in
theorem parseGears_any (s : ByteArray) (hs : s.size ≤ 1048576) (w : World) (hL : LibW w) :
    Calls Tryd.prog 5 #[.string s] w (GearsOut w (pgW s) (pgD s) (pgZ s) (pgB s)) := by
  have HL := Lib.hid hL
  have hl := hL.low
  clear hL
  have HQ := Lib.hid (show Cells (w.alloc (.cells #[.int .i64 0, .int .i64 0, .slice none 0 0] 26)) w.heap.size 3 (gF 0 0 (.slice none 0 0)) from Cells.new (n := 3) rfl rfl)
  have HB0 := Lib.hid (show Below w.heap.size w (w.alloc (.cells #[.int .i64 0, .int .i64 0, .slice none 0 0] 26)) from (Below.refl _ _).alloc (Nat.le_refl _) _)
  have HZ0 : Hid ((w.alloc (.cells #[.int .i64 0, .int .i64 0, .slice none 0 0] 26)).heap.size = w.heap.size + 1) := Lib.hid (by simp)
  obtain ⟨n, hn⟩ : ∃ n, (pgK s).length = n := ⟨_, rfl⟩
  have HNS : Hid ((spA 58 s).length = n + 1) := Lib.hid (by rw [← pgK_length, hn])
  have HM : Hid (n + lensAt (pgK s) n ≤ 1048576) := Lib.hid (by have := pgK_size s; rw [hn] at this; omega)
  have HP : Hid (∀ k, k < n → ((pgP s).getD k ByteArray.empty).size ≤ 1048576 ∧ (pgK s).getD k [] = dgA ((pgP s).getD k ByteArray.empty)) := Lib.hid (fun k hk => by have := pgP_size s k (by omega); exact ⟨by omega, this.2⟩)
  have HS1 : Hid (∀ k, strF (spA 58 s) (1 + k) = .string ((pgP s).getD k ByteArray.empty)) := Lib.hid (fun k => by unfold strF; rw [spA_at])
  have HS0 : Hid (strF (spA 58 s) 0 = .string (pgH s)) := Lib.hid (by unfold strF; rw [spA_zero])
  have hHs : (pgH s).size ≤ 1048576 := by have := pgH_size s; omega
  have hnm : n ≤ 1048576 := by have := HM.out; omega
  have HN := Lib.hid hn
  clear hn
  obtain ⟨V, HV⟩ : ∃ V, Hid (lkS (pgH s) = V) := ⟨_, Lib.hid rfl⟩
  rcases V with _ | _
  · have HD : Hid (pgB s = false) := Lib.hid (by unfold pgB; rw [HV.out]; rfl)
    go_enter Tryd.func5, Tryd.ntmps5
    go_wp2_with (first
      | (go_at_call 10; refine (split_any s hs _ (HL.out.below HB0.out hl)).mono ?_; rw [HZ0.out, HNS.out]; rintro e w1 ⟨rfl, hC1, hb1⟩
         have D1 := Lib.hid hC1
         have E1 := Lib.hid (HQ.out.call (hb1.mono (by rw [HZ0.out]; exact Nat.le_refl _)))
         have B1 := Lib.hid (bel_call HB0.out (hb1.mono (by rw [HZ0.out]; exact Nat.le_refl _)))
         have o1 : w1.cell? ⟨w.heap.size + 1, 0, none⟩ = some (.string (pgH s)) := by rw [D1.out.cell (show 0 < n + 1 by omega), HS0.out]
         clear hC1 hb1)
      | (go_at_call 11; refine (lockWithText_any _ hHs _ (HL.out.below B1.out hl)).mono ?_; rw [HV.out]; rintro e w2 ⟨rfl, hb2⟩
         have E2 := Lib.hid (E1.out.call hb2)
         have B2 := Lib.hid (bel_call B1.out hb2)
         have X2 := Lib.hid ((E2.out).alloc (.cells #[.int .i64 0, .int .i64 0] 23))
         have q0 := X2.out.cell (show 0 < 3 by omega)
         have q1 := X2.out.cell (show 1 < 3 by omega)
         have q2 := X2.out.cell (show 2 < 3 by omega)
         have f0 := X2.out.frozen (show 0 < 3 by omega)
         have f1 := X2.out.frozen (show 1 < 3 by omega)
         have f2 := X2.out.frozen (show 2 < 3 by omega)
         clear hb2))
    refine bodyPost_ret (v := .tuple #[.agg #[.int .i64 0, .int .i64 0, .slice none 0 0], .bool false]) (by simp [results, Tryd.results5, go_sem, q0, q1, q2]) rfl ?_
    unfold pgW pgD pgZ
    rw [HD.out]
    exact gears_none (((((B2.out.alloc B2.out.size _).setCell (p := ⟨w.heap.size, 0, none⟩) (Nat.le_refl _) _).setCell (p := ⟨w.heap.size, 1, none⟩) (Nat.le_refl _) _).setCell (p := ⟨w.heap.size, 2, none⟩) (Nat.le_refl _) _))
  · obtain ⟨a, ha⟩ : ∃ a, lkW (pgH s) = a := ⟨_, rfl⟩
    obtain ⟨b, hb⟩ : ∃ b, lkD (pgH s) = b := ⟨_, rfl⟩
    obtain ⟨K, hK⟩ : ∃ K, pgK s = K := ⟨_, rfl⟩
    obtain ⟨U, hU⟩ : ∃ U, gearsB a b K = U := ⟨_, rfl⟩
    have HD : Hid (pgB s = U) := Lib.hid (by unfold pgB; rw [HV.out, ha, hb, hK, hU]; rfl)
    have HE : Hid (pgW s = (if U then a else 0) ∧ pgD s = (if U then b else 0) ∧ pgZ s = (if U then K else [])) := Lib.hid (by unfold pgW pgD pgZ; rw [HD.out, ha, hb, hK]; exact ⟨rfl, rfl, rfl⟩)
    have HU := Lib.hid hU
    have HAB : Hid (lkW (pgH s) = a ∧ lkD (pgH s) = b) := Lib.hid ⟨ha, hb⟩
    rw [hK] at HM HP HN
    clear ha hb hK hU
    obtain ⟨i0, hi, hy0, hy1, hy2⟩ := info_parts info_list
    obtain ⟨a1, ha1⟩ : ∃ a1 : Addr, (if n = 0 then some (⟨w.heap.size + 1, 0, none⟩ : Addr) else some ⟨w.heap.size + 1, 1, none⟩) = some a1 := by split <;> exact ⟨_, rfl⟩
    have HA1 := Lib.hid ha1
    go_enter Tryd.func5, Tryd.ntmps5
    go_wp2_with (first
      | (go_at_call 10; refine (split_any s hs _ (HL.out.below HB0.out hl)).mono ?_; rw [HZ0.out, HNS.out]; rintro e w1 ⟨rfl, hC1, hb1⟩
         have D1 := Lib.hid hC1
         have E1 := Lib.hid (HQ.out.call (hb1.mono (by rw [HZ0.out]; exact Nat.le_refl _)))
         have B1 := Lib.hid (bel_call HB0.out (hb1.mono (by rw [HZ0.out]; exact Nat.le_refl _)))
         have Y1 : w.heap.size + 1 + 1 ≤ w1.heap.size := hC1.lt
         have o1 : w1.cell? ⟨w.heap.size + 1, 0, none⟩ = some (.string (pgH s)) := by rw [D1.out.cell (show 0 < n + 1 by omega), HS0.out]
         clear hC1 hb1)
      | (go_at_call 11; refine (lockWithText_any _ hHs _ (HL.out.below B1.out hl)).mono ?_; rw [HV.out, if_pos rfl, if_pos rfl, HAB.out.1, HAB.out.2]; rintro e w2 ⟨rfl, hb2⟩
         have D2 := Lib.hid (D1.out.call hb2)
         have E2 := Lib.hid (E1.out.call hb2)
         have B2 := Lib.hid (bel_call B1.out hb2)
         have Y2 : w.heap.size + 1 + 1 ≤ w2.heap.size := Nat.le_trans Y1 hb2.size
         clear hb2))
    clear ha1 o1
    have CU : Cells ((w2.alloc (.cells #[.int .i64 a, .int .i64 b] 23)).alloc (.cells #[.int .i64 a, .int .i64 b, .slice none 0 0] 26)) (w.heap.size + 1) (n + 1) (strF (spA 58 s)) := (D2.out.alloc _).alloc _
    have CQ : Cells ((w2.alloc (.cells #[.int .i64 a, .int .i64 b] 23)).alloc (.cells #[.int .i64 a, .int .i64 b, .slice none 0 0] 26)) w.heap.size 3 (gF 0 0 (.slice none 0 0)) := (E2.out.alloc _).alloc _
    have CT : Cells ((w2.alloc (.cells #[.int .i64 a, .int .i64 b] 23)).alloc (.cells #[.int .i64 a, .int .i64 b, .slice none 0 0] 26)) (w2.heap.size + 1) 3 (gF a b (.slice none 0 0)) := Cells.new (n := 3) (by simp) rfl
    have hB0 : Below w.heap.size w ((w2.alloc (.cells #[.int .i64 a, .int .i64 b] 23)).alloc (.cells #[.int .i64 a, .int .i64 b, .slice none 0 0] 26)) := (B2.out.alloc B2.out.size _).alloc (B2.out.alloc B2.out.size _).size _
    have hz0 : w2.heap.size + 2 ≤ ((w2.alloc (.cells #[.int .i64 a, .int .i64 b] 23)).alloc (.cells #[.int .i64 a, .int .i64 b, .slice none 0 0] 26)).heap.size := by simp
    obtain ⟨sz, hsz⟩ : ∃ sz, w2.heap.size = sz := ⟨_, rfl⟩
    rw [hsz] at CT hz0 Y2 ⊢
    clear D1 E1 B1 D2 E2 B2 Y1
    go_loopw [27] (fun i wr => ∃ (k : Nat) (v : Value) (G Cp : Nat → Nat), k ≤ n ∧ i = .int .i64 k ∧ RowG wr (sz + 2) v (K.take k) G Cp ∧ Cells wr (w.heap.size + 1) (n + 1) (strF (spA 58 s)) ∧ Cells wr w.heap.size 3 (gF 0 0 (.slice none 0 0)) ∧ Cells wr (sz + 1) 3 (gF a b v) ∧ sz + 2 ≤ wr.heap.size ∧ Below w.heap.size w wr) (fun i _ => n - (intOf i).toNat)
    case atStart => exact ⟨0, .slice none 0 0, fun _ => 0, fun _ => 0, by omega, rfl, ⟨World.ownsRow_nil _ _ _ _, fun i hi => by simp at hi, fun i j hi => by simp at hi⟩, CU, CQ, CT, hz0, hB0⟩
    case round =>
      clear CU CQ CT hB0 hz0
      obtain ⟨k, v, G, Cp, hk, rfl, hR, hU, hQ, hT, hz, hB⟩ := hrel
      have HR := Lib.hid hR
      have HU4 := Lib.hid hU
      have HQ := Lib.hid hQ
      have HT := Lib.hid hT
      clear hR hU hQ hT
      by_cases hlt : k < n
      · obtain rfl := drop_at hlt HA1.out
        obtain ⟨hts, hkd⟩ := HP.out k hlt
        have o1 : wr.cell? ⟨w.heap.size + 1, 1 + k, none⟩ = some (.string ((pgP s).getD k ByteArray.empty)) := by rw [HU4.out.cell (show 1 + k < n + 1 by omega), HS1.out]
        have hwl : (K.take k).length ≤ k := by rw [List.length_take]; omega
        have HWO : Hid (K.take (k + 1) = K.take k ++ [dgA ((pgP s).getD k ByteArray.empty)]) := Lib.hid (by rw [take_snocP (by rw [HN.out]; exact hlt), hkd])
        generalize (pgP s).getD k ByteArray.empty = t at hts o1 HWO
        generalize K.take k = K0 at HR hwl HWO
        clear hkd
        have m2 : wr.cell? ⟨sz + 1, 2, none⟩ = some v := HT.out.cell (show 2 < 3 by omega)
        go_wp2_with fail
        go_region_law (first
          | (go_simp; go_at_call 12; refine (digitsOfA_any t _ hts).mono ?_; rintro e w2 ⟨g2, c2, rfl, hg2, hC2, hb2⟩
             have HB2 := Lib.hid (below_undrew hb2)
             have HC2 := Lib.hid hC2
             have HG2 := Lib.hid hg2
             have HT2 := Lib.hid (HT.out.call HB2.out)
             have m3 : w2.cell? ⟨sz + 1, 2, none⟩ = some v := HT2.out.cell (show 2 < 3 by omega)
             have m4 : (w2.alloc (.cells #[.slice (some ⟨g2, 0, none⟩) t.size c2] 36)).cell? ⟨sz + 1, 2, none⟩ = some v := (HT2.out.alloc _).cell (show 2 < 3 by omega)
             have HO2 := Lib.hid ((own_kept HR.out.own HB2.out).alloc (.cells #[.slice (some ⟨g2, 0, none⟩) t.size c2] 36))
             have HZ2 := Lib.hid (Nat.le_trans hz HB2.out.size)
             clear hb2 hC2 hg2)
          | (refine step_append_at rfl (.tmp 32) (.tmp 35) 24 rfl (sz + 2) 36 i0 (.slice none 0 0) 1 24 Tryd.underlying24 hi hy0 hy1 hy2 rfl (by decide) v K0.length (rowV K0 G Cp) rfl HO2.out ⟨w2.heap.size, 0, none⟩ 1 1 [.slice (some ⟨g2, 0, none⟩) t.size c2] rfl rfl (news_one rfl) (by simp [Value.oneCell']) (by unfold maxLen; omega) (by omega) (by have := HZ2.out; simp; omega) ?_; intro v' w4 hown' hgrow hblk
             have HR4 := Lib.hid (HR.out.snoc HB2.out hz HG2.out HC2.out (dgA_length t) hown' hgrow hblk)
             have hlt2 := HO2.out.lt
             have HT4 := Lib.hid ((HT2.out.alloc (.cells #[.slice (some ⟨g2, 0, none⟩) t.size c2] 36)).kept hgrow (fun e => by have := (hlt2 _ e).1; omega))
             have HV4 := Lib.hid (((HU4.out.call HB2.out).alloc (.cells #[.slice (some ⟨g2, 0, none⟩) t.size c2] 36)).kept hgrow (fun e => by have := (hlt2 _ e).1; omega))
             have HQ4 := Lib.hid (((HQ.out.call HB2.out).alloc (.cells #[.slice (some ⟨g2, 0, none⟩) t.size c2] 36)).kept hgrow (fun e => by have := (hlt2 _ e).1; omega))
             have HB4 := Lib.hid (((bel_call hB HB2.out).alloc (bel_call hB HB2.out).size _).grown hgrow (by have := HZ2.out; simp; omega) (fun j hj => by have := (hlt2 j hj).1; omega))
             have HZ4 := Lib.hid (show sz + 2 ≤ w4.heap.size by have h1 := HZ2.out; have h2 := hgrow.size; simp at h2; omega)
             obtain ⟨g', cap', rfl⟩ := row_succ hown'
             have c2' : w4.cell? ⟨sz + 1, 2, none⟩ = some v := HT4.out.cell (show 2 < 3 by omega)
             have c3 := HT4.out.frozen (show 2 < 3 by omega)
             clear hown' hgrow hblk hlt2))
        all_goals
          have HRN := Lib.hid (HR4.out.far (g := sz + 1) (k := 2) (by omega) (.slice (some ⟨g', 0, none⟩) (K0.length + 1) cap'))
          have HUN := Lib.hid (HV4.out.far (p := ⟨sz + 1, 2, none⟩) (by show sz + 1 ≠ w.heap.size + 1; omega) (.slice (some ⟨g', 0, none⟩) (K0.length + 1) cap'))
          have HQN := Lib.hid (HQ4.out.far (p := ⟨sz + 1, 2, none⟩) (by show sz + 1 ≠ w.heap.size; omega) (.slice (some ⟨g', 0, none⟩) (K0.length + 1) cap'))
          have HTN := Lib.hid ((HT4.out.set_ (show 2 < 3 by omega) (.slice (some ⟨g', 0, none⟩) (K0.length + 1) cap')).congr (f' := gF a b (.slice (some ⟨g', 0, none⟩) (K0.length + 1) cap')) (fun j hj => by
            have : j = 0 ∨ j = 1 ∨ j = 2 := by omega
            rcases this with rfl | rfl | rfl <;> rfl))
          go_wp2_with fail
          go_roundw
          case rel => exact ⟨k + 1, _, _, _, by omega, by go_num, by rw [HWO.out]; exact HRN.out, HUN.out, HQN.out, HTN.out, by rw [size_setCell]; exact HZ4.out, HB4.out.setCell (by show w.heap.size ≤ sz + 1; omega) _⟩
          case measure => simp [intOf]; omega
      · obtain rfl : k = n := by omega
        rw [List.take_of_length_le (by rw [HN.out]; exact Nat.le_refl _)] at HR
        obtain ⟨A', c', hv⟩ := HR.out.slice
        rw [HN.out] at hv
        subst hv
        have HKA := Lib.hid (HR.out.read HN.out)
        have t0 : wr.cell? ⟨sz + 1, 0, none⟩ = some (.int .i64 a) := HT.out.cell (show 0 < 3 by omega)
        have t1 : wr.cell? ⟨sz + 1, 1, none⟩ = some (.int .i64 b) := HT.out.cell (show 1 < 3 by omega)
        have t2 : wr.cell? ⟨sz + 1, 2, none⟩ = some (.slice A' k c') := HT.out.cell (show 2 < 3 by omega)
        rcases U with _ | _
        · go_wp2_with (go_at_call 13; refine (areGears_any a b _ _ _ K _ HM.out (HKA.out.knobs HM.out)).mono ?_; rw [HU.out]; rintro e w5 ⟨rfl, hb5⟩
                       have HQ5 := Lib.hid (HQ.out.call hb5)
                       have HB5 := Lib.hid (bel_call hB hb5)
                       have q0 := HQ5.out.cell (show 0 < 3 by omega)
                       have q1 := HQ5.out.cell (show 1 < 3 by omega)
                       have q2 := HQ5.out.cell (show 2 < 3 by omega)
                       have f0 := HQ5.out.frozen (show 0 < 3 by omega)
                       have f1 := HQ5.out.frozen (show 1 < 3 by omega)
                       have f2 := HQ5.out.frozen (show 2 < 3 by omega)
                       clear hb5 t0 t1 t2)
          refine bodyPost_ret (v := .tuple #[.agg #[.int .i64 0, .int .i64 0, .slice none 0 0], .bool false]) (by simp [results, Tryd.results5, go_sem, q0, q1, q2]) rfl ?_
          rw [HE.out.1, HE.out.2.1, HE.out.2.2, HD.out]
          exact gears_none (((HB5.out.setCell (p := ⟨w.heap.size, 0, none⟩) (Nat.le_refl _) _).setCell (p := ⟨w.heap.size, 1, none⟩) (Nat.le_refl _) _).setCell (p := ⟨w.heap.size, 2, none⟩) (Nat.le_refl _) _)
        · go_wp2_with (go_at_call 13; refine (areGears_any a b _ _ _ K _ HM.out (HKA.out.knobs HM.out)).mono ?_; rw [HU.out]; rintro e w5 ⟨rfl, hb5⟩
                       have HQ5 := Lib.hid (HQ.out.call hb5)
                       have HT5 := Lib.hid (HT.out.call hb5)
                       have HR5 := Lib.hid (HR.out.call hb5)
                       have HB5 := Lib.hid (bel_call hB hb5)
                       have q0 := HQ5.out.cell (show 0 < 3 by omega)
                       have q1 := HQ5.out.cell (show 1 < 3 by omega)
                       have q2 := HQ5.out.cell (show 2 < 3 by omega)
                       have f0 := HQ5.out.frozen (show 0 < 3 by omega)
                       have f1 := HQ5.out.frozen (show 1 < 3 by omega)
                       have f2 := HQ5.out.frozen (show 2 < 3 by omega)
                       clear hb5 t0 t1 t2
                       have t0 : w5.cell? ⟨sz + 1, 0, none⟩ = some (.int .i64 a) := HT5.out.cell (show 0 < 3 by omega)
                       have t1 : w5.cell? ⟨sz + 1, 1, none⟩ = some (.int .i64 b) := HT5.out.cell (show 1 < 3 by omega)
                       have t2 : w5.cell? ⟨sz + 1, 2, none⟩ = some (.slice A' k c') := HT5.out.cell (show 2 < 3 by omega))
          refine bodyPost_ret (v := .tuple #[.agg #[.int .i64 a, .int .i64 b, .slice A' k c'], .bool true]) (by simp [results, Tryd.results5, go_sem, q0, q1, q2]) rfl ?_
          rw [HE.out.1, HE.out.2.1, HE.out.2.2, HD.out]
          exact ⟨_, sz + 2, _, _, rfl, by omega, ((HR5.out.far (by omega) _).far (by omega) _).far (by omega) _, ((HB5.out.setCell (p := ⟨w.heap.size, 0, none⟩) (Nat.le_refl _) _).setCell (p := ⟨w.heap.size, 1, none⟩) (Nat.le_refl _) _).setCell (p := ⟨w.heap.size, 2, none⟩) (Nat.le_refl _) _⟩

end Go.Proofs.YtealpmjkmioocaaDoor
