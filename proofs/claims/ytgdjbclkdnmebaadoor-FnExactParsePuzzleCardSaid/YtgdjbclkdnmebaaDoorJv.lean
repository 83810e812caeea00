/- Puzzles read from a text, as the program reads them. For texts of at most 2^20 bytes. -/
import Derived.Test.YtgdjbclkdnmebaaDoorJr
namespace Go.Proofs.YtgdjbclkdnmebaaDoor
set_option maxRecDepth 100000
open Go.ChangeShapes Go.WideShapes Go.ChangeAt Go.RowKit Go.Joins

/-- What reading hands back. -/
def zyA (s : ByteArray) : Int := if zzB s then zzA s else 0
def zyD (s : ByteArray) : Int := if zzB s then zzD s else 0
def zyK (s : ByteArray) : List Clu := if zzB s then zzK s else []

theorem spA_size (b : UInt8) (s : ByteArray) : (spA b s).length ≤ s.size + 1 := by
  unfold spA
  have := (spK_le b s s.size).2
  rw [List.length_append, List.length_singleton]
  omega

theorem spK_part (b : UInt8) (s : ByteArray) : ∀ k, k ≤ s.size → ∀ p ∈ (spK b s k).1, p.size ≤ s.size
  | 0, _, p, h => by cases h
  | k + 1, hk, p, h => by
    have ih := spK_part b s k (by omega)
    unfold spK at h
    split at h
    · rcases List.mem_append.1 h with h | h
      · exact ih p h
      · rw [List.mem_singleton.1 h, ByteArray.size_extract]; omega
    · exact ih p h

theorem spA_part (b : UInt8) (s : ByteArray) : ∀ p ∈ spA b s, p.size ≤ s.size := by
  intro p h
  unfold spA at h
  rcases List.mem_append.1 h with h | h
  · exact spK_part b s _ (Nat.le_refl _) p h
  · rw [List.mem_singleton.1 h, ByteArray.size_extract]; omega

theorem bytes_none {x : ByteArray} (h : x.size = 0) : x = ByteArray.empty := by
  refine bytes_ext ?_
  exact List.eq_nil_of_length_eq_zero h

set_option maxHeartbeats 8000000 in
theorem parsePuzzle_any (s : ByteArray) (hs : s.size ≤ 1048576) (w : World) (hL : LibW w) (hT : TabW w) :
    Calls Tryd.prog 22 #[.string s] w (PzOut w (zyA s) (zyD s) (zyK s) (zzB s)) := by
  have HLW := Lib.hid hL
  have HTW := Lib.hid hT
  have hl := hL.low
  have hl4 := hT.low
  obtain ⟨m, hm⟩ := hL.max
  clear hL hT
  obtain ⟨hzT, hzH⟩ := zzT_size s
  obtain ⟨a, ha⟩ : ∃ a, zzA s = a := ⟨_, rfl⟩
  obtain ⟨b, hb⟩ : ∃ b, zzD s = b := ⟨_, rfl⟩
  obtain ⟨K, hK⟩ : ∃ K, zzK s = K := ⟨_, rfl⟩
  have HSE : Hid (zzB s = (pzB a b K && decide (pzU a b K K.length = s))) := Lib.hid (by rw [← ha, ← hb, ← hK]; rfl)
  have HEA := Lib.hid ha
  have HED := Lib.hid hb
  have HEK := Lib.hid hK
  clear ha hb hK
  have X0 : Below w.heap.size w (w.alloc (.cells #[.int .i64 0, .int .i64 0, .slice none 0 0] 46)) := (Below.refl _ _).alloc (Nat.le_refl _) _
  go_enter Tryd.func22, Tryd.ntmps22
  go_wp2_with (go_at_call 35; refine (Go.Proofs.Tryd.strings_Cut s ⟨#[58]⟩ m _ (by omega) (by rw [X0.cell (p := ⟨0, 0, none⟩) (show 0 < w.heap.size by omega)]; exact hm)).mono ?_; rintro e w1 ⟨rfl, n1, rfl⟩; rw [show (⟨#[58]⟩ : ByteArray).data.toList = [58] from rfl, show (⟨(Lib.cut s.data.toList [58]).1.toArray⟩ : ByteArray) = zzH s from rfl, show (⟨(Lib.cut s.data.toList [58]).2.1.toArray⟩ : ByteArray) = zzT s from rfl])
  have X2 := Lib.hid (show Below w.heap.size w (((w.alloc (.cells #[.int .i64 0, .int .i64 0, .slice none 0 0] 46)).drewN n1).alloc (.cells #[.int .i64 0, .int .i64 0, .slice none 0 0] 46)) from (bel_drewN X0 n1).alloc (bel_drewN X0 n1).size _)
  have hU : ((w.alloc (.cells #[.int .i64 0, .int .i64 0, .slice none 0 0] 46)).drewN n1).heap.size = w.heap.size + 1 := World.size_alloc ..
  have C2 : Cells (((w.alloc (.cells #[.int .i64 0, .int .i64 0, .slice none 0 0] 46)).drewN n1).alloc (.cells #[.int .i64 0, .int .i64 0, .slice none 0 0] 46)) (w.heap.size + 1) 3 (g3F 0 0 (.slice none 0 0)) := Cells.new hU.symm rfl
  have R2 : Cells (((w.alloc (.cells #[.int .i64 0, .int .i64 0, .slice none 0 0] 46)).drewN n1).alloc (.cells #[.int .i64 0, .int .i64 0, .slice none 0 0] 46)) w.heap.size 3 (g3F 0 0 (.slice none 0 0)) := ((Cells.new (n := 3) rfl rfl).drewN n1).alloc _
  refine (lockWithText_any (zzH s) (by omega) _ (HLW.out.below X2.out hl)).mono ?_
  rintro e w2 ⟨rfl, hb2⟩
  rw [show (if lkS (zzH s) then lkW (zzH s) else 0) = a from HEA.out, show (if lkS (zzH s) then lkD (zzH s) else 0) = b from HED.out]
  have C3 := Lib.hid (C2.call hb2)
  have R3 := Lib.hid (R2.call hb2)
  have X3 := Lib.hid (bel_call X2.out hb2)
  have hz3 := (C2.call hb2).lt
  clear hb2 C2 R2 X2 X0 hm hU
  have C4 := Lib.hid (((C3.out.set_ (k := 0) (by omega) (.int .i64 a)).set_ (k := 1) (by omega) (.int .i64 b)).congr (f' := g3F a b (.slice none 0 0)) (fun j hj => by
    have : j = 0 ∨ j = 1 ∨ j = 2 := by omega
    rcases this with rfl | rfl | rfl <;> rfl))
  have R4 := Lib.hid ((R3.out.far (p := ⟨w.heap.size + 1, 0, none⟩) (by show w.heap.size + 1 ≠ w.heap.size; omega) (.int .i64 a)).far (p := ⟨w.heap.size + 1, 1, none⟩) (by show w.heap.size + 1 ≠ w.heap.size; omega) (.int .i64 b))
  have X4 := Lib.hid ((X3.out.setCell (p := ⟨w.heap.size + 1, 0, none⟩) (by show w.heap.size ≤ w.heap.size + 1; omega) (.int .i64 a)).setCell (p := ⟨w.heap.size + 1, 1, none⟩) (by show w.heap.size ≤ w.heap.size + 1; omega) (.int .i64 b))
  have l0 := C3.out.cell (show 0 < 3 by omega)
  have l1 := C3.out.cell (show 1 < 3 by omega)
  have l2 : w2.cell? ⟨w.heap.size + 1, 2, none⟩ = some (.slice none 0 0) := C3.out.cell (show 2 < 3 by omega)
  have f0 := C3.out.frozen (show 0 < 3 by omega)
  have f1 := C3.out.frozen (show 1 < 3 by omega)
  have hz4 : w.heap.size + 1 < ((w2.setCell ⟨w.heap.size + 1, 0, none⟩ (.int .i64 a)).setCell ⟨w.heap.size + 1, 1, none⟩ (.int .i64 b)).heap.size := by rw [size_setCell, size_setCell]; exact hz3
  obtain ⟨T, hT⟩ : ∃ T, zzT s = T := ⟨_, rfl⟩
  have HK : Hid ((T.size = 0 → K = []) ∧ (T.size ≠ 0 → K = (spA 44 T).map cnV)) := Lib.hid (by
    rw [← hT, ← HEK.out]
    unfold zzK
    exact ⟨fun h => by rw [if_pos h], fun h => by rw [if_neg h]⟩)
  rw [hT] at hzT ⊢
  clear hT hzH
  obtain ⟨U, hUe⟩ : ∃ U, w.heap.size + 1 = U := ⟨_, rfl⟩
  rw [hUe] at C4 R4 X4 l0 l1 l2 f0 f1 hz4 ⊢
  have hUlo : w.heap.size < U := by omega
  clear hUe C3 R3 X3 hz3
  by_cases hT0 : T.size = 0
  · have hKn := HK.out.1 hT0
    have hKL : K.length = 0 := by rw [hKn]; rfl
    have hTe : T.toList.isEmpty = true := by rw [bytes_none hT0, ByteArray.toList_eq]; rfl
    have HB := X4
    have HQ := R4
    have HT := C4
    have HKL := Lib.hid hKL
    have hVlo := hz4
    have HKC := Lib.hid (show KC ((w2.setCell ⟨U, 0, none⟩ (.int .i64 a)).setCell ⟨U, 1, none⟩ (.int .i64 b)) ((w2.setCell ⟨U, 0, none⟩ (.int .i64 a)).setCell ⟨U, 1, none⟩ (.int .i64 b)).heap.size ((w2.setCell ⟨U, 0, none⟩ (.int .i64 a)).setCell ⟨U, 1, none⟩ (.int .i64 b)).heap.size none 0 (cluF K) from .inl rfl)
    have hVlo : w.heap.size < ((w2.setCell ⟨U, 0, none⟩ (.int .i64 a)).setCell ⟨U, 1, none⟩ (.int .i64 b)).heap.size := by omega
    clear hKL hKn
    obtain ⟨x9, HX9⟩ : ∃ x, Hid (pzB a b K = x) := ⟨_, Lib.hid rfl⟩
    rcases x9 with _ | _
    · have HD : Hid (zzB s = false) := Lib.hid (by rw [HSE.out, HX9.out]; rfl)
      go_wp2_with (first
          | (go_at_call 19; refine (puzzleText_any a b _ _ _ K _ (by unfold maxLen; omega) (HKC.out.argN HKL.out) (HTW.out.below HB.out hl4)).mono ?_; rw [HX9.out]; rintro e w5 ⟨rfl, hb5⟩
             have B5 := Lib.hid (bel_call HB.out hb5)
             have Q5 := Lib.hid (HQ.out.call hb5)
             have T5 := Lib.hid (HT.out.call hb5)
             have K5 := Lib.hid ((HKC.out.call hb5).wide (Nat.le_refl _) hb5.size)
             have q0 := Q5.out.cell (show 0 < 3 by omega)
             have q1 := Q5.out.cell (show 1 < 3 by omega)
             have q2 := Q5.out.cell (show 2 < 3 by omega)
             have f0 := Q5.out.frozen (show 0 < 3 by omega)
             have f1 := Q5.out.frozen (show 1 < 3 by omega)
             have f2 := Q5.out.frozen (show 2 < 3 by omega)
             have t0 : w5.cell? ⟨U, 0, none⟩ = some (.int .i64 a) := T5.out.cell (show 0 < 3 by omega)
             have t1 : w5.cell? ⟨U, 1, none⟩ = some (.int .i64 b) := T5.out.cell (show 1 < 3 by omega)
             have t2 : w5.cell? ⟨U, 2, none⟩ = some ((.slice none 0 0)) := T5.out.cell (show 2 < 3 by omega)
             clear hb5))
      refine bodyPost_ret (v := .tuple #[.agg #[.int .i64 0, .int .i64 0, .slice none 0 0], .bool false]) (by simp [results, Tryd.results22, go_sem, q0, q1, q2]) rfl ?_
      unfold zyA zyD zyK
      rw [HD.out]
      exact pz_none (((B5.out.setCell (p := ⟨w.heap.size, 0, none⟩) (Nat.le_refl _) _).setCell (p := ⟨w.heap.size, 1, none⟩) (Nat.le_refl _) _).setCell (p := ⟨w.heap.size, 2, none⟩) (Nat.le_refl _) _)
    · by_cases hes : pzU a b K K.length = s
      · have HD : Hid (zzB s = true) := Lib.hid (by rw [HSE.out, HX9.out, decide_eq_true hes]; rfl)
        have HES : Hid (ptB a b K = s) := Lib.hid (by unfold ptB; rw [HX9.out, if_pos rfl]; exact hes)
        clear hes
        have hsame : (s.toList == s.toList) = true := beq_self_eq_true _
        go_wp2_with (first
            | (go_at_call 19; refine (puzzleText_any a b _ _ _ K _ (by unfold maxLen; omega) (HKC.out.argN HKL.out) (HTW.out.below HB.out hl4)).mono ?_; rw [HX9.out, HES.out]; rintro e w5 ⟨rfl, hb5⟩
               have B5 := Lib.hid (bel_call HB.out hb5)
               have Q5 := Lib.hid (HQ.out.call hb5)
               have T5 := Lib.hid (HT.out.call hb5)
               have K5 := Lib.hid ((HKC.out.call hb5).wide (Nat.le_refl _) hb5.size)
               have q0 := Q5.out.cell (show 0 < 3 by omega)
               have q1 := Q5.out.cell (show 1 < 3 by omega)
               have q2 := Q5.out.cell (show 2 < 3 by omega)
               have f0 := Q5.out.frozen (show 0 < 3 by omega)
               have f1 := Q5.out.frozen (show 1 < 3 by omega)
               have f2 := Q5.out.frozen (show 2 < 3 by omega)
               have t0 : w5.cell? ⟨U, 0, none⟩ = some (.int .i64 a) := T5.out.cell (show 0 < 3 by omega)
               have t1 : w5.cell? ⟨U, 1, none⟩ = some (.int .i64 b) := T5.out.cell (show 1 < 3 by omega)
               have t2 : w5.cell? ⟨U, 2, none⟩ = some ((.slice none 0 0)) := T5.out.cell (show 2 < 3 by omega)
               clear hb5))
        refine bodyPost_ret (v := .tuple #[.agg #[.int .i64 a, .int .i64 b, .slice none 0 0], .bool true]) (by simp [results, Tryd.results22, go_sem, q0, q1, q2]) rfl ?_
        rw [show zyA s = a by unfold zyA; rw [HD.out, HEA.out]; rfl, show zyD s = b by unfold zyD; rw [HD.out, HED.out]; rfl, show zyK s = K by unfold zyK; rw [HD.out, HEK.out]; rfl, HD.out]
        exact ⟨none, 0, by rw [HKL.out], by rw [HKL.out, size_setCell, size_setCell, size_setCell]; exact (((K5.out.far (p := ⟨w.heap.size, 0, none⟩) hVlo _).far (p := ⟨w.heap.size, 1, none⟩) hVlo _).far (p := ⟨w.heap.size, 2, none⟩) hVlo _).wide (Nat.le_of_lt hVlo) (Nat.le_refl _), ((B5.out.setCell (p := ⟨w.heap.size, 0, none⟩) (Nat.le_refl _) _).setCell (p := ⟨w.heap.size, 1, none⟩) (Nat.le_refl _) _).setCell (p := ⟨w.heap.size, 2, none⟩) (Nat.le_refl _) _⟩
      · have HD : Hid (zzB s = false) := Lib.hid (by rw [HSE.out, HX9.out, decide_eq_false hes]; rfl)
        obtain ⟨u, hu⟩ : ∃ u, ptB a b K = u := ⟨_, rfl⟩
        have HES := Lib.hid hu
        have hsame : (u.toList == s.toList) = false := bytes_neP (by rw [← hu]; unfold ptB; rw [HX9.out, if_pos rfl]; exact hes)
        clear hes hu
        go_wp2_with (first
            | (go_at_call 19; refine (puzzleText_any a b _ _ _ K _ (by unfold maxLen; omega) (HKC.out.argN HKL.out) (HTW.out.below HB.out hl4)).mono ?_; rw [HX9.out, HES.out]; rintro e w5 ⟨rfl, hb5⟩
               have B5 := Lib.hid (bel_call HB.out hb5)
               have Q5 := Lib.hid (HQ.out.call hb5)
               have T5 := Lib.hid (HT.out.call hb5)
               have K5 := Lib.hid ((HKC.out.call hb5).wide (Nat.le_refl _) hb5.size)
               have q0 := Q5.out.cell (show 0 < 3 by omega)
               have q1 := Q5.out.cell (show 1 < 3 by omega)
               have q2 := Q5.out.cell (show 2 < 3 by omega)
               have f0 := Q5.out.frozen (show 0 < 3 by omega)
               have f1 := Q5.out.frozen (show 1 < 3 by omega)
               have f2 := Q5.out.frozen (show 2 < 3 by omega)
               have t0 : w5.cell? ⟨U, 0, none⟩ = some (.int .i64 a) := T5.out.cell (show 0 < 3 by omega)
               have t1 : w5.cell? ⟨U, 1, none⟩ = some (.int .i64 b) := T5.out.cell (show 1 < 3 by omega)
               have t2 : w5.cell? ⟨U, 2, none⟩ = some ((.slice none 0 0)) := T5.out.cell (show 2 < 3 by omega)
               clear hb5))
        refine bodyPost_ret (v := .tuple #[.agg #[.int .i64 0, .int .i64 0, .slice none 0 0], .bool false]) (by simp [results, Tryd.results22, go_sem, q0, q1, q2]) rfl ?_
        unfold zyA zyD zyK
        rw [HD.out]
        exact pz_none (((B5.out.setCell (p := ⟨w.heap.size, 0, none⟩) (Nat.le_refl _) _).setCell (p := ⟨w.heap.size, 1, none⟩) (Nat.le_refl _) _).setCell (p := ⟨w.heap.size, 2, none⟩) (Nat.le_refl _) _)
  · have hKe := HK.out.2 hT0
    have hTe : T.toList.isEmpty = false := by
      cases he : T.toList.isEmpty with
      | false => rfl
      | true =>
        rw [ByteArray.toList_eq, List.isEmpty_iff] at he
        exact absurd (show T.data.toList.length = 0 by rw [he]; rfl) hT0
    obtain ⟨i0, hi, hy0i, hy1, hy2i⟩ := info_parts info_clue
    obtain ⟨n, hnl⟩ : ∃ n, (spA 44 T).length = n := ⟨_, rfl⟩
    have HNL := Lib.hid hnl
    have HKL : Hid (K.length = n) := Lib.hid (by rw [hKe, List.length_map, hnl])
    have hn0 := spA_size 44 T
    have hn1 : n ≤ 1048577 := by omega
    have HPT := Lib.hid (spA_part 44 T)
    have HKE := Lib.hid hKe
    obtain ⟨V, hV⟩ : ∃ V, ((w2.setCell ⟨U, 0, none⟩ (.int .i64 a)).setCell ⟨U, 1, none⟩ (.int .i64 b)).heap.size = V := ⟨_, rfl⟩
    have hHV := Lib.hid hV
    rw [hV] at hz4
    clear hV hnl hn0 hKe hT0 HK
    go_wp2_with (first
      | (go_at_call 37; refine (splitC_any T (by omega) _ (HLW.out.below X4.out hl)).mono ?_; rw [HNL.out, hHV.out]; rintro e w3 ⟨rfl, hS3, hb3⟩
         have S5 := Lib.hid hS3
         have hb4 : Below ((w2.setCell ⟨U, 0, none⟩ (.int .i64 a)).setCell ⟨U, 1, none⟩ (.int .i64 b)).heap.size ((w2.setCell ⟨U, 0, none⟩ (.int .i64 a)).setCell ⟨U, 1, none⟩ (.int .i64 b)) w3 := by rw [hHV.out]; exact hb3
         have C5 := Lib.hid (C4.out.call hb4)
         have R5 := Lib.hid (R4.out.call hb4)
         have X5 := Lib.hid (bel_call X4.out hb4)
         have hz5 := hS3.lt
         clear hS3 hb3 hb4))
    clear l0 l1 l2 f0 f1 hTe
    go_loopw [29] (fun i wr => ∃ (k : Nat) (v : Value), k ≤ n ∧ i = .int .i64 (k : Nat) ∧ Cells wr U 3 (g3F a b v) ∧ wr.ownsRow (V + 1) 77 3 v k (cv (K.take k)) ∧ Cells wr V n (strF (spA 44 T)) ∧ Cells wr w.heap.size 3 (g3F 0 0 (.slice none 0 0)) ∧ V + 1 ≤ wr.heap.size ∧ Below w.heap.size w wr) (fun i _ => n - (intOf i).toNat)
    case atStart => exact ⟨0, _, by omega, rfl, C5.out, World.ownsRow_nil _ _ _ _, S5.out, R5.out, hz5, X5.out⟩
    case round =>
      clear C4 R4 X4 C5 R5 X5 S5 hz5
      obtain ⟨k, v, hk, rfl, hC, hO, hS, hR, hz, hB⟩ := hrel
      have HC := Lib.hid hC
      have HO := Lib.hid hO
      have HS := Lib.hid hS
      have HR := Lib.hid hR
      have HB := Lib.hid hB
      clear hC hO hS hR hB
      by_cases hlt : k < n
      · have hts : ((spA 44 T).getD k ByteArray.empty).size ≤ 1048576 := by
          rw [List.getD, List.getElem?_eq_getElem (show k < (spA 44 T).length by rw [HNL.out]; exact hlt)]
          have := HPT.out _ (List.getElem_mem (show k < (spA 44 T).length by rw [HNL.out]; exact hlt))
          show ((spA 44 T)[k]'_).size ≤ _
          omega
        have o1 : wr.cell? ⟨V, k, none⟩ = some (.string ((spA 44 T).getD k ByteArray.empty)) := HS.out.cell hlt
        have HX : Hid (K.take (k + 1) = K.take k ++ [cnV ((spA 44 T).getD k ByteArray.empty)]) := Lib.hid (by
          have h1 : k < (spA 44 T).length := by rw [HNL.out]; exact hlt
          rw [HKE.out, List.take_succ_eq_append_getElem (by rw [List.length_map]; exact h1), List.getElem_map, List.getD, List.getElem?_eq_getElem h1]
          rfl)
        have HLL : Hid ((K.take k).length = k) := Lib.hid (by rw [List.length_take, HKL.out]; omega)
        obtain ⟨L, hL⟩ : ∃ L, K.take k = L := ⟨_, rfl⟩
        rw [hL] at HX HO HLL
        generalize (spA 44 T).getD k ByteArray.empty = t at hts o1 HX
        clear hL
        obtain ⟨⟨ck, ca, cb⟩, hcl⟩ : ∃ c, cnV t = c := ⟨_, rfl⟩
        rw [hcl] at HX
        have hc0 : cqN t 0 = ck := congrArg Prod.fst hcl
        have hc1 : cqN t 1 = ca := congrArg (fun c : Clu => c.2.1) hcl
        have hc2 : cqN t 2 = cb := congrArg (fun c : Clu => c.2.2) hcl
        have HC0 := Lib.hid hc0
        have HC1 := Lib.hid hc1
        have HC2 := Lib.hid hc2
        clear hcl hc0 hc1 hc2
        obtain ⟨Av, cV, rfl, _⟩ := own_kc HO.out HLL.out
        have c2 : wr.cell? ⟨U, 2, none⟩ = some (.slice Av k cV) := HC.out.cell (show 2 < 3 by omega)
        go_wp2_with fail
        go_region_law (first
          | ((try go_simp); go_at_call 53; refine (clueNear_any t hts _ (HLW.out.below (bel_drew HB.out) hl)).mono ?_; rw [HC0.out, HC1.out, HC2.out]; rintro e w7 ⟨rfl, hb7⟩
             have HB7 : Hid (Below wr.heap.size wr w7) := Lib.hid (below_undrew hb7)
             have HS7 := Lib.hid (HS.out.call HB7.out)
             have HR7 := Lib.hid (HR.out.call HB7.out)
             have HC7 := Lib.hid (HC.out.call HB7.out)
             have HO7 := Lib.hid (rowv_kept HO.out HB7.out)
             have d2 : w7.cell? ⟨U, 2, none⟩ = some (.slice Av k cV) := HC7.out.cell (show 2 < 3 by omega)
             have d3 : (w7.alloc (.cells #[.int .i64 ck, .int .i64 ca, .int .i64 cb] 77)).cell? ⟨U, 2, none⟩ = some (.slice Av k cV) := (HC7.out.alloc _).cell (show 2 < 3 by omega)
             have hz7 : V + 1 ≤ w7.heap.size := Nat.le_trans hz HB7.out.size
             clear hb7)
          | (refine step_appC rfl (.tmp 34) (.tmp 37) 44 rfl (V + 1) 77 i0 (.agg #[.int .i64 0, .int .i64 0, .int .i64 0]) 3 24 Tryd.underlying44 hi hy0i hy1 hy2i rfl (by decide) (.slice Av k cV) k (cv L) rfl (HO7.out.alloc _) ⟨w7.heap.size, 0, none⟩ 1 1 [.int .i64 ck, .int .i64 ca, .int .i64 cb] rfl rfl (news_c (Cells.new (n := 3) rfl rfl)) (one_c ck ca cb) (by unfold maxLen; omega) (by omega) (by simp; omega) ?_; intro v9 w9 hown9 hgrow9
             have hO9 : w9.ownsRow (V + 1) 77 3 v9 (k + 1) (cv (L ++ [(ck, ca, cb)])) := by rw [← cv_snoc]; exact hown9
             obtain ⟨A9, c9, rfl, _⟩ := own_kc hO9 (by rw [List.length_append, HLL.out]; rfl)
             have HO9 := Lib.hid hO9
             have HC9 := Lib.hid ((HC7.out.alloc _).keptC hgrow9 (fun e => by have := (HO7.out.lt U e).1; omega))
             have HS9 := Lib.hid ((HS7.out.alloc _).keptC hgrow9 (fun e => by have := (HO7.out.lt V e).1; omega))
             have HR9 := Lib.hid ((HR7.out.alloc _).keptC hgrow9 (fun e => by have := (HO7.out.lt w.heap.size e).1; omega))
             have HB9 := Lib.hid (((bel_call HB.out HB7.out).alloc (bel_call HB.out HB7.out).size (.cells #[.int .i64 ck, .int .i64 ca, .int .i64 cb] 77)).grown hgrow9 (by have := (bel_call HB.out HB7.out).size; simp; omega) (fun j hj => by have := (HO7.out.lt j hj).1; omega))
             have y2 : w9.cell? ⟨U, 2, none⟩ = some (.slice Av k cV) := HC9.out.cell (show 2 < 3 by omega)
             have yf2 := HC9.out.frozen (show 2 < 3 by omega)
             have hz9 : V + 1 ≤ w9.heap.size := by have h1 := hgrow9.size; rw [World.size_alloc] at h1; omega
             clear hown9 hgrow9 hO9))
        all_goals
          go_wp2_with fail
          go_roundw
          case rel =>
            refine ⟨k + 1, .slice A9 (k + 1) c9, by omega, by go_num, (HC9.out.set_ (show 2 < 3 by omega) (.slice A9 (k + 1) c9)).congr (fun i hi3 => ?_), ?_, HS9.out.far (by show U ≠ V; omega) _, HR9.out.far (by show U ≠ w.heap.size; omega) _, by rw [size_setCell]; exact hz9, HB9.out.setCell (by show w.heap.size ≤ U; omega) _⟩
            · have : i = 0 ∨ i = 1 ∨ i = 2 := by omega
              rcases this with rfl | rfl | rfl <;> rfl
            · rw [HX.out]
              exact ownsRow_setCell_below HO9.out (by show U < V + 1; omega) _
          case measure => simp [intOf]; omega
      · obtain rfl : k = n := by omega
        have hO := HO.out
        rw [List.take_of_length_le (by rw [HKL.out]; exact Nat.le_refl _)] at hO
        obtain ⟨A', c', rfl, hKC⟩ := own_kc hO HKL.out
        have HKC := Lib.hid hKC
        have HT := HC
        have HQ := HR
        have hVlo : w.heap.size < V + 1 := by omega
        clear hO hKC HO
        have m0 : wr.cell? ⟨U, 0, none⟩ = some (.int .i64 a) := HC.out.cell (show 0 < 3 by omega)
        have m1 : wr.cell? ⟨U, 1, none⟩ = some (.int .i64 b) := HC.out.cell (show 1 < 3 by omega)
        have m2 : wr.cell? ⟨U, 2, none⟩ = some (.slice A' k c') := HC.out.cell (show 2 < 3 by omega)
        obtain ⟨x9, HX9⟩ : ∃ x, Hid (pzB a b K = x) := ⟨_, Lib.hid rfl⟩
        rcases x9 with _ | _
        · have HD : Hid (zzB s = false) := Lib.hid (by rw [HSE.out, HX9.out]; rfl)
          go_wp2_with (first
              | (go_at_call 19; refine (puzzleText_any a b _ _ _ K _ (by unfold maxLen; omega) (HKC.out.argN HKL.out) (HTW.out.below HB.out hl4)).mono ?_; rw [HX9.out]; rintro e w5 ⟨rfl, hb5⟩
                 have B5 := Lib.hid (bel_call HB.out hb5)
                 have Q5 := Lib.hid (HQ.out.call hb5)
                 have T5 := Lib.hid (HT.out.call hb5)
                 have K5 := Lib.hid ((HKC.out.call hb5).wide (Nat.le_refl _) hb5.size)
                 have q0 := Q5.out.cell (show 0 < 3 by omega)
                 have q1 := Q5.out.cell (show 1 < 3 by omega)
                 have q2 := Q5.out.cell (show 2 < 3 by omega)
                 have f0 := Q5.out.frozen (show 0 < 3 by omega)
                 have f1 := Q5.out.frozen (show 1 < 3 by omega)
                 have f2 := Q5.out.frozen (show 2 < 3 by omega)
                 have t0 : w5.cell? ⟨U, 0, none⟩ = some (.int .i64 a) := T5.out.cell (show 0 < 3 by omega)
                 have t1 : w5.cell? ⟨U, 1, none⟩ = some (.int .i64 b) := T5.out.cell (show 1 < 3 by omega)
                 have t2 : w5.cell? ⟨U, 2, none⟩ = some ((.slice A' k c')) := T5.out.cell (show 2 < 3 by omega)
                 clear hb5))
          refine bodyPost_ret (v := .tuple #[.agg #[.int .i64 0, .int .i64 0, .slice none 0 0], .bool false]) (by simp [results, Tryd.results22, go_sem, q0, q1, q2]) rfl ?_
          unfold zyA zyD zyK
          rw [HD.out]
          exact pz_none (((B5.out.setCell (p := ⟨w.heap.size, 0, none⟩) (Nat.le_refl _) _).setCell (p := ⟨w.heap.size, 1, none⟩) (Nat.le_refl _) _).setCell (p := ⟨w.heap.size, 2, none⟩) (Nat.le_refl _) _)
        · by_cases hes : pzU a b K K.length = s
          · have HD : Hid (zzB s = true) := Lib.hid (by rw [HSE.out, HX9.out, decide_eq_true hes]; rfl)
            have HES : Hid (ptB a b K = s) := Lib.hid (by unfold ptB; rw [HX9.out, if_pos rfl]; exact hes)
            clear hes
            have hsame : (s.toList == s.toList) = true := beq_self_eq_true _
            go_wp2_with (first
                | (go_at_call 19; refine (puzzleText_any a b _ _ _ K _ (by unfold maxLen; omega) (HKC.out.argN HKL.out) (HTW.out.below HB.out hl4)).mono ?_; rw [HX9.out, HES.out]; rintro e w5 ⟨rfl, hb5⟩
                   have B5 := Lib.hid (bel_call HB.out hb5)
                   have Q5 := Lib.hid (HQ.out.call hb5)
                   have T5 := Lib.hid (HT.out.call hb5)
                   have K5 := Lib.hid ((HKC.out.call hb5).wide (Nat.le_refl _) hb5.size)
                   have q0 := Q5.out.cell (show 0 < 3 by omega)
                   have q1 := Q5.out.cell (show 1 < 3 by omega)
                   have q2 := Q5.out.cell (show 2 < 3 by omega)
                   have f0 := Q5.out.frozen (show 0 < 3 by omega)
                   have f1 := Q5.out.frozen (show 1 < 3 by omega)
                   have f2 := Q5.out.frozen (show 2 < 3 by omega)
                   have t0 : w5.cell? ⟨U, 0, none⟩ = some (.int .i64 a) := T5.out.cell (show 0 < 3 by omega)
                   have t1 : w5.cell? ⟨U, 1, none⟩ = some (.int .i64 b) := T5.out.cell (show 1 < 3 by omega)
                   have t2 : w5.cell? ⟨U, 2, none⟩ = some ((.slice A' k c')) := T5.out.cell (show 2 < 3 by omega)
                   clear hb5))
            refine bodyPost_ret (v := .tuple #[.agg #[.int .i64 a, .int .i64 b, .slice A' k c'], .bool true]) (by simp [results, Tryd.results22, go_sem, q0, q1, q2]) rfl ?_
            rw [show zyA s = a by unfold zyA; rw [HD.out, HEA.out]; rfl, show zyD s = b by unfold zyD; rw [HD.out, HED.out]; rfl, show zyK s = K by unfold zyK; rw [HD.out, HEK.out]; rfl, HD.out]
            exact ⟨A', c', by rw [HKL.out], by rw [HKL.out, size_setCell, size_setCell, size_setCell]; exact (((K5.out.far (p := ⟨w.heap.size, 0, none⟩) hVlo _).far (p := ⟨w.heap.size, 1, none⟩) hVlo _).far (p := ⟨w.heap.size, 2, none⟩) hVlo _).wide (Nat.le_of_lt hVlo) (Nat.le_refl _), ((B5.out.setCell (p := ⟨w.heap.size, 0, none⟩) (Nat.le_refl _) _).setCell (p := ⟨w.heap.size, 1, none⟩) (Nat.le_refl _) _).setCell (p := ⟨w.heap.size, 2, none⟩) (Nat.le_refl _) _⟩
          · have HD : Hid (zzB s = false) := Lib.hid (by rw [HSE.out, HX9.out, decide_eq_false hes]; rfl)
            obtain ⟨u, hu⟩ : ∃ u, ptB a b K = u := ⟨_, rfl⟩
            have HES := Lib.hid hu
            have hsame : (u.toList == s.toList) = false := bytes_neP (by rw [← hu]; unfold ptB; rw [HX9.out, if_pos rfl]; exact hes)
            clear hes hu
            go_wp2_with (first
                | (go_at_call 19; refine (puzzleText_any a b _ _ _ K _ (by unfold maxLen; omega) (HKC.out.argN HKL.out) (HTW.out.below HB.out hl4)).mono ?_; rw [HX9.out, HES.out]; rintro e w5 ⟨rfl, hb5⟩
                   have B5 := Lib.hid (bel_call HB.out hb5)
                   have Q5 := Lib.hid (HQ.out.call hb5)
                   have T5 := Lib.hid (HT.out.call hb5)
                   have K5 := Lib.hid ((HKC.out.call hb5).wide (Nat.le_refl _) hb5.size)
                   have q0 := Q5.out.cell (show 0 < 3 by omega)
                   have q1 := Q5.out.cell (show 1 < 3 by omega)
                   have q2 := Q5.out.cell (show 2 < 3 by omega)
                   have f0 := Q5.out.frozen (show 0 < 3 by omega)
                   have f1 := Q5.out.frozen (show 1 < 3 by omega)
                   have f2 := Q5.out.frozen (show 2 < 3 by omega)
                   have t0 : w5.cell? ⟨U, 0, none⟩ = some (.int .i64 a) := T5.out.cell (show 0 < 3 by omega)
                   have t1 : w5.cell? ⟨U, 1, none⟩ = some (.int .i64 b) := T5.out.cell (show 1 < 3 by omega)
                   have t2 : w5.cell? ⟨U, 2, none⟩ = some ((.slice A' k c')) := T5.out.cell (show 2 < 3 by omega)
                   clear hb5))
            refine bodyPost_ret (v := .tuple #[.agg #[.int .i64 0, .int .i64 0, .slice none 0 0], .bool false]) (by simp [results, Tryd.results22, go_sem, q0, q1, q2]) rfl ?_
            unfold zyA zyD zyK
            rw [HD.out]
            exact pz_none (((B5.out.setCell (p := ⟨w.heap.size, 0, none⟩) (Nat.le_refl _) _).setCell (p := ⟨w.heap.size, 1, none⟩) (Nat.le_refl _) _).setCell (p := ⟨w.heap.size, 2, none⟩) (Nat.le_refl _) _)

end Go.Proofs.YtgdjbclkdnmebaaDoor
