/- The parts of a text, as both programs make them. For texts of at most 2^20 bytes. -/
import Derived.Test.YtgdjbclkdnmebaaDoorJn
namespace Go.Proofs.YtgdjbclkdnmebaaDoor
open Go.ChangeShapes Go.WideShapes Go.ChangeAt Go.RowKit Go.Joins

set_option maxRecDepth 100000 in
set_option maxHeartbeats 2000000 in
theorem l1Split_any (s : ByteArray) (b : UInt8) (hl : s.size ≤ 1048576) (w : World) :
    Calls Tryd.prog 70 #[.string s, .int .u8 (b.toNat : Int)] w fun e w' => ∃ A c, e = .returned (.slice A (spA b s).length c) ∧ OwnS w' w.heap.size A (spA b s).length (spA b s) ∧ (spA b s).length ≤ c ∧ Below w.heap.size w w' := by
  obtain ⟨i0, hi, hz0, hz1, hz2⟩ := info_parts info_string
  go_enter Tryd.func70, Tryd.ntmps70
  go_wp2
  go_loopw [5, 6, 7] (fun v f i wr => ∃ k : Nat, k ≤ s.size ∧ i = .int .i64 k ∧ f = .int .i64 ((spK b s k).2 : Nat) ∧ wr.ownsRow w.heap.size 9 1 v (spK b s k).1.length (sv (spK b s k).1) ∧ Below w.heap.size w wr) (fun _ _ i _ => s.size - (intOf i).toNat)
  case atStart => exact ⟨0, by omega, rfl, rfl, World.ownsRow_nil _ _ _ _, Below.refl _ _⟩
  case round =>
    obtain ⟨k, hk, rfl, rfl, hown, hB⟩ := hrel
    have hle := spK_le b s k
    obtain ⟨f, hf⟩ : ∃ f, (spK b s k).2 = f := ⟨_, rfl⟩
    obtain ⟨ps, hps⟩ : ∃ ps, (spK b s k).1 = ps := ⟨_, rfl⟩
    rw [hf, hps] at hle
    rw [hps] at hown
    rw [hf]
    obtain ⟨h1, h2⟩ := hle
    by_cases hlt : k < s.size
    · have hg : s.data.toList.getD k 0 = s[k] := getD_at hlt
      by_cases hit : s[k] = b
      · have hc : s[k].toNat = b.toNat := by rw [hit]
        have hs1 : spK b s (k + 1) = (ps ++ [s.extract f k], k + 1) := by
          conv => lhs; unfold spK
          rw [hg, if_pos hit, hf, hps]
        go_wp2_with (at_builtin; refine wpList_append_own _ rfl _ _ 57 rfl w.heap.size 9 i0 (.string ByteArray.empty) 1 16 Tryd.underlying57 hi hz0 hz1 hz2 rfl (by decide) _ _ _ rfl (hown.alloc _) ⟨wr.heap.size, 0, none⟩ 1 1 [.string (s.extract f k)] rfl rfl (news_of rfl) (by simp [Value.oneCell']) (by unfold maxLen; omega) (by omega) (by have := hB.size; simp; omega) ?_)
        intro v' w1 hown' hgrow _
        have hB' : Below w.heap.size w w1 := (hB.alloc hB.size _).grown hgrow (by have := hB.size; simp; omega) (fun j hj => (hown.lt j hj).1)
        clear hgrow hown
        go_wp2
        go_roundw
        case rel =>
          refine ⟨k + 1, by omega, by go_num, ?_, ?_, hB'⟩
          · rw [hs1]; go_num
          · rw [hs1]
            show w1.ownsRow _ _ _ _ (ps ++ [s.extract f k]).length (sv (ps ++ [s.extract f k]))
            rw [List.length_append, sv_snoc]
            exact hown'
        case measure => simp [intOf]; omega
      · have hc : s[k].toNat ≠ b.toNat := fun e => hit (UInt8.toNat_inj.1 e)
        have hs1 : spK b s (k + 1) = spK b s k := by
          conv => lhs; unfold spK
          rw [hg, if_neg hit]
        go_wp2
        go_roundw
        case rel =>
          refine ⟨k + 1, by omega, by go_num, ?_, ?_, hB⟩
          · rw [hs1, hf]
          · rw [hs1, hps]; exact hown
        case measure => simp [intOf]; omega
    · obtain rfl : k = s.size := by omega
      have hA : spA b s = ps ++ [s.extract f s.size] := by unfold spA; rw [hf, hps]
      go_wp2_with (at_builtin; refine wpList_append_own _ rfl _ _ 57 rfl w.heap.size 9 i0 (.string ByteArray.empty) 1 16 Tryd.underlying57 hi hz0 hz1 hz2 rfl (by decide) _ _ _ rfl (hown.alloc _) ⟨wr.heap.size, 0, none⟩ 1 1 [.string (s.extract f s.size)] rfl rfl (news_of rfl) (by simp [Value.oneCell']) (by unfold maxLen; omega) (by omega) (by have := hB.size; simp; omega) ?_)
      intro v' w1 hown' hgrow _
      have hB' : Below w.heap.size w w1 := (hB.alloc hB.size _).grown hgrow (by have := hB.size; simp; omega) (fun j hj => (hown.lt j hj).1)
      clear hgrow hown
      go_wp2
      go_ret
      rw [← sv_snoc] at hown'
      obtain ⟨A, c, rfl, hO⟩ := own_strs (ts := ps ++ [s.extract f s.size]) hown' (by omega)
      have hcap : ps.length + [s.extract f s.size].length ≤ c := by
        rcases hown'.2 with ⟨_, h0⟩ | ⟨_, _, _, e, _, _, h1, _⟩
        · omega
        · injection e with _ _ e3
          rw [e3]
          exact h1
      rw [hA, List.length_append]
      exact ⟨A, c, rfl, hO, hcap, hB'⟩

theorem l1SplitC_any (s : ByteArray) (b : UInt8) (v : Int) (hv : (b.toNat : Int) = v) (hl : s.size ≤ 1048576) (w : World) :
    Calls Tryd.prog 70 #[.string s, .int .u8 v] w fun e w' => ∃ g c, e = .returned (.slice (some ⟨g, 0, none⟩) (spA b s).length c) ∧ w.heap.size ≤ g ∧ Cells w' g (spA b s).length (strF (spA b s)) ∧ (spA b s).length ≤ c ∧ Below w.heap.size w w' := by
  subst hv
  refine (l1Split_any s b hl w).mono ?_
  rintro e w' ⟨A, c, rfl, hO, hc, hb⟩
  have h0 : 0 < (spA b s).length := by unfold spA; simp
  obtain ⟨g, rfl, hg, hC⟩ := hO.lt h0
  exact ⟨g, c, rfl, hg, hC, hc, hb⟩

theorem jn_snoc (b : UInt8) : ∀ (ps : List (List UInt8)), ps ≠ [] → ∀ q, jn b (ps ++ [q]) = jn b ps ++ b :: q
  | [], h, _ => absurd rfl h
  | [p], _, q => rfl
  | p :: r :: ps, _, q => by
    have ih := jn_snoc b (r :: ps) (by simp) q
    show p ++ b :: jn b ((r :: ps) ++ [q]) = (p ++ b :: jn b (r :: ps)) ++ b :: q
    rw [ih]
    simp

theorem bytes_ext {x y : ByteArray} (h : x.data.toList = y.data.toList) : x = y := by
  cases x; cases y; simp only [ByteArray.mk.injEq]; exact Array.toList_inj.1 h

theorem map_ext : ∀ (xs ys : List ByteArray), xs.map (fun p => p.data.toList) = ys.map (fun p => p.data.toList) → xs = ys
  | [], [], _ => rfl
  | [], _ :: _, h => by simp at h
  | _ :: _, [], h => by simp at h
  | x :: xs, y :: ys, h => by
    rw [List.map_cons, List.map_cons] at h
    obtain ⟨h1, h2⟩ := List.cons.inj h
    rw [bytes_ext h1, map_ext xs ys h2]

theorem numB_no {n : Int} (h0 : 0 ≤ n) (h10 : n ≤ 999) (c : UInt8) (hc : c.toNat < 48 ∨ 58 ≤ c.toNat) : c ∉ (numB n).data.toList := by
  intro hm
  obtain ⟨j, hj, he⟩ := List.getElem_of_mem hm
  have h1 := (numB_is h0 h10 rfl).2.2.2.1 j hj
  rw [List.getD, List.getElem?_eq_getElem hj] at h1
  rw [show ((some (numB n).data.toList[j]).getD 0) = c from he] at h1
  omega

theorem splitC_spl : ∀ (N : Nat) (s : ByteArray), s.size ≤ N → (Lib.splitB ⟨#[44]⟩ 0 (Lib.countB s ⟨#[44]⟩) s).map (fun p => p.data.toList) = spl 44 s.data.toList
  | N, s, hN => by
    have hone : Lib.indexB s ⟨#[44]⟩ = Lib.indexByte s.data.toList 44 := Lib.index_one s.data.toList 44
    have h1 : (⟨#[44]⟩ : ByteArray).size = 1 := rfl
    rcases Lib.indexB_cases s ⟨#[44]⟩ with h | ⟨i, h, hi⟩
    · rw [Lib.splitB_miss _ _ _ _ h]
      rw [hone] at h
      have hno := Lib.indexByte_none h
      refine (spl_part 44 s.data.toList fun hm => ?_).symm
      obtain ⟨j, hj, he⟩ := List.getElem_of_mem hm
      exact hno j (by rw [List.getElem?_eq_getElem hj, he])
    · rw [Lib.countB_hit s _ i (by rw [h1]; omega) h, Nat.add_comm 1, Lib.splitB_hit _ _ _ _ i h]
      rw [h1] at hi ⊢
      rw [hone] at h
      obtain ⟨hs, hno⟩ := Lib.indexByte_some h
      have hsz : s.data.toList.length = s.size := rfl
      have hlt : i < s.data.toList.length := by omega
      have hx : (s.extract (i + 1) s.size).size = s.size - (i + 1) := by rw [ByteArray.size_extract]; omega
      cases N with
      | zero => omega
      | succ N =>
        have ih := splitC_spl N (s.extract (i + 1) s.size) (by rw [hx]; omega)
        have ht : s.data.toList.take s.size = s.data.toList := List.take_of_length_le (by omega)
        rw [List.map_cons, ih, extract_list, extract_list, ht, Nat.add_zero, List.drop_zero]
        have hget : s.data.toList[i] = 44 := by
          rw [List.getElem?_eq_getElem hlt] at hs
          exact Option.some.inj hs
        have hd : s.data.toList = s.data.toList.take i ++ 44 :: s.data.toList.drop (i + 1) := by
          conv => lhs; rw [← List.take_append_drop i s.data.toList, List.drop_eq_getElem_cons hlt, hget]
        have hnm : (44 : UInt8) ∉ s.data.toList.take i := fun hm => by
          obtain ⟨j, hj, he⟩ := List.getElem_of_mem hm
          rw [List.length_take] at hj
          rw [List.getElem_take] at he
          exact hno j (by omega) (by rw [List.getElem?_eq_getElem (by omega), he])
        conv => rhs; rw [hd, spl_app 44 _ _ hnm]

/-- What strings.Split hands back are the model's parts. -/
theorem splitC_spA (s : ByteArray) : Lib.splitB ⟨#[44]⟩ 0 (Lib.countB s ⟨#[44]⟩) s = spA 44 s :=
  map_ext _ _ (by rw [splitC_spl s.size s (Nat.le_refl _), spA_spl])

theorem splitC_any (s : ByteArray) (hs : s.size ≤ 1048576) (w : World) (hL : LibW w) :
    Calls Tryd.prog 37 #[.string s, .string ⟨#[44]⟩] w fun e w' => e = .returned (.slice (some ⟨w.heap.size, 0, none⟩) (spA 44 s).length (spA 44 s).length) ∧ Cells w' w.heap.size (spA 44 s).length (strF (spA 44 s)) ∧ Below w.heap.size w w' := by
  obtain ⟨m, hm⟩ := hL.max
  have hc : Lib.countB s ⟨#[44]⟩ + 1 = (spA 44 s).length := by rw [← splitC_spA, Lib.splitB_all ⟨#[44]⟩ (Nat.le_refl 1) 0 _ s rfl]
  refine (Go.Proofs.Tryd.strings_Split s ⟨#[44]⟩ m w (by omega) hm (Nat.le_refl 1)).mono ?_
  rintro e w' ⟨rfl, rfl⟩
  rw [hc, splitC_spA]
  refine ⟨rfl, ?_, (Below.refl _ _).alloc (Nat.le_refl _) _⟩
  refine (Cells.new (g := w.heap.size) rfl (by simp)).congr fun j hj => ?_
  simp [strF, List.getD, List.getElem?_eq_getElem hj]

theorem indexByte_at (c : UInt8) : ∀ (p q : List UInt8), c ∉ p → Lib.indexByte (p ++ c :: q) c = p.length
  | [], q, _ => by unfold Lib.indexByte; simp
  | x :: p, q, h => by
    have h1 : (x == c) = false := by
      rw [beq_eq_false_iff_ne]
      exact fun e => h (by rw [e]; exact List.mem_cons_self ..)
    rw [List.cons_append]
    unfold Lib.indexByte
    rw [h1, indexByte_at c p q (fun hm => h (List.mem_cons_of_mem _ hm))]
    have h2 : (((p.length : Nat) : Int) == -1) = false := by rw [beq_eq_false_iff_ne]; omega
    rw [h2]
    simp

/-- A text cut at the first place of a byte. -/
theorem cut_at (c : UInt8) (p q : List UInt8) (h : c ∉ p) : Lib.cut (p ++ c :: q) [c] = (p, q, true) := by
  unfold Lib.cut
  rw [Lib.index_one, indexByte_at c p q h, if_pos (by omega)]
  simp

theorem cutC_le (s : ByteArray) (sep : List UInt8) : (Lib.cut s.data.toList sep).1.length ≤ s.size ∧ (Lib.cut s.data.toList sep).2.1.length ≤ s.size := by
  unfold Lib.cut
  have hz : s.data.toList.length = s.size := rfl
  split
  · simp only [List.length_take, List.length_drop]
    omega
  · simp only [List.length_nil]
    omega

end Go.Proofs.YtgdjbclkdnmebaaDoor
