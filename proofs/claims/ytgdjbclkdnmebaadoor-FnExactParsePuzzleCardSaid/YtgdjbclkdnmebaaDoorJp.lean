/- Puzzles read from a text: what is read. -/
import Derived.Test.YtgdjbclkdnmebaaDoorJo
namespace Go.Proofs.YtgdjbclkdnmebaaDoor
set_option maxRecDepth 100000
open Go.ChangeShapes Go.WideShapes Go.ChangeAt Go.RowKit Go.Joins

/-- A text parted at the first place of a byte. -/
theorem splitB_at (k : Nat) (c : UInt8) (s p q : ByteArray) (h : s.data.toList = p.data.toList ++ c :: q.data.toList) (hp : c ∉ p.data.toList) : Lib.splitB ⟨#[c]⟩ 0 (k + 1) s = p :: Lib.splitB ⟨#[c]⟩ 0 k q := by
  have hi : Lib.indexB s ⟨#[c]⟩ = (p.data.toList.length : Nat) := by
    show Lib.index s.data.toList [c] = _
    rw [Lib.index_one, h, indexByte_at c _ _ hp]
  rw [Lib.splitB_hit _ _ _ _ _ hi]
  have hsz : s.data.toList.length = s.size := rfl
  have h1 : (⟨#[c]⟩ : ByteArray).size = 1 := rfl
  congr 1
  · refine bytes_ext ?_
    rw [extract_list, h]
    simp
  · congr 1
    refine bytes_ext ?_
    have hp1 : p.data.toList.length = p.size := rfl
    rw [extract_list, List.take_of_length_le (by omega), h, h1, hp1]
    rw [show p.data.toList ++ c :: q.data.toList = (p.data.toList ++ [c]) ++ q.data.toList by rw [List.append_assoc]; rfl]
    exact List.drop_left' (by rw [List.length_append, hp1]; rfl)

/-- The parts of a clue's text, as strings.SplitN makes them. -/
def cnP (t : ByteArray) : List ByteArray := Lib.splitB ⟨#[46]⟩ 0 (min 3 (t.size + 1) - 1) t

def cqN (t : ByteArray) (j : Nat) : Int := if j < (cnP t).length then atoiV ((cnP t).getD j ByteArray.empty).data.toList else 0

/-- The clue that the program reads. -/
def cnV (t : ByteArray) : Clu := (cqN t 0, cqN t 1, cqN t 2)

theorem cnP_length (t : ByteArray) : (cnP t).length ≤ 3 := by
  have := Lib.splitB_length_le ⟨#[46]⟩ 0 (min 3 (t.size + 1) - 1) t
  unfold cnP
  omega

def cluOk (c : Clu) : Prop := 0 ≤ c.1 ∧ c.1 ≤ 4 ∧ 0 ≤ c.2.1 ∧ c.2.1 ≤ 124 ∧ 0 ≤ c.2.2 ∧ c.2.2 ≤ 60

theorem clT_list (c : Clu) : (clT c).data.toList = (numB c.1).data.toList ++ 46 :: ((numB c.2.1).data.toList ++ 46 :: (numB c.2.2).data.toList) := by
  unfold clT
  rw [ByteArray.data_append, ByteArray.data_append, ByteArray.data_append, ByteArray.data_append, Array.toList_append, Array.toList_append, Array.toList_append, Array.toList_append, List.append_assoc, List.append_assoc, List.append_assoc]
  rfl

theorem numB_low {n : Int} (h0 : 0 ≤ n) (h : n ≤ 999) : 1 ≤ (numB n).size := (numB_is h0 h rfl).1

theorem cnP_clT {c : Clu} (h : cluOk c) : cnP (clT c) = [numB c.1, numB c.2.1, numB c.2.2] := by
  obtain ⟨h1, h2, h3, h4, h5, h6⟩ := h
  have n1 := numB_no (n := c.1) (by omega) (by omega) 46 (by decide)
  have n2 := numB_no (n := c.2.1) (by omega) (by omega) 46 (by decide)
  have hz : min 3 ((clT c).size + 1) - 1 = 2 := by
    have e : (clT c).size = (clT c).data.toList.length := rfl
    rw [e, clT_list, List.length_append, List.length_cons, List.length_append, List.length_cons]
    omega
  unfold cnP
  rw [hz, splitB_at 1 46 (clT c) (numB c.1) (numB c.2.1 ++ ⟨#[46]⟩ ++ numB c.2.2) (by
      rw [clT_list, ByteArray.data_append, ByteArray.data_append, Array.toList_append, Array.toList_append, List.append_assoc]
      rfl) n1,
    splitB_at 0 46 _ (numB c.2.1) (numB c.2.2) (by
      rw [ByteArray.data_append, ByteArray.data_append, Array.toList_append, Array.toList_append, List.append_assoc]
      rfl) n2]
  rfl

theorem cnV_clT {c : Clu} (h : cluOk c) : cnV (clT c) = c := by
  have e := cnP_clT h
  obtain ⟨h1, h2, h3, h4, h5, h6⟩ := h
  unfold cnV cqN
  rw [e]
  show (atoiV (numB c.1).data.toList, atoiV (numB c.2.1).data.toList, atoiV (numB c.2.2).data.toList) = c
  rw [atoiV_big (by omega) (by omega), atoiV_big (by omega) (by omega), atoiV_big (by omega) (by omega)]

theorem spA_clT {c : Clu} (h : cluOk c) : spA 46 (clT c) = [numB c.1, numB c.2.1, numB c.2.2] := by
  obtain ⟨h1, h2, h3, h4, h5, h6⟩ := h
  have n1 := numB_no (n := c.1) (by omega) (by omega) 46 (by decide)
  have n2 := numB_no (n := c.2.1) (by omega) (by omega) 46 (by decide)
  have n3 := numB_no (n := c.2.2) (by omega) (by omega) 46 (by decide)
  refine map_ext _ _ ?_
  rw [spA_spl, clT_list, spl_app 46 _ _ n1, spl_app 46 _ _ n2, spl_part 46 _ n3]
  rfl

theorem clT_no {c : Clu} (h : cluOk c) (x : UInt8) (hx : x = 44 ∨ x = 58) : x ∉ (clT c).data.toList := by
  obtain ⟨h1, h2, h3, h4, h5, h6⟩ := h
  have hx' : x.toNat < 48 ∨ 58 ≤ x.toNat := by rcases hx with rfl | rfl <;> decide
  have hx2 : x ≠ 46 := by rcases hx with rfl | rfl <;> decide
  have n1 := numB_no (n := c.1) (by omega) (by omega) x hx'
  have n2 := numB_no (n := c.2.1) (by omega) (by omega) x hx'
  have n3 := numB_no (n := c.2.2) (by omega) (by omega) x hx'
  rw [clT_list]
  intro hm
  rcases List.mem_append.1 hm with hm | hm
  · exact n1 hm
  · rcases List.mem_cons.1 hm with hm | hm
    · exact hx2 hm
    · rcases List.mem_append.1 hm with hm | hm
      · exact n2 hm
      · rcases List.mem_cons.1 hm with hm | hm
        · exact hx2 hm
        · exact n3 hm

theorem join_jn (b : UInt8) : ∀ (ps : List (List UInt8)), Lib.join ps [b] = jn b ps
  | [] => Lib.join_nil _
  | [p] => Lib.join_one p _
  | p :: q :: ps => by
    have ih := join_jn b (q :: ps)
    rw [Lib.join_cons] at ih
    rw [Lib.join_cons]
    unfold Lib.joinTail at ih ⊢
    rw [List.map_cons, List.flatten_cons]
    show _ = p ++ b :: jn b (q :: ps)
    rw [← ih]
    simp

theorem pzJ_jn (cs : List Clu) : (pzJ cs cs.length).data.toList = jn 44 ((cs.map clT).map (·.data.toList)) := by
  unfold pzJ pzP
  rw [List.take_length]
  exact join_jn 44 _

theorem pzJ_spA {cs : List Clu} (h : cs ≠ []) (hc : ∀ c ∈ cs, cluOk c) : spA 44 (pzJ cs cs.length) = cs.map clT := by
  refine map_ext _ _ ?_
  rw [spA_spl, pzJ_jn]
  refine spl_jn 44 _ (by simpa using h) ?_
  intro p hp
  rw [List.map_map, List.mem_map] at hp
  obtain ⟨c, hm, rfl⟩ := hp
  exact clT_no (hc c hm) 44 (.inl rfl)

theorem jn_no (b x : UInt8) (hx : x ≠ b) : ∀ (ps : List (List UInt8)), (∀ p ∈ ps, x ∉ p) → x ∉ jn b ps
  | [], _ => by simp [jn]
  | [p], h => h p (List.mem_cons_self ..)
  | p :: q :: ps, h => by
    have ih := jn_no b x hx (q :: ps) (fun r hr => h r (List.mem_cons_of_mem _ hr))
    show x ∉ p ++ b :: jn b (q :: ps)
    intro hm
    rcases List.mem_append.1 hm with hm | hm
    · exact h p (List.mem_cons_self ..) hm
    · rcases List.mem_cons.1 hm with hm | hm
      · exact hx hm
      · exact ih hm

theorem jn_pos (b : UInt8) : ∀ (ps : List (List UInt8)), ps ≠ [] → (∀ p ∈ ps, p ≠ []) → 0 < (jn b ps).length
  | [], h, _ => absurd rfl h
  | [p], _, h => List.length_pos_iff.2 (h p (List.mem_cons_self ..))
  | p :: q :: ps, _, h => by
    show 0 < (p ++ b :: jn b (q :: ps)).length
    rw [List.length_append, List.length_cons]
    omega

/-- The two parts of a text around the first ':'. -/
def zzH (s : ByteArray) : ByteArray := ⟨(Lib.cut s.data.toList [58]).1.toArray⟩
def zzT (s : ByteArray) : ByteArray := ⟨(Lib.cut s.data.toList [58]).2.1.toArray⟩
def zzA (s : ByteArray) : Int := if lkS (zzH s) then lkW (zzH s) else 0
def zzD (s : ByteArray) : Int := if lkS (zzH s) then lkD (zzH s) else 0
def zzK (s : ByteArray) : List Clu := if (zzT s).size = 0 then [] else (spA 44 (zzT s)).map cnV

/-- Whether the text is a puzzle's. -/
def zzB (s : ByteArray) : Bool := pzB (zzA s) (zzD s) (zzK s) && decide (pzU (zzA s) (zzD s) (zzK s) (zzK s).length = s)

theorem zzT_size (s : ByteArray) : (zzT s).size ≤ s.size ∧ (zzH s).size ≤ s.size := by
  have := cutC_le s [58]
  unfold zzT zzH
  show (List.toArray _).size ≤ _ ∧ (List.toArray _).size ≤ _
  rw [List.size_toArray, List.size_toArray]
  omega

theorem clu_ok {a b : Int} {cs : List Clu} (h : pzB a b cs = true) : ∀ c ∈ cs, cluOk c := by
  obtain ⟨h1, h2, h3⟩ := pzB_yes h
  intro c hc
  exact clu_bounds h1 (List.all_eq_true.1 h3 c hc)

theorem lkB_no {a b : Int} (h : goodB a b = true) : (58 : UInt8) ∉ (lkB a b).data.toList := by
  have hg := good_yes h
  rw [lkB_list]
  intro hm
  rcases List.mem_append.1 hm with hm | hm
  · exact numB_no (by omega) (by omega) 58 (by decide) hm
  · rcases List.mem_cons.1 hm with hm | hm
    · exact absurd hm (by decide)
    · exact numB_no (by omega) (by omega) 58 (by decide) hm

theorem pzU_list (a b : Int) (cs : List Clu) : (pzU a b cs cs.length).data.toList = (lkB a b).data.toList ++ 58 :: (pzJ cs cs.length).data.toList := by
  rw [pzU_join _ (Nat.le_refl _), ByteArray.data_append, ByteArray.data_append, Array.toList_append, Array.toList_append, List.append_assoc]
  rfl

/-- What a puzzle's text is read as. -/
theorem zz_of {a b : Int} {cs : List Clu} {s : ByteArray} (h : pzB a b cs = true) (hs : pzU a b cs cs.length = s) : zzH s = lkB a b ∧ zzT s = pzJ cs cs.length ∧ zzA s = a ∧ zzD s = b ∧ zzK s = cs := by
  obtain ⟨h1, h2, h3⟩ := pzB_yes h
  have hg := (puzB_yes h1).1
  have hok := clu_ok h
  have hcut : Lib.cut s.data.toList [58] = ((lkB a b).data.toList, (pzJ cs cs.length).data.toList, true) := by
    rw [← hs, pzU_list, cut_at 58 _ _ (lkB_no hg)]
  have eH : zzH s = lkB a b := bytes_ext (by unfold zzH; rw [hcut])
  have eT : zzT s = pzJ cs cs.length := bytes_ext (by unfold zzT; rw [hcut])
  refine ⟨eH, eT, ?_, ?_, ?_⟩
  · unfold zzA
    rw [eH, lkS_of hg, if_pos rfl, (lk_of hg).1]
  · unfold zzD
    rw [eH, lkS_of hg, if_pos rfl, (lk_of hg).2]
  · unfold zzK
    rw [eT]
    by_cases hn : cs = []
    · subst hn
      rfl
    · have hpos : 0 < (pzJ cs cs.length).size := by
        have e : (pzJ cs cs.length).size = (pzJ cs cs.length).data.toList.length := rfl
        rw [e, pzJ_jn]
        refine jn_pos 44 _ (by simpa using hn) ?_
        intro p hp
        rw [List.map_map, List.mem_map] at hp
        obtain ⟨c, hm, rfl⟩ := hp
        show (clT c).data.toList ≠ []
        rw [clT_list]
        simp
      rw [if_neg (by omega), pzJ_spA hn hok, List.map_map]
      conv => rhs; rw [← List.map_id cs]
      exact List.map_congr_left fun c hc => cnV_clT (hok c hc)

theorem zz_yes {s : ByteArray} (h : zzB s = true) : pzB (zzA s) (zzD s) (zzK s) = true ∧ pzU (zzA s) (zzD s) (zzK s) (zzK s).length = s := by
  unfold zzB at h
  rw [Bool.and_eq_true] at h
  exact ⟨h.1, of_decide_eq_true h.2⟩

/-- Some reading that gives the text back is what is read. -/
theorem zz_end {s : ByteArray} {a b : Int} {cs : List Clu} (h : zzB s = true → a = zzA s ∧ b = zzD s ∧ cs = zzK s) : (pzB a b cs && decide (pzU a b cs cs.length = s)) = zzB s := by
  cases hz : zzB s with
  | true =>
    obtain ⟨rfl, rfl, rfl⟩ := h hz
    exact hz
  | false =>
    rw [Bool.eq_false_iff]
    intro hc
    rw [Bool.and_eq_true, decide_eq_true_eq] at hc
    obtain ⟨_, _, e3, e4, e5⟩ := zz_of hc.1 hc.2
    have : zzB s = true := by
      unfold zzB
      rw [e3, e4, e5, hc.1, decide_eq_true hc.2]
      rfl
    rw [hz] at this
    cases this

/-- What the text of a puzzle looks like. -/
structure ZzH (s : ByteArray) : Prop where
  size : s.size ≤ 100
  two : spA 58 s = [zzH s, zzT s]
  lock : spA 120 (zzH s) = [numB (zzA s), numB (zzD s)]
  a1 : 0 ≤ zzA s ∧ zzA s ≤ 10
  b1 : 0 ≤ zzD s ∧ zzD s ≤ 10
  none : (zzT s).size = 0 → zzK s = []
  parts : 0 < (zzT s).size → spA 44 (zzT s) = (zzK s).map clT
  clu : ∀ c ∈ zzK s, cluOk c

theorem zzHas {s : ByteArray} (h : zzB s = true) : ZzH s := by
  obtain ⟨h1, h2⟩ := zz_yes h
  obtain ⟨p1, p2, p3⟩ := pzB_yes h1
  have hg := (puzB_yes p1).1
  have hg' := good_yes hg
  have hok := clu_ok h1
  obtain ⟨eH, eT, _, _, eK⟩ := zz_of h1 h2
  have hsz := pzU_size (pzH h1 rfl) _ (Nat.le_refl _)
  rw [h2] at hsz
  refine ⟨by omega, ?_, ?_, by omega, by omega, fun h0 => by unfold zzK; rw [if_pos h0], fun h0 => ?_, hok⟩
  · refine map_ext _ _ ?_
    rw [eH, eT, spA_spl]
    conv => lhs; rw [← h2]
    rw [pzU_list, spl_app 58 _ _ (lkB_no hg), spl_part 58]
    · rfl
    · rw [pzJ_jn]
      refine jn_no 44 58 (by decide) _ ?_
      intro p hp
      rw [List.map_map, List.mem_map] at hp
      obtain ⟨c, hm, rfl⟩ := hp
      exact clT_no (hok c hm) 58 (.inr rfl)
  · refine map_ext _ _ ?_
    rw [eH, spA_spl, lkB_list, spl_app 120 _ _ (numB_no (by omega) (by omega) 120 (by decide)), spl_part 120 _ (numB_no (by omega) (by omega) 120 (by decide))]
    rfl
  · rw [eT]
    refine pzJ_spA (fun e => ?_) hok
    rw [eT, e] at h0
    exact absurd h0 (by decide)

end Go.Proofs.YtgdjbclkdnmebaaDoor
