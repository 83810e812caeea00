/- Codes that are met in a text: how the library finds them, how a list of windows has them, and that a text as long as there are codes, in which all are met around, has digits alone. No conditions beyond those of each lemma. -/
import Derived.Test.YteolmplbgmfhmaaDoorNb
import Derived.Test.YteolmplbgmfhmaaDoorRw
import Derived.Lib.IndexMore
namespace Go.Proofs.YteolmplbgmfhmaaDoor

/-- All letters are digits of the lock. -/
def allD (b : Int) (s : ByteArray) : Bool := s.data.toList.all (digitB b)

/-- n letters from place k on. -/
def sbT (s : ByteArray) (k n : Nat) : ByteArray := s.extract k (k + n)

theorem sbT_size {s : ByteArray} {k n : Nat} (h : k + n ≤ s.size) : (sbT s k n).size = n := by
  unfold sbT
  rw [ByteArray.size_extract]
  omega

theorem sbT_list (s : ByteArray) (k n : Nat) : (sbT s k n).data.toList = (s.data.toList.drop k).take n := by
  unfold sbT
  rw [ByteArray.data_extract, Array.toList_extract]
  simp [List.extract]

theorem bytes_ext {s t : ByteArray} (h : s.data.toList = t.data.toList) : s = t := by
  have : s.data = t.data := Array.ext' h
  cases s; cases t; simp_all

theorem bytes_len (s : ByteArray) : s.data.toList.length = s.size := by simp

theorem occ_sb {s t : ByteArray} {j : Nat} (h : j + t.size ≤ s.size) : Lib.occAt s.data.toList t.data.toList j = true ↔ sbT s j t.size = t := by
  rw [Lib.occAt_iff_take _ _ _ (by rw [bytes_len, bytes_len]; exact h), beq_iff_eq, bytes_len, ← sbT_list]
  exact ⟨fun e => bytes_ext e, fun e => by rw [e]⟩

theorem least_of (p : Nat → Bool) : ∀ (j : Nat), p j = true → ∃ i, i ≤ j ∧ p i = true ∧ ∀ k, k < i → p k = false := by
  intro j
  induction j using Nat.strongRecOn with
  | ind j ih =>
    intro hj
    by_cases h : ∃ k, k < j ∧ p k = true
    · obtain ⟨k, hk, hp⟩ := h
      obtain ⟨i, hi, h2⟩ := ih k hk hp
      exact ⟨i, by omega, h2⟩
    · exact ⟨j, Nat.le_refl _, hj, fun k hk => by
        rw [Bool.eq_false_iff]
        exact fun hp => h ⟨k, hk, hp⟩⟩

theorem occ_room {s t : ByteArray} {j : Nat} (ht : 1 ≤ t.size) (h : Lib.occAt s.data.toList t.data.toList j = true) : j + t.size ≤ s.size := by
  rcases Lib.occAt_room h with h | h
  · rw [bytes_len, bytes_len] at h; exact h
  · have := bytes_len t
    rw [h] at this
    simp at this
    omega

/-- Where a text is first met in another. -/
theorem index_cases (s t : ByteArray) (ht : 1 ≤ t.size) :
    (Lib.index s.data.toList t.data.toList = -1 ∧ ∀ j, j + t.size ≤ s.size → sbT s j t.size ≠ t) ∨
    ∃ i : Nat, Lib.index s.data.toList t.data.toList = i ∧ i + t.size ≤ s.size ∧ sbT s i t.size = t ∧ ∀ j, j < i → sbT s j t.size ≠ t := by
  by_cases h : ∃ j, Lib.occAt s.data.toList t.data.toList j = true
  · obtain ⟨j, hj⟩ := h
    obtain ⟨i, _, hi, hn⟩ := least_of _ j hj
    have hr := occ_room ht hi
    refine .inr ⟨i, Lib.index_first (by rw [bytes_len]; omega) hi hn, hr, (occ_sb hr).1 hi, fun j hj e => ?_⟩
    have := (occ_sb (by omega)).2 e
    rw [hn j hj] at this
    cases this
  · refine .inl ⟨Lib.index_none fun j _ => by rw [Bool.eq_false_iff]; exact fun hp => h ⟨j, hp⟩, fun j hj e => h ⟨j, (occ_sb hj).2 e⟩⟩

theorem contains_iff (s t : ByteArray) (ht : 1 ≤ t.size) : Lib.contains s.data.toList t.data.toList = true ↔ ∃ j, j + t.size ≤ s.size ∧ sbT s j t.size = t := by
  unfold Lib.contains
  rw [decide_eq_true_eq]
  rcases index_cases s t ht with ⟨h, hn⟩ | ⟨i, h, hi, he, _⟩
  · rw [h]
    exact ⟨fun h => by omega, fun ⟨j, hj, e⟩ => absurd e (hn j hj)⟩
  · rw [h]
    exact ⟨fun _ => ⟨i, hi, he⟩, fun _ => by omega⟩

/-- The windows of n letters of a text. -/
def codesT (s : ByteArray) (n : Nat) : List ByteArray := (List.range (s.size + 1 - n)).map fun k => sbT s k n

theorem codesT_length (s : ByteArray) (n : Nat) : (codesT s n).length = s.size + 1 - n := by unfold codesT; rw [List.length_map, List.length_range]

theorem codesT_at {s : ByteArray} {n k : Nat} (h : k < s.size + 1 - n) : (codesT s n)[k]? = some (sbT s k n) := by
  unfold codesT
  rw [List.getElem?_map, List.getElem?_range h]
  rfl

theorem codesT_mem {s t : ByteArray} {n : Nat} : t ∈ codesT s n ↔ ∃ k, k < s.size + 1 - n ∧ sbT s k n = t := by
  unfold codesT
  rw [List.mem_map]
  exact ⟨fun ⟨k, hk, e⟩ => ⟨k, List.mem_range.1 hk, e⟩, fun ⟨k, hk, e⟩ => ⟨k, List.mem_range.2 hk, e⟩⟩

/-- One of the codes has this number. -/
def seenB (a b : Int) (ts : List ByteArray) (i : Nat) : Bool := ts.any fun t => nuN a b t == i

/-- The code of a number is met in a text. -/
def metB (a b : Int) (s : ByteArray) (i : Nat) : Bool := Lib.contains s.data.toList (cdN a b i).data.toList

theorem cd_size {n : Nat} {b : Int} {i : Nat} : (cdN n b i).size = n := by unfold cdN; rw [textOf_size, digL_length, Int.toNat_natCast]

theorem allD_ask {n : Nat} {b : Int} {s : ByteArray} {k : Nat} (hg : goodB n b = true) (hd : allD b s = true) (hk : k + n ≤ s.size) : askB n b (sbT s k n) = true := by
  unfold askB isCodeB
  rw [hg, sbT_size hk, decide_eq_true rfl, Bool.true_and, Bool.true_and, List.all_eq_true]
  intro c hc
  rw [sbT_list] at hc
  unfold allD at hd
  rw [List.all_eq_true] at hd
  exact hd c (List.mem_of_mem_drop (List.mem_of_mem_take hc))

theorem seen_met {n : Nat} {b : Int} {s : ByteArray} {i : Nat} (hg : goodB n b = true) (hd : allD b s = true) (hi : i < cnN n b) : seenB n b (codesT s n) i = metB n b s i := by
  have h1 : 1 ≤ n := by have := good_yes hg; omega
  rw [Bool.eq_iff_iff]
  unfold seenB metB
  rw [contains_iff _ _ (by rw [cd_size]; exact h1), cd_size, List.any_eq_true]
  constructor
  · rintro ⟨t, ht, e⟩
    obtain ⟨k, hk, rfl⟩ := codesT_mem.1 ht
    have hk' : k + n ≤ s.size := by omega
    refine ⟨k, hk', ?_⟩
    rw [← eq_of_beq e, cd_nu (allD_ask hg hd hk')]
  · rintro ⟨j, hj, e⟩
    refine ⟨sbT s j n, codesT_mem.2 ⟨j, by omega, rfl⟩, ?_⟩
    rw [e, nu_cd hg hi]
    exact beq_self_eq_true _

/-- The numbers of the codes that are not met. -/
def missL (a b : Int) (s : ByteArray) : List Nat := (List.range (cnN a b)).filter fun i => !metB a b s i

/-- Those codes. -/
def missT (a b : Int) (s : ByteArray) : List ByteArray := (missL a b s).map (cdN a b)

/-- Told on behind its end. -/
def arT (n : Nat) (s : ByteArray) : ByteArray := s ++ s.extract 0 (n - 1)

theorem cn_ge {n : Nat} {b : Int} (hg : goodB n b = true) : n + 1 ≤ cnN n b := by
  obtain ⟨_, _, b2, _⟩ := good_yes hg
  have h : ∀ k : Nat, (k : Int) + 1 ≤ pw b k := fun k => by
    induction k with
    | zero => rw [pw_zero]; omega
    | succ k ih =>
      rw [pw_succ]
      have := Int.mul_le_mul_of_nonneg_left b2 (show 0 ≤ pw b k by omega)
      omega
  have := h n
  have e := cnN_cast hg
  rw [Int.toNat_natCast] at e
  omega

theorem arT_list (n : Nat) (s : ByteArray) : (arT n s).data.toList = s.data.toList ++ s.data.toList.take (n - 1) := by
  unfold arT
  rw [ByteArray.data_append, Array.toList_append, ByteArray.data_extract, Array.toList_extract]
  simp [List.extract]

theorem arT_size {n : Nat} {s : ByteArray} (h : n ≤ s.size + 1) : (arT n s).size = s.size + (n - 1) := by
  unfold arT
  rw [ByteArray.size_append, ByteArray.size_extract]
  omega

theorem no_more : ∀ (n : Nat) (f : Nat → Nat), (∀ i, i ≤ n → f i < n) → (∀ i j, i ≤ n → j ≤ n → f i = f j → i = j) → False
  | 0, f, h, _ => by have := h 0 (Nat.le_refl _); omega
  | n + 1, f, h, hi => by
    have hne : ∀ i, i ≤ n → f i ≠ f (n + 1) := fun i h1 e => by have := hi i (n + 1) (by omega) (Nat.le_refl _) e; omega
    refine no_more n (fun i => if f i < f (n + 1) then f i else f i - 1) (fun i h1 => ?_) (fun i j h1 h2 e => ?_)
    · have a := h i (by omega)
      have c := hne i h1
      have d := h (n + 1) (Nat.le_refl _)
      have k : f i < f (n + 1) → f i < n := fun _ => by omega
      have k' : ¬ f i < f (n + 1) → f i - 1 < n := fun _ => by omega
      by_cases q : f i < f (n + 1)
      · simp only [q, if_true]; exact k q
      · simp only [q, if_false]; exact k' q
    · have a := hne i h1
      have c := hne j h2
      refine hi i j (by omega) (by omega) ?_
      have e' : (if f i < f (n + 1) then f i else f i - 1) = (if f j < f (n + 1) then f j else f j - 1) := e
      split at e' <;> split at e' <;> omega

theorem all_met {n : Nat} {f : Nat → Nat} (h : ∀ i, i < n → f i < n) (hi : ∀ i j, i < n → j < n → f i = f j → i = j) {j : Nat} (hj : j < n) : ∃ i, i < n ∧ f i = j := by
  by_cases he : ∃ i, i < n ∧ f i = j
  · exact he
  · exfalso
    obtain ⟨m, rfl⟩ : ∃ m, n = m + 1 := ⟨n - 1, by omega⟩
    have hne : ∀ i, i ≤ m → f i ≠ j := fun i h1 e => he ⟨i, by omega, e⟩
    refine no_more m (fun i => if f i < j then f i else f i - 1) (fun i h1 => ?_) (fun i k h1 h2 e => ?_)
    · have a := h i (by omega)
      have c := hne i h1
      have k : f i < j → f i < m := fun _ => by omega
      have k' : ¬ f i < j → f i - 1 < m := fun _ => by omega
      by_cases q : f i < j
      · simp only [q, if_true]; exact k q
      · simp only [q, if_false]; exact k' q
    · have a := hne i h1
      have c := hne k h2
      refine hi i k (by omega) (by omega) ?_
      have e' : (if f i < j then f i else f i - 1) = (if f k < j then f k else f k - 1) := e
      split at e' <;> split at e' <;> omega

theorem cd_inj {n : Nat} {b : Int} (hg : goodB n b = true) {i j : Nat} (hi : i < cnN n b) (hj : j < cnN n b) (h : cdN n b i = cdN n b j) : i = j := by
  rw [← nu_cd hg hi, ← nu_cd hg hj, h]

/-- Where all codes are met around in a text of as many letters, these are digits. -/
theorem all_digits {n : Nat} {b : Int} {s : ByteArray} (hg : goodB n b = true) (hs : s.size = cnN n b) (hm : ∀ i, i < cnN n b → metB n b (arT n s) i = true) : allD b s = true := by
  have h1 : 1 ≤ n := by have := good_yes hg; omega
  have hge := cn_ge hg
  have hz : (arT n s).size = cnN n b + (n - 1) := by rw [arT_size (by omega), hs]
  have key : ∀ i, i < cnN n b → ∃ j, j < cnN n b ∧ sbT (arT n s) j n = cdN n b i := fun i hi => by
    have := hm i hi
    unfold metB at this
    rw [contains_iff _ _ (by rw [cd_size]; exact h1), cd_size] at this
    obtain ⟨j, hj, e⟩ := this
    exact ⟨j, by omega, e⟩
  let f : Nat → Nat := fun i => if h : i < cnN n b then Classical.choose (key i h) else 0
  have hf : ∀ i, i < cnN n b → f i < cnN n b ∧ sbT (arT n s) (f i) n = cdN n b i := fun i hi => by
    have := Classical.choose_spec (key i hi)
    show (if h : i < cnN n b then Classical.choose (key i h) else 0) < _ ∧ sbT _ (if h : i < cnN n b then Classical.choose (key i h) else 0) _ = _
    rw [dif_pos hi]
    exact this
  unfold allD
  rw [List.all_eq_true]
  intro c hc
  obtain ⟨j, hj, rfl⟩ := List.getElem_of_mem hc
  have hj' : j < cnN n b := by rw [bytes_len, hs] at hj; exact hj
  obtain ⟨i, hi, e⟩ := all_met (fun i hi => (hf i hi).1) (fun i k hi hk e => cd_inj hg hi hk (by rw [← (hf i hi).2, ← (hf k hk).2, e])) hj'
  have hcode := (asked (cd_ask (i := i) hg)).code
  have hcd := (hf i hi).2
  rw [e] at hcd
  rw [← hcd] at hcode
  unfold isCodeB at hcode
  rw [Bool.and_eq_true, List.all_eq_true] at hcode
  refine hcode.2 _ ?_
  rw [sbT_list, arT_list]
  have hl : ((s.data.toList ++ s.data.toList.take (n - 1)).drop j)[0]? = some s.data.toList[j] := by
    rw [List.getElem?_drop, Nat.add_zero, List.getElem?_append_left hj, List.getElem?_eq_getElem hj]
  refine List.mem_of_getElem? (i := 0) ?_
  rw [List.getElem?_take_of_lt (by omega)]
  exact hl

theorem allD_ar {n : Nat} {b : Int} {s : ByteArray} (hd : allD b s = true) : allD b (arT n s) = true := by
  unfold allD at hd ⊢
  rw [List.all_eq_true] at hd ⊢
  intro c hc
  rw [arT_list, List.mem_append] at hc
  rcases hc with hc | hc
  · exact hd c hc
  · exact hd c (List.mem_of_mem_take hc)

/-- The text is a ring. -/
def ringB (a b : Int) (s : ByteArray) : Bool := riB a b && decide (s.size = cnN a b) && (missL a b (arT a.toNat s)).isEmpty

theorem miss_nil {a b : Int} {s : ByteArray} : missL a b s = [] ↔ ∀ i, i < cnN a b → metB a b s i = true := by
  unfold missL
  rw [List.filter_eq_nil_iff]
  constructor
  · intro h i hi
    have := h i (List.mem_range.2 hi)
    simpa using this
  · intro h i hi
    rw [h i (List.mem_range.1 hi)]
    simp

/-- As the model has it. -/
theorem ring_eq {n : Nat} {b : Int} {s : ByteArray} (h : riB n b = true) :
    (decide (s.size = cnN n b) && allD b s && (List.range (cnN n b)).all (seenB n b (codesT (arT n s) n))) = ringB n b s := by
  have hg := riB_good h
  unfold ringB
  rw [h, Bool.true_and, Int.toNat_natCast]
  by_cases hs : s.size = cnN n b
  · rw [decide_eq_true hs, Bool.true_and, Bool.true_and, Bool.eq_iff_iff, List.isEmpty_iff, miss_nil, Bool.and_eq_true, List.all_eq_true]
    constructor
    · rintro ⟨hd, hm⟩ i hi
      rw [← seen_met hg (allD_ar hd) hi]
      exact hm i (List.mem_range.2 hi)
    · intro hm
      have hd := all_digits hg hs hm
      exact ⟨hd, fun i hi => by rw [seen_met hg (allD_ar hd) (List.mem_range.1 hi)]; exact hm i (List.mem_range.1 hi)⟩
  · rw [decide_eq_false hs, Bool.false_and, Bool.false_and, Bool.false_and]

structure Ring (n : Nat) (b : Int) (s : ByteArray) : Prop where
  ri : riB n b = true
  good : goodB n b = true
  size : s.size = cnN n b
  digits : allD b s = true
  met : ∀ i, i < cnN n b → metB n b (arT n s) i = true

theorem ring_of {n : Nat} {b : Int} {s : ByteArray} (h : ringB n b s = true) : Ring n b s := by
  unfold ringB at h
  rw [Bool.and_eq_true, Bool.and_eq_true, Int.toNat_natCast] at h
  have hs := of_decide_eq_true h.1.2
  have hm := miss_nil.1 (List.isEmpty_iff.1 h.2)
  exact ⟨h.1.1, riB_good h.1.1, hs, all_digits (riB_good h.1.1) hs hm, hm⟩

theorem cn_le {n : Nat} {b : Int} (h : riB n b = true) : cnN n b ≤ 1000 := by
  have := riB_pw h
  unfold cnN
  rw [Int.toNat_natCast]
  omega

/-- How many are met, as the one counts and as the other does. -/
theorem count_met (p : Nat → Bool) : ∀ (L : List Nat), (L.filter p).length + (L.filter fun i => !p i).length = L.length
  | [] => rfl
  | x :: L => by
    have := count_met p L
    rw [List.filter_cons, List.filter_cons]
    cases h : p x
    · simp only [Bool.not_false, if_true, Bool.false_eq_true, if_false, List.length_cons]; omega
    · simp only [Bool.not_true, if_true, Bool.false_eq_true, if_false, List.length_cons]; omega

end Go.Proofs.YteolmplbgmfhmaaDoor
