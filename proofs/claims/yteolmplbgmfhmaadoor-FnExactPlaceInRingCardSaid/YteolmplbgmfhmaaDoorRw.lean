/- Least words in order and the ring that they make: reckoned lists, and what is seen of them at each lock of at most a thousand codes. No conditions beyond those of each lemma. -/
import Derived.Test.YteolmplbgmfhmaaDoorOfNumber
import Derived.Test.YteolmplbgmfhmaaDoorNumber
namespace Go.Proofs.YteolmplbgmfhmaaDoor

/-- A word told again and again: n digits. -/
def repW (n : Nat) (w : List Int) : List Int := (List.range n).map fun j => w.getD (j % w.length) 0

/-- Without the greatest digits at its end. -/
def trimW (m : Int) (w : List Int) : List Int := (w.reverse.dropWhile (· == m)).reverse

/-- The last digit one greater. -/
def incW (w : List Int) : List Int := w.dropLast ++ [w.getLastD 0 + 1]

def nxW (b : Int) (n : Nat) (w : List Int) : List Int := trimW (b - 1) (repW n w)

/-- The words from one on, in order. -/
def wordsW (b : Int) (n : Nat) : Nat → List Int → List (List Int)
  | 0, _ => []
  | f + 1, w => w :: (if (nxW b n w).isEmpty then [] else wordsW b n f (incW (nxW b n w)))

def chkW (b : Int) (n : Nat) : Nat → List Int → Bool
  | 0, _ => false
  | f + 1, w => decide (1 ≤ w.length ∧ w.length ≤ n) && w.all (fun d => decide (0 ≤ d ∧ d < b)) && ((nxW b n w).isEmpty || chkW b n f (incW (nxW b n w)))

/-- The words whose length divides n. -/
def keepW (b : Int) (n : Nat) : List (List Int) := (wordsW b n 400 [0]).filter fun w => n % w.length == 0

/-- The least ring. -/
def ringW (b : Int) (n : Nat) : List Int := (keepW b n).flatten

/-- Told on behind its end. -/
def arW (n : Nat) (xs : List Int) : List Int := xs ++ xs.take (n - 1)

def winL (b : Int) (n : Nat) : Nat → List Int → List Nat
  | 0, _ => []
  | k + 1, xs => (numAt b xs n).toNat :: winL b n k xs.tail

def maskOf : List Nat → Nat
  | [] => 0
  | x :: xs => maskOf xs ||| (1 <<< x)

def okW (b : Int) (n : Nat) : Bool :=
  chkW b n 400 [0] && (ringW b n).length == (pw b n).toNat && maskOf (winL b n (pw b n).toNat (arW n (ringW b n))) == 2 ^ (pw b n).toNat - 1

set_option maxRecDepth 100000 in
theorem okW_all : ((List.range 9).all fun i => (List.range 7).all fun k => k == 0 || decide (1000 < pw ((i : Int) + 2) k) || okW ((i : Int) + 2) k) = true := by decide +kernel

/-- There is a lock with few codes. -/
def riB (a b : Int) : Bool := goodB a b && decide (countZ a b ≤ 1000)

theorem riB_good {a b : Int} (h : riB a b = true) : goodB a b = true := by unfold riB at h; rw [Bool.and_eq_true] at h; exact h.1

theorem riB_pw {n : Nat} {b : Int} (h : riB n b = true) : pw b n ≤ 1000 := by
  have hg := riB_good h
  unfold riB at h
  rw [Bool.and_eq_true, decide_eq_true_eq, countZ_yes hg] at h
  exact h.2

theorem riB_of {n : Nat} {b : Int} (h : goodB n b = true) (hp : pw b n ≤ 1000) : riB n b = true := by
  unfold riB
  rw [h, countZ_yes h, decide_eq_true hp]
  rfl

theorem riB_not {n : Nat} {b : Int} (h : goodB n b = true) (hp : 1000 < pw b n) : riB n b = false := by
  unfold riB
  rw [h, countZ_yes h, decide_eq_false (by omega)]
  rfl

theorem riB_no {a b : Int} (h : goodB a b = false) : riB a b = false := by unfold riB; rw [h]; rfl

theorem okW_of {n : Nat} {b : Int} (h : riB n b = true) : okW b n = true := by
  have hg := riB_good h
  have hp := riB_pw h
  obtain ⟨h1, h6, b2, b10⟩ := good_yes hg
  have h := okW_all
  rw [List.all_eq_true] at h
  have h1 := h (b - 2).toNat (by rw [List.mem_range]; omega)
  rw [List.all_eq_true] at h1
  have h2 := h1 n (by rw [List.mem_range]; omega)
  rw [show (((b - 2).toNat : Nat) : Int) + 2 = b by omega, Bool.or_eq_true, Bool.or_eq_true] at h2
  rcases h2 with (h2 | h2) | h2
  · have := eq_of_beq h2; omega
  · have := of_decide_eq_true h2; omega
  · exact h2

theorem chkW_of {n : Nat} {b : Int} (h : riB n b = true) : chkW b n 400 [0] = true := by
  have := okW_of h
  unfold okW at this
  rw [Bool.and_eq_true, Bool.and_eq_true] at this
  exact this.1.1

theorem ringW_length {n : Nat} {b : Int} (h : riB n b = true) : (ringW b n).length = (pw b n).toNat := by
  have := okW_of h
  unfold okW at this
  rw [Bool.and_eq_true, Bool.and_eq_true] at this
  exact eq_of_beq this.1.2

theorem ringW_mask {n : Nat} {b : Int} (h : riB n b = true) : maskOf (winL b n (pw b n).toNat (arW n (ringW b n))) = 2 ^ (pw b n).toNat - 1 := by
  have := okW_of h
  unfold okW at this
  rw [Bool.and_eq_true, Bool.and_eq_true] at this
  exact eq_of_beq this.2

/-- Digits below b. -/
def Low (b : Int) (w : List Int) : Prop := ∀ j, j < w.length → 0 ≤ w.getD j 0 ∧ w.getD j 0 < b

theorem low_all {b : Int} {w : List Int} (h : w.all (fun d => decide (0 ≤ d ∧ d < b)) = true) : Low b w := fun j hj => by
  rw [List.all_eq_true] at h
  have := h (w.getD j 0) (by rw [List.getD, List.getElem?_eq_getElem hj]; exact List.getElem_mem _)
  exact of_decide_eq_true this

theorem low_mem {b : Int} {w : List Int} (h : Low b w) {d : Int} (hd : d ∈ w) : 0 ≤ d ∧ d < b := by
  obtain ⟨i, hi, rfl⟩ := List.getElem_of_mem hd
  have := h i hi
  rwa [List.getD, List.getElem?_eq_getElem hi] at this

theorem low_of {b : Int} {w : List Int} (h : ∀ d ∈ w, 0 ≤ d ∧ d < b) : Low b w := fun j hj => by
  rw [List.getD, List.getElem?_eq_getElem hj]
  exact h _ (List.getElem_mem _)

theorem Low.digits {b : Int} {w : List Int} (h : Low b w) (hb : b ≤ 10) : Digits w := fun j hj => by
  have := h j hj
  omega

/-- What is known of a word that is reached. -/
structure WordOk (b : Int) (n : Nat) (w : List Int) : Prop where
  pos : 1 ≤ w.length
  le : w.length ≤ n
  low : Low b w

theorem chk_step {b : Int} {n f : Nat} {w : List Int} (h : chkW b n (f + 1) w = true) :
    WordOk b n w ∧ (nxW b n w = [] ∨ nxW b n w ≠ [] ∧ chkW b n f (incW (nxW b n w)) = true) := by
  rw [chkW, Bool.and_eq_true, Bool.and_eq_true] at h
  obtain ⟨⟨h1, h2⟩, h3⟩ := h
  obtain ⟨p, q⟩ := of_decide_eq_true h1
  refine ⟨⟨p, q, low_all h2⟩, ?_⟩
  by_cases e : nxW b n w = []
  · exact .inl e
  · rw [Bool.or_eq_true] at h3
    rcases h3 with h3 | h3
    · exact .inl (List.isEmpty_iff.1 h3)
    · exact .inr ⟨e, h3⟩

theorem chk_pos {b : Int} {n f : Nat} {w : List Int} (h : chkW b n f w = true) : ∃ g, f = g + 1 := by
  cases f with
  | zero => exact absurd h (by simp [chkW])
  | succ g => exact ⟨g, rfl⟩

theorem words_end {b : Int} {n f : Nat} {w : List Int} (h : nxW b n w = []) : wordsW b n (f + 1) w = [w] := by
  rw [wordsW, h]; rfl

theorem words_on {b : Int} {n f : Nat} {w : List Int} (h : nxW b n w ≠ []) : wordsW b n (f + 1) w = w :: wordsW b n f (incW (nxW b n w)) := by
  rw [wordsW, if_neg (by rw [List.isEmpty_iff]; exact h)]

theorem words_ok {b : Int} {n : Nat} : ∀ {f : Nat} {w : List Int}, chkW b n f w = true → ∀ v ∈ wordsW b n f w, WordOk b n v
  | 0, _, h, _, _ => absurd h (by simp [chkW])
  | f + 1, w, h, v, hv => by
    obtain ⟨h1, h2⟩ := chk_step h
    rcases h2 with h2 | ⟨h2, h3⟩
    · rw [words_end h2] at hv
      rw [List.mem_singleton] at hv
      rw [hv]; exact h1
    · rw [words_on h2, List.mem_cons] at hv
      rcases hv with rfl | hv
      · exact h1
      · exact words_ok h3 v hv

theorem keep_ok {n : Nat} {b : Int} (h : riB n b = true) {v : List Int} (hv : v ∈ keepW b n) : WordOk b n v := by
  unfold keepW at hv
  rw [List.mem_filter] at hv
  exact words_ok (chkW_of h) v hv.1

theorem ringW_low {n : Nat} {b : Int} (h : riB n b = true) : Low b (ringW b n) := low_of fun d hd => by
  unfold ringW at hd
  rw [List.mem_flatten] at hd
  obtain ⟨v, hv, hd⟩ := hd
  exact low_mem (keep_ok h hv).low hd

theorem flat_len : ∀ (L : List (List Int)), (∀ v ∈ L, 1 ≤ v.length) → L.length ≤ L.flatten.length
  | [], _ => by simp
  | v :: L, h => by
    have h1 := flat_len L (fun v hv => h v (List.mem_cons_of_mem _ hv))
    have h2 := h v List.mem_cons_self
    rw [List.flatten_cons, List.length_append, List.length_cons]
    omega

theorem keep_length {n : Nat} {b : Int} (h : riB n b = true) : (keepW b n).length ≤ 1000 := by
  have h1 := flat_len (keepW b n) (fun v hv => (keep_ok h hv).pos)
  have h2 := ringW_length h
  have h3 := riB_pw h
  unfold ringW at h2
  omega

theorem winL_length (b : Int) (n : Nat) : ∀ (k : Nat) (xs : List Int), (winL b n k xs).length = k
  | 0, _ => rfl
  | k + 1, xs => by rw [winL, List.length_cons, winL_length]

theorem winL_at (b : Int) (n : Nat) : ∀ (k : Nat) (xs : List Int) (j : Nat), j < k → (winL b n k xs)[j]? = some (numAt b (xs.drop j) n).toNat
  | 0, _, _, h => by omega
  | k + 1, xs, 0, _ => by rw [winL]; rfl
  | k + 1, xs, j + 1, h => by
    rw [winL, List.getElem?_cons_succ, winL_at b n k xs.tail j (by omega), List.drop_tail]

theorem mask_mem : ∀ (xs : List Nat) (i : Nat), (maskOf xs).testBit i = true → i ∈ xs
  | [], i, h => by simp [maskOf] at h
  | x :: xs, i, h => by
    rw [maskOf, Nat.testBit_or, Bool.or_eq_true] at h
    rcases h with h | h
    · exact List.mem_cons_of_mem _ (mask_mem xs i h)
    · rw [Nat.shiftLeft_eq, Nat.one_mul, Nat.testBit_two_pow] at h
      rw [← of_decide_eq_true h]
      exact List.mem_cons_self

/-- Each number is met in the ring, around. -/
theorem ring_meets {n : Nat} {b : Int} (h : riB n b = true) {i : Nat} (hi : i < (pw b n).toNat) : ∃ j, j < (pw b n).toNat ∧ (numAt b ((arW n (ringW b n)).drop j) n).toNat = i := by
  have hm : i ∈ winL b n (pw b n).toNat (arW n (ringW b n)) := mask_mem _ _ (by rw [ringW_mask h, Nat.testBit_two_pow_sub_one, decide_eq_true hi])
  obtain ⟨j, hj, e⟩ := List.getElem_of_mem hm
  rw [winL_length] at hj
  have := winL_at b n (pw b n).toNat (arW n (ringW b n)) j hj
  rw [List.getElem?_eq_getElem (by rw [winL_length]; exact hj), e] at this
  exact ⟨j, hj, (Option.some.inj this).symm⟩

end Go.Proofs.YteolmplbgmfhmaaDoor
