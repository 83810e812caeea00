/- Orders of codes: forth and back, and round; one turn between two lists of digits. Mathematics alone. No conditions beyond those of each lemma. -/
import Derived.Test.YtjghodfdejdjoaaNb
import Derived.Test.YtjghodfdejdjoaaFirst
namespace Go.Proofs.Ytjghodfdejdjoaa
open Go.ChangeShapes Go.WideShapes Go.ChangeAt Go.RowKit Go.Joins

theorem pw_pos {b : Int} (h : 2 ≤ b) (k : Nat) : 0 < pw b k := Int.pow_pos (by omega)

/-- A digit of the forth and back order, out of the number that the wheels up to this one tell. -/
def foI (b q : Int) : Int := if (q / b) % 2 = 1 then b - 1 - q % b else q % b

/-- A digit of the round order. -/
def roI (b q : Int) : Int := (q - q / b) % b

def orL (f : Int → Int → Int) (b x : Int) (n : Nat) : List Int := (List.range n).map fun j => f b (x / pw b (n - 1 - j))

theorem orL_length (f : Int → Int → Int) (b x : Int) (n : Nat) : (orL f b x n).length = n := by simp [orL]

theorem orL_at {f : Int → Int → Int} {b x : Int} {n j : Nat} (hj : j < n) : (orL f b x n).getD j 0 = f b (x / pw b (n - 1 - j)) := by simp [orL, List.getD, hj]

theorem foI_bd {b : Int} (h : 2 ≤ b) (q : Int) : 0 ≤ foI b q ∧ foI b q < b := by
  have h1 := Int.emod_nonneg q (show b ≠ 0 by omega)
  have h2 := Int.emod_lt_of_pos q (show 0 < b by omega)
  unfold foI
  split <;> omega

theorem roI_bd {b : Int} (h : 2 ≤ b) (q : Int) : 0 ≤ roI b q ∧ roI b q < b := ⟨Int.emod_nonneg _ (by omega), Int.emod_lt_of_pos _ (by omega)⟩

theorem up_div {b q : Int} (h : 2 ≤ b) : (q % b = b - 1 → (q + 1) / b = q / b + 1 ∧ (q + 1) % b = 0) ∧ (q % b < b - 1 → (q + 1) / b = q / b ∧ (q + 1) % b = q % b + 1) := by
  have e := Int.mul_ediv_add_emod q b
  have h1 := Int.emod_nonneg q (show b ≠ 0 by omega)
  refine ⟨fun hq => ?_, fun hq => ?_⟩
  · have e2 : q + 1 = b * (q / b + 1) := by rw [Int.mul_add]; omega
    rw [e2]
    exact ⟨Int.mul_ediv_cancel_left _ (by omega), Int.mul_emod_right _ _⟩
  · have e2 : q + 1 = (q % b + 1) + b * (q / b) := by omega
    refine ⟨?_, ?_⟩
    · rw [e2, Int.add_mul_ediv_left _ _ (show b ≠ 0 by omega), Int.ediv_eq_zero_of_lt (by omega) (by omega), Int.zero_add]
    · rw [e2, Int.add_mul_emod_self_left, Int.emod_eq_of_lt (by omega) (by omega)]

theorem far_same (b x : Int) : farI b x x = 0 := by unfold farI subI lstI; simp

/-- One turn leads from one digit to another one. -/
theorem far_up {b x : Int} (h : 2 ≤ b) : farI b x ((x + 1) % b) = 1 := by
  unfold farI subI lstI
  have e1 : ((x + 1) % b - x) % b = 1 := by rw [Int.emod_sub_emod]; rw [show x + 1 - x = 1 by omega]; exact Int.emod_eq_of_lt (by omega) (by omega)
  have e2 : (x - (x + 1) % b) % b = b - 1 := by rw [Int.sub_emod_emod]; rw [show x - (x + 1) = -1 by omega, show (-1 : Int) = b - 1 + b * (-1) by omega, Int.add_mul_emod_self_left]; exact Int.emod_eq_of_lt (by omega) (by omega)
  rw [e1, e2]
  split <;> omega

theorem far_sym (b x y : Int) : farI b x y = farI b y x := by
  unfold farI lstI
  split <;> split <;> omega

theorem far_next {b x y : Int} (h : 2 ≤ b) (hx : 0 ≤ x ∧ x < b) (hy : 0 ≤ y ∧ y < b) (e : y = x + 1 ∨ x = y + 1) : farI b x y = 1 := by
  rcases e with rfl | rfl
  · have := far_up (x := x) h
    rwa [Int.emod_eq_of_lt (by omega) (by omega)] at this
  · have := far_up (x := y) h
    rw [Int.emod_eq_of_lt (by omega) (by omega)] at this
    rw [far_sym]; exact this

/-- What makes an order by such digits one of turns: the digit stays where its number goes around, and otherwise makes one turn. -/
structure Stp (b : Int) (f : Int → Int → Int) : Prop where
  same : ∀ q, 0 ≤ q → q % b = b - 1 → f b (q + 1) = f b q
  step : ∀ q, 0 ≤ q → q % b < b - 1 → farI b (f b q) (f b (q + 1)) = 1

theorem stp_fo {b : Int} (h : 2 ≤ b) : Stp b foI where
  same q _ hq := by
    obtain ⟨e1, e2⟩ := (up_div h).1 hq
    unfold foI
    rw [e1, e2, hq]
    split <;> split <;> omega
  step q _ hq := by
    obtain ⟨e1, e2⟩ := (up_div h).2 hq
    have b1 := foI_bd h q
    have b2 := foI_bd h (q + 1)
    refine far_next h b1 b2 ?_
    unfold foI
    rw [e1, e2]
    split <;> omega

theorem stp_ro {b : Int} (h : 2 ≤ b) : Stp b roI where
  same q _ hq := by
    obtain ⟨e1, e2⟩ := (up_div h).1 hq
    unfold roI
    rw [e1]; congr 1; omega
  step q _ hq := by
    obtain ⟨e1, e2⟩ := (up_div h).2 hq
    unfold roI
    rw [e1, show q + 1 - q / b = q - q / b + 1 by omega]
    have := far_up (x := (q - q / b) % b) h
    rwa [Int.emod_add_emod] at this

theorem div_pw {b x : Int} {i : Nat} (h : 2 ≤ b) : x / pw b (i + 1) = x / pw b i / b := by
  rw [Int.ediv_ediv_of_nonneg (Int.le_of_lt (pw_pos h i)), ← pw_succ]

/-- One step of the rank: the wheels of the lower end stay or just one of them turns. -/
theorem gray_low {b : Int} {f : Int → Int → Int} (h : 2 ≤ b) (hf : Stp b f) {x : Int} (h0 : 0 ≤ x) : ∀ m : Nat,
    ((∀ i, i < m → f b ((x + 1) / pw b i) = f b (x / pw b i)) ∧ (x + 1) / pw b m = x / pw b m + 1) ∨
    (∃ k, k < m ∧ farI b (f b (x / pw b k)) (f b ((x + 1) / pw b k)) = 1 ∧ (∀ i, i < m → i ≠ k → f b ((x + 1) / pw b i) = f b (x / pw b i)) ∧ (x + 1) / pw b m = x / pw b m)
  | 0 => .inl ⟨fun i hi => by omega, by rw [pw_zero, Int.ediv_one, Int.ediv_one]⟩
  | m + 1 => by
    have hq0 : 0 ≤ x / pw b m := Int.ediv_nonneg h0 (Int.le_of_lt (pw_pos h m))
    have hlt := Int.emod_lt_of_pos (x / pw b m) (show 0 < b by omega)
    rcases gray_low h hf h0 m with ⟨s, e⟩ | ⟨k, hk, t, s, e⟩
    · by_cases hq : x / pw b m % b = b - 1
      · refine .inl ⟨fun i hi => ?_, ?_⟩
        · by_cases him : i = m
          · subst him; rw [e]; exact hf.same _ hq0 hq
          · exact s i (by omega)
        · rw [div_pw h, div_pw h, e]; exact ((up_div h).1 hq).1
      · refine .inr ⟨m, by omega, ?_, fun i hi hne => s i (by omega), ?_⟩
        · rw [e]; exact hf.step _ hq0 (by omega)
        · rw [div_pw h, div_pw h, e]; exact ((up_div h).2 (by omega)).1
    · refine .inr ⟨k, by omega, t, fun i hi hne => ?_, ?_⟩
      · by_cases him : i = m
        · subst him; rw [e]
        · exact s i (by omega) hne
      · rw [div_pw h, div_pw h, e]

/-- Two lists of digits with one turn between them. -/
def Apart (b : Int) (xs ys : List Int) (n : Nat) : Prop :=
  ∃ k, k < n ∧ farI b (xs.getD k 0) (ys.getD k 0) = 1 ∧ ∀ i, i < n → i ≠ k → xs.getD i 0 = ys.getD i 0

theorem gray_next {b : Int} {f : Int → Int → Int} {n : Nat} (h : 2 ≤ b) (hf : Stp b f) {x : Int} (h0 : 0 ≤ x) (hx : x + 1 < pw b n) : Apart b (orL f b x n) (orL f b (x + 1) n) n := by
  rcases gray_low h hf h0 n with ⟨_, e⟩ | ⟨k, hk, t, s, _⟩
  · rw [Int.ediv_eq_zero_of_lt (by omega) hx, Int.ediv_eq_zero_of_lt h0 (by omega)] at e
    omega
  · refine ⟨n - 1 - k, by omega, ?_, fun i hi hne => ?_⟩
    · rw [orL_at (by omega), orL_at (by omega), show n - 1 - (n - 1 - k) = k by omega]
      exact t
    · rw [orL_at hi, orL_at hi]
      exact (s _ (by omega) (by omega)).symm

theorem pw_div {b : Int} (h : 2 ≤ b) {n i : Nat} (hi : i ≤ n) : pw b n / pw b i = pw b (n - i) := by
  have e : pw b n = pw b i * pw b (n - i) := by unfold pw; rw [← Int.pow_add]; congr 1; omega
  rw [e]
  exact Int.mul_ediv_cancel_left _ (by have := pw_pos h i; omega)

/-- From the last code of the round order to the first one. -/
theorem gray_round {b : Int} {n : Nat} (h : 2 ≤ b) (hn : 1 ≤ n) : Apart b (orL roI b (pw b n - 1) n) (orL roI b 0 n) n := by
  have hp := pw_pos h n
  have hlast : ∀ i, i < n → roI b ((pw b n - 1) / pw b i) = if i = n - 1 then b - 1 else 0 := by
    rcases gray_low h (stp_ro h) (x := pw b n - 1) (by omega) n with ⟨s, _⟩ | ⟨_, _, _, _, e⟩
    · intro i hi
      rw [← s i hi, show pw b n - 1 + 1 = pw b n by omega, pw_div h (by omega)]
      unfold roI
      rw [show n - i = (n - 1 - i) + 1 by omega, pw_succ, Int.mul_ediv_cancel _ (by omega)]
      split
      · rw [show n - 1 - i = 0 by omega, pw_zero, Int.one_mul]; exact Int.emod_eq_of_lt (by omega) (by omega)
      · rw [show n - 1 - i = (n - 2 - i) + 1 by omega, pw_succ, ← Int.sub_mul]
        exact Int.mul_emod_left _ _
    · rw [show pw b n - 1 + 1 = pw b n by omega, Int.ediv_self (by omega), Int.ediv_eq_zero_of_lt (by omega) (by omega)] at e
      omega
  have hz : ∀ i, roI b (0 / pw b i) = 0 := fun i => by unfold roI; simp
  refine ⟨0, hn, ?_, fun i hi hne => ?_⟩
  · rw [orL_at (by omega), orL_at (by omega), hlast _ (by omega), hz, if_pos (by omega)]
    have := far_up (x := b - 1) h
    rwa [show b - 1 + 1 = b by omega, Int.emod_self] at this
  · rw [orL_at hi, orL_at hi, hlast _ (by omega), hz, if_neg (by omega)]

/-- The turn between them is the first one that the programs list. -/
theorem first_of {b : Int} {xs ys : List Int} {k : Nat} : ∀ n : Nat, (∀ i, i < n → i ≠ k → xs.getD i 0 = ys.getD i 0) → farI b (xs.getD k 0) (ys.getD k 0) = 1 →
    firstAt b xs ys n = if k < n then [((k : Int), dirI b (xs.getD k 0) (ys.getD k 0))] else []
  | 0, _, _ => by simp [firstAt]
  | n + 1, s, t => by
    rw [firstAt, first_of n (fun i hi hne => s i (by omega) hne) t]
    by_cases hk : k = n
    · subst hk
      rw [t, if_neg (by omega), if_pos (by omega)]; rfl
    · rw [s n (by omega) (Ne.symm hk), far_same]
      by_cases hlt : k < n
      · rw [if_pos hlt, if_pos (by omega)]; rfl
      · rw [if_neg hlt, if_neg (by omega)]; rfl

theorem Apart.first {b : Int} {xs ys : List Int} {n : Nat} (h : Apart b xs ys n) : (firstAt b xs ys n).length = 1 := by
  obtain ⟨k, hk, t, s⟩ := h
  rw [first_of n s t, if_pos hk]; rfl

/-- As long as the distance. -/
theorem first_len {b : Int} (h : 2 ≤ b) {xs ys zs : List Int} : ∀ n : Nat, (∀ k, k < n → zs.getD k 0 = farI b (xs.getD k 0) (ys.getD k 0)) → ((firstAt b xs ys n).length : Int) = sumAt zs n
  | 0, _ => rfl
  | n + 1, hz => by
    rw [firstAt, sumAt, List.length_append, List.length_replicate, hz n (by omega), ← first_len h n (fun k hk => hz k (by omega))]
    have : 0 ≤ farI b (xs.getD n 0) (ys.getD n 0) := by
      unfold farI lstI subI
      have h1 := Int.emod_nonneg (ys.getD n 0 - xs.getD n 0) (show b ≠ 0 by omega)
      have h2 := Int.emod_nonneg (xs.getD n 0 - ys.getD n 0) (show b ≠ 0 by omega)
      split <;> omega
    omega

theorem far_pos {b x y : Int} (h : 2 ≤ b) (hx : 0 ≤ x ∧ x < b) (hy : 0 ≤ y ∧ y < b) (hne : x ≠ y) : 1 ≤ farI b x y := by
  have h1 : (y - x) % b ≠ 0 := fun e => by
    have := Int.emod_emod_of_dvd (y - x) (Int.dvd_refl b)
    have := Int.dvd_of_emod_eq_zero e
    obtain ⟨c, hc⟩ := this
    rcases Int.lt_trichotomy c 0 with h0 | h0 | h0
    · have := Int.mul_le_mul_of_nonneg_left (show c ≤ -1 by omega) (show 0 ≤ b by omega)
      omega
    · subst h0; omega
    · have := Int.mul_le_mul_of_nonneg_left (show 1 ≤ c by omega) (show 0 ≤ b by omega)
      omega
  have h2 : (x - y) % b ≠ 0 := fun e => h1 (by rw [show y - x = -(x - y) by omega]; rw [Int.emod_eq_zero_of_dvd]; exact Int.dvd_neg.2 (Int.dvd_of_emod_eq_zero e))
  have h3 := Int.emod_nonneg (y - x) (show b ≠ 0 by omega)
  have h4 := Int.emod_nonneg (x - y) (show b ≠ 0 by omega)
  unfold farI lstI subI
  split <;> omega

/-- The direction of one turn. -/
theorem dir_one {b x y : Int} (h : 2 ≤ b) (_ : 0 ≤ x ∧ x < b) (hy : 0 ≤ y ∧ y < b) (hf : farI b x y = 1) : dirI b x y = if (x + 1) % b = y then 1 else -1 := by
  by_cases e : (x + 1) % b = y
  · rw [if_pos e, ← e]
    have e1 : subI b ((x + 1) % b) x = 1 := by unfold subI; rw [Int.emod_sub_emod, show x + 1 - x = 1 by omega]; exact Int.emod_eq_of_lt (by omega) (by omega)
    have e2 := Int.emod_nonneg (x - (x + 1) % b) (show b ≠ 0 by omega)
    have e3 : 1 ≤ subI b x ((x + 1) % b) := by
      have := far_up (x := x) h
      unfold farI lstI at this
      rw [e1] at this
      split at this <;> omega
    unfold dirI
    rw [e1, if_neg (by omega)]
  · rw [if_neg e]
    have e1 : subI b y x ≠ 1 := fun e1 => e (by
      unfold subI at e1
      have h3 : (x + 1) % b = (x + (y - x) % b) % b := by rw [e1]
      rw [h3, Int.add_emod_emod, show x + (y - x) = y by omega]
      exact Int.emod_eq_of_lt hy.1 hy.2)
    unfold farI lstI at hf
    unfold dirI
    split at hf
    · omega
    · rw [if_pos (by omega)]

/-- Where the first digit differs, one turn is that of this wheel. -/
theorem first_head {b : Int} {xs ys : List Int} {n i : Nat} (h : 2 ≤ b) (hx : ∀ j, j < n → 0 ≤ xs.getD j 0 ∧ xs.getD j 0 < b) (hy : ∀ j, j < n → 0 ≤ ys.getD j 0 ∧ ys.getD j 0 < b)
    (hl : (firstAt b xs ys n).length = 1) (hi : i < n) (s : ∀ j, j < i → xs.getD j 0 = ys.getD j 0) (hne : xs.getD i 0 ≠ ys.getD i 0) :
    firstAt b xs ys n = [((i : Int), if (xs.getD i 0 + 1) % b = ys.getD i 0 then 1 else -1)] := by
  have hz : ∀ m, m ≤ i → firstAt b xs ys m = [] := by
    intro m
    induction m with
    | zero => intro _; rfl
    | succ m ih =>
      intro hm
      rw [firstAt, ih (by omega), s m (by omega), far_same]; rfl
  have hp := far_pos h (hx i hi) (hy i hi) hne
  have h1 : firstAt b xs ys (i + 1) = List.replicate (farI b (xs.getD i 0) (ys.getD i 0)).toNat ((i : Int), dirI b (xs.getD i 0) (ys.getD i 0)) := by
    rw [firstAt, hz i (Nat.le_refl _)]; rfl
  have hm : ∀ d, ∃ r, firstAt b xs ys (i + 1 + d) = firstAt b xs ys (i + 1) ++ r := by
    intro d
    induction d with
    | zero => exact ⟨[], by simp⟩
    | succ d ih =>
      obtain ⟨r, hr⟩ := ih
      rw [← Nat.add_assoc, firstAt, hr, List.append_assoc]
      exact ⟨_, rfl⟩
  obtain ⟨r, hr⟩ := hm (n - (i + 1))
  rw [show i + 1 + (n - (i + 1)) = n by omega] at hr
  rw [hr, List.length_append, h1, List.length_replicate] at hl
  have hf : farI b (xs.getD i 0) (ys.getD i 0) = 1 := by omega
  have hr0 : r = [] := List.eq_nil_of_length_eq_zero (by omega)
  rw [hr, hr0, h1, hf, dir_one h (hx i hi) (hy i hi) hf]; rfl

/-- No digit differs: no turn. -/
theorem first_none {b : Int} {xs ys : List Int} : ∀ n : Nat, (∀ j, j < n → xs.getD j 0 = ys.getD j 0) → firstAt b xs ys n = []
  | 0, _ => rfl
  | n + 1, s => by rw [firstAt, first_none n (fun j hj => s j (by omega)), s n (by omega), far_same]; rfl

/-- The rank within the wheels that are left: backwards where the wheels before have told an odd number. -/
def foR (b x : Int) (n k : Nat) : Int := if (x / pw b (n - k)) % 2 = 1 then pw b (n - k) - 1 - x % pw b (n - k) else x % pw b (n - k)

/-- One wheel of the forth and back order, as the program reckons it. -/
theorem foR_step {b x : Int} {n k : Nat} (h : 2 ≤ b) (h0 : 0 ≤ x) (hk : k < n) :
    0 ≤ foR b x n k ∧ foR b x n k < pw b (n - k) ∧ foR b x n k / pw b (n - (k + 1)) = foI b (x / pw b (n - 1 - k)) ∧
    foR b x n (k + 1) = if foI b (x / pw b (n - 1 - k)) % 2 = 1 then pw b (n - (k + 1)) - 1 - foR b x n k % pw b (n - (k + 1)) else foR b x n k % pw b (n - (k + 1)) := by
  rw [show n - 1 - k = n - (k + 1) by omega]
  unfold foR foI
  generalize hm : n - (k + 1) = m
  have e1 : n - k = m + 1 := by omega
  rw [e1, ← div_pw h, pw_succ]
  have hc := pw_pos h m
  have hq0 : 0 ≤ x / pw b m := Int.ediv_nonneg h0 (Int.le_of_lt hc)
  have r0 := Int.emod_nonneg x (show pw b m ≠ 0 by omega)
  have r1 := Int.emod_lt_of_pos x hc
  have d0 := Int.emod_nonneg (x / pw b m) (show b ≠ 0 by omega)
  have d1 := Int.emod_lt_of_pos (x / pw b m) (show 0 < b by omega)
  have ex := Int.mul_ediv_add_emod x (pw b m)
  have eq := Int.mul_ediv_add_emod (x / pw b m) b
  have eS : x / pw b (m + 1) = x / pw b m / b := div_pw h
  have eM : x % (pw b m * b) = pw b m * (x / pw b m % b) + x % pw b m := by
    have := Int.mul_ediv_add_emod x (pw b m * b)
    have e2 : x / (pw b m * b) = x / pw b m / b := by rw [Int.ediv_ediv_of_nonneg (by omega)]
    rw [e2] at this
    have e3 : pw b m * (x / pw b m) = pw b m * (b * (x / pw b m / b) + x / pw b m % b) := by rw [eq]
    rw [Int.mul_add, ← Int.mul_assoc] at e3
    omega
  have e2 : x / (pw b m * b) = x / pw b m / b := by rw [Int.ediv_ediv_of_nonneg (by omega)]
  rw [eM]
  rw [e2] at *
  rw [pw_succ, e2] at *
  generalize pw b m = c at *
  generalize x / c = q at *
  generalize x % c = r at *
  generalize hS : q / b = S at *
  generalize q % b = d at *
  have m1 : c * d + c ≤ c * b := by
    have := Int.mul_le_mul_of_nonneg_left (show d + 1 ≤ b by omega) (show 0 ≤ c by omega)
    rw [Int.mul_add, Int.mul_one] at this; exact this
  have m0 : 0 ≤ c * d := Int.mul_nonneg (by omega) d0
  have par : q % 2 = if S % 2 = 1 then (b + d) % 2 else d % 2 := by
    rw [← eq]
    split
    · rename_i hs
      obtain ⟨t, ht⟩ : ∃ t, S = 2 * t + 1 := ⟨S / 2, by omega⟩
      rw [ht, Int.mul_add, Int.mul_one, ← Int.mul_assoc, Int.mul_comm b 2, Int.mul_assoc]
      omega
    · rename_i hs
      obtain ⟨t, ht⟩ : ∃ t, S = 2 * t := ⟨S / 2, by omega⟩
      rw [ht, ← Int.mul_assoc, Int.mul_comm b 2, Int.mul_assoc]
      omega
  by_cases hs : S % 2 = 1
  · rw [if_pos hs] at par ⊢
    rw [if_pos hs] 
    have e4 : c * b - 1 - (c * d + r) = (c - 1 - r) + c * (b - 1 - d) := by rw [Int.mul_sub, Int.mul_sub, Int.mul_one]; omega
    rw [e4]
    refine ⟨?_, ?_, ?_, ?_⟩
    · rw [← e4]; omega
    · rw [← e4]; omega
    · rw [Int.add_mul_ediv_left _ _ (by omega), Int.ediv_eq_zero_of_lt (by omega) (by omega), Int.zero_add]
    · rw [Int.add_mul_emod_self_left, Int.emod_eq_of_lt (show 0 ≤ c - 1 - r by omega) (by omega), par]
      split <;> split <;> omega
  · rw [if_neg hs] at par ⊢
    rw [if_neg hs]
    refine ⟨by omega, by omega, ?_, ?_⟩
    · rw [Int.add_comm, Int.add_mul_ediv_left _ _ (by omega), Int.ediv_eq_zero_of_lt r0 r1, Int.zero_add]
    · rw [Int.add_comm, Int.add_mul_emod_self_left, Int.emod_eq_of_lt r0 r1, par]

/-- The rank in the forth and back order, as the model reckons it. -/
def frkA (b : Int) (ds : List Int) : Nat → Int
  | 0 => 0
  | k + 1 => frkA b ds k * b + (if frkA b ds k % 2 = 1 then b - 1 - ds.getD k 0 else ds.getD k 0)

/-- And as the program does, from the last wheel on. -/
def frkB (b : Int) (ds : List Int) (n : Nat) : Nat → Int
  | 0 => 0
  | k + 1 => (if ds.getD (n - 1 - k) 0 % 2 = 1 then pw b k - 1 - frkB b ds n k else frkB b ds n k) + ds.getD (n - 1 - k) 0 * pw b k

theorem frkA_bd {b : Int} {ds : List Int} {n : Nat} (hb : 2 ≤ b) (h : ∀ j, j < n → 0 ≤ ds.getD j 0 ∧ ds.getD j 0 < b) : ∀ k, k ≤ n → 0 ≤ frkA b ds k ∧ frkA b ds k + 1 ≤ pw b k
  | 0, _ => by rw [pw_zero]; exact ⟨Int.le_refl _, Int.le_refl _⟩
  | k + 1, hk => by
    obtain ⟨i1, i2⟩ := frkA_bd hb h k (by omega)
    obtain ⟨d1, d2⟩ := h k (by omega)
    rw [pw_succ, frkA]
    have m1 := Int.mul_nonneg i1 (show 0 ≤ b by omega)
    have m2 := Int.mul_le_mul_of_nonneg_right i2 (show 0 ≤ b by omega)
    rw [Int.add_mul] at m2
    split <;> omega

theorem frkB_bd {b : Int} {ds : List Int} {n : Nat} (hb : 2 ≤ b) (h : ∀ j, j < n → 0 ≤ ds.getD j 0 ∧ ds.getD j 0 < b) : ∀ k, k ≤ n → 0 ≤ frkB b ds n k ∧ frkB b ds n k + 1 ≤ pw b k
  | 0, _ => by rw [pw_zero]; exact ⟨Int.le_refl _, Int.le_refl _⟩
  | k + 1, hk => by
    obtain ⟨i1, i2⟩ := frkB_bd hb h k (by omega)
    obtain ⟨d1, d2⟩ := h (n - 1 - k) (by omega)
    rw [pw_succ, frkB]
    have hp := pw_pos hb k
    have m1 := Int.mul_nonneg d1 (show 0 ≤ pw b k by omega)
    have m2 := Int.mul_le_mul_of_nonneg_right (show ds.getD (n - 1 - k) 0 + 1 ≤ b by omega) (show 0 ≤ pw b k by omega)
    rw [Int.add_mul, Int.one_mul, Int.mul_comm b] at m2
    split <;> omega

theorem frk_both {b : Int} {ds : List Int} {n : Nat} : ∀ k, k ≤ n →
    frkA b ds n = frkA b ds (n - k) * pw b k + (if frkA b ds (n - k) % 2 = 1 then pw b k - 1 - frkB b ds n k else frkB b ds n k)
  | 0, _ => by
    rw [Nat.sub_zero, pw_zero, frkB]
    split <;> omega
  | k + 1, hk => by
    rw [frk_both k (by omega), show n - k = (n - (k + 1)) + 1 by omega, frkA, frkB, show n - 1 - k = n - (k + 1) by omega, pw_succ]
    generalize n - (k + 1) = m
    generalize frkA b ds m = p
    generalize ds.getD m 0 = d
    generalize frkB b ds n k = B
    generalize pw b k = c
    by_cases hp : p % 2 = 1
    · rw [if_pos hp, if_pos hp]
      have par : (p * b + (b - 1 - d)) % 2 = (1 + d) % 2 := by
        obtain ⟨t, ht⟩ : ∃ t, p = 2 * t + 1 := ⟨p / 2, by omega⟩
        rw [ht, Int.add_mul, Int.one_mul, Int.mul_assoc]; omega
      rw [par, Int.add_mul, Int.mul_assoc, Int.mul_comm b c, Int.sub_mul, Int.sub_mul, Int.mul_comm b c, Int.one_mul]
      by_cases hd : d % 2 = 1
      · rw [if_neg (by omega), if_pos hd]; omega
      · rw [if_pos (by omega), if_neg hd]; omega
    · rw [if_neg hp, if_neg hp]
      have par : (p * b + d) % 2 = d % 2 := by
        obtain ⟨t, ht⟩ : ∃ t, p = 2 * t := ⟨p / 2, by omega⟩
        rw [ht, Int.mul_assoc]; omega
      rw [par, Int.add_mul, Int.mul_assoc, Int.mul_comm b c]
      omega

theorem frk_eq {b : Int} {ds : List Int} {n : Nat} : frkB b ds n n = frkA b ds n := by
  have := frk_both (b := b) (ds := ds) (n := n) n (Nat.le_refl _)
  rw [Nat.sub_self] at this
  rw [this, frkA]
  simp

/-- The sums of the first digits, around. -/
def psA (b : Int) (ds : List Int) : Nat → Int
  | 0 => 0
  | k + 1 => (psA b ds k + ds.getD k 0) % b

def psL (b : Int) (ds : List Int) (n : Nat) : List Int := (List.range n).map fun j => psA b ds (j + 1)

theorem psL_length (b : Int) (ds : List Int) (n : Nat) : (psL b ds n).length = n := by simp [psL]

theorem psL_at {b : Int} {ds : List Int} {n j : Nat} (hj : j < n) : (psL b ds n).getD j 0 = psA b ds (j + 1) := by simp [psL, List.getD, hj]

theorem psA_bd {b : Int} (h : 2 ≤ b) (ds : List Int) (k : Nat) : 0 ≤ psA b ds k ∧ psA b ds k < b := by
  cases k with
  | zero => rw [psA]; omega
  | succ k => rw [psA]; exact ⟨Int.emod_nonneg _ (by omega), Int.emod_lt_of_pos _ (by omega)⟩

end Go.Proofs.Ytjghodfdejdjoaa
