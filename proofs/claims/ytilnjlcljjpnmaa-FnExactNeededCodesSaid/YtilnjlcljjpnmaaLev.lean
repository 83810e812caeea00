/- A search by levels: how many shortest ways lead to each place, each step taken back by another one. Plain facts; no conditions beyond those of each lemma. -/
import Derived.Test.YtilnjlcljjpnmaaBase
namespace Go.Proofs.Ytilnjlcljjpnmaa

def sumTo (f : Nat → Nat) : Nat → Nat
  | 0 => 0
  | n + 1 => sumTo f n + f n

theorem sumTo_congr {f g : Nat → Nat} : ∀ {n : Nat}, (∀ j, j < n → f j = g j) → sumTo f n = sumTo g n
  | 0, _ => rfl
  | n + 1, h => by rw [sumTo, sumTo, sumTo_congr (fun j hj => h j (by omega)), h n (by omega)]

theorem sumTo_zero {f : Nat → Nat} : ∀ {n : Nat}, (∀ j, j < n → f j = 0) → sumTo f n = 0
  | 0, _ => rfl
  | n + 1, h => by rw [sumTo, sumTo_zero (fun j hj => h j (by omega)), h n (by omega)]

theorem sumTo_one {f g : Nat → Nat} {i d : Nat} : ∀ {n : Nat}, i < n → (∀ j, j < n → f j = g j + if j = i then d else 0) → sumTo f n = sumTo g n + d
  | 0, hi, _ => by omega
  | n + 1, hi, h => by
    rw [sumTo, sumTo, h n (by omega)]
    by_cases e : n = i
    · subst e
      rw [if_pos rfl, sumTo_congr (g := g) (fun j hj => by rw [h j (by omega), if_neg (by omega)]; omega)]
      omega
    · rw [if_neg e, sumTo_one (by omega) (fun j hj => h j (by omega))]
      omega

theorem sumTo_pos {f : Nat → Nat} {i : Nat} : ∀ {n : Nat}, i < n → 0 < f i → 0 < sumTo f n
  | 0, hi, _ => by omega
  | n + 1, hi, h => by
    rw [sumTo]
    by_cases e : n = i
    · subst e; omega
    · have := sumTo_pos (n := n) (by omega) h; omega

theorem sumTo_ex {f : Nat → Nat} : ∀ {n : Nat}, 0 < sumTo f n → ∃ i, i < n ∧ 0 < f i
  | 0, h => by simp [sumTo] at h
  | n + 1, h => by
    rw [sumTo] at h
    by_cases e : 0 < f n
    · exact ⟨n, by omega, e⟩
    · obtain ⟨i, hi, h2⟩ := sumTo_ex (n := n) (f := f) (by omega)
      exact ⟨i, by omega, h2⟩

section

variable {α : Type}

/-- Steps keep to P, and each is taken back by another one. -/
structure Grf (mv : α → Nat → α) (m : Nat) (P : α → Prop) (inv : Nat → Nat) : Prop where
  keep : ∀ x j, P x → j < m → P (mv x j)
  back : ∀ x j, P x → j < m → mv (mv x j) (inv j) = x
  lt : ∀ j, j < m → inv j < m
  two : ∀ j, j < m → inv (inv j) = j

theorem Grf.iff {mv : α → Nat → α} {m : Nat} {P : α → Prop} {inv : Nat → Nat} (h : Grf mv m P inv) {x y : α} {j : Nat} (hx : P x) (hy : P y) (hj : j < m) : mv y j = x ↔ mv x (inv j) = y := by
  constructor
  · rintro rfl; exact h.back y j hy hj
  · rintro rfl
    have := h.back x (inv j) hx (h.lt j hj)
    rwa [h.two j hj] at this

variable [DecidableEq α]

/-- Ways by the level, and what is seen up to it. -/
def lev (mv : α → Nat → α) (m : Nat) (inv : Nat → Nat) (al : α → Bool) (s : α) : Nat → (α → Nat) × (α → Bool)
  | 0 => (fun x => if x = s then 1 else 0, fun x => decide (x = s))
  | k + 1 =>
    let p := lev mv m inv al s k
    let w := fun x => if al x && !p.2 x then sumTo (fun j => p.1 (mv x (inv j))) m else 0
    (w, fun x => p.2 x || decide (0 < w x))

variable (mv : α → Nat → α) (m : Nat) (inv : Nat → Nat) (al : α → Bool) (s : α)

def wy (k : Nat) (x : α) : Nat := (lev mv m inv al s k).1 x

def sn (k : Nat) (x : α) : Bool := (lev mv m inv al s k).2 x

theorem wy_zero (x : α) : wy mv m inv al s 0 x = if x = s then 1 else 0 := rfl

theorem sn_zero (x : α) : sn mv m inv al s 0 x = decide (x = s) := rfl

theorem wy_succ (k : Nat) (x : α) : wy mv m inv al s (k + 1) x = if al x && !sn mv m inv al s k x then sumTo (fun j => wy mv m inv al s k (mv x (inv j))) m else 0 := rfl

theorem sn_succ (k : Nat) (x : α) : sn mv m inv al s (k + 1) x = (sn mv m inv al s k x || decide (0 < wy mv m inv al s (k + 1) x)) := rfl

variable {mv m inv al s}

theorem sn_iff : ∀ {k : Nat} {x : α}, sn mv m inv al s k x = true ↔ ∃ i, i ≤ k ∧ 0 < wy mv m inv al s i x
  | 0, x => by
    rw [sn_zero, decide_eq_true_iff]
    constructor
    · rintro rfl; exact ⟨0, by omega, by rw [wy_zero, if_pos rfl]; omega⟩
    · rintro ⟨i, hi, h⟩
      obtain rfl : i = 0 := by omega
      rw [wy_zero] at h
      split at h
      · assumption
      · omega
  | k + 1, x => by
    rw [sn_succ, Bool.or_eq_true, decide_eq_true_iff, sn_iff]
    constructor
    · rintro (⟨i, hi, h⟩ | h)
      · exact ⟨i, by omega, h⟩
      · exact ⟨k + 1, by omega, h⟩
    · rintro ⟨i, hi, h⟩
      by_cases e : i = k + 1
      · subst e; exact .inr h
      · exact .inl ⟨i, by omega, h⟩

theorem wy_seen {k : Nat} {x : α} (h : sn mv m inv al s k x = true) : wy mv m inv al s (k + 1) x = 0 := by
  rw [wy_succ, h]
  simp

theorem wy_one {i j : Nat} {x : α} (hi : 0 < wy mv m inv al s i x) (hj : 0 < wy mv m inv al s j x) : i = j := by
  have key : ∀ {i j : Nat}, 0 < wy mv m inv al s i x → 0 < wy mv m inv al s j x → ¬ i < j := fun {i j} hi hj hlt => by
    obtain ⟨k, rfl⟩ : ∃ k, j = k + 1 := ⟨j - 1, by omega⟩
    have := wy_seen (k := k) (sn_iff.2 ⟨i, by omega, hi⟩)
    omega
  have h1 := key hi hj
  have h2 := key hj hi
  omega

theorem wy_alive {k : Nat} {x : α} (hs : al s = true) (h : 0 < wy mv m inv al s k x) : al x = true := by
  cases k with
  | zero =>
    rw [wy_zero] at h
    split at h
    · rename_i e; rw [e]; exact hs
    · omega
  | succ k =>
    rw [wy_succ] at h
    split at h
    · rename_i e
      rw [Bool.and_eq_true] at e
      exact e.1
    · omega

/-- Behind a step from a level: seen up to the next one. -/
theorem wy_step {P : α → Prop} (hg : Grf mv m P inv) {k : Nat} {x : α} {j : Nat} (hx : P x) (h : 0 < wy mv m inv al s k x) (hj : j < m) (ha : al (mv x j) = true) : sn mv m inv al s (k + 1) (mv x j) = true := by
  rw [sn_succ]
  by_cases hs : sn mv m inv al s k (mv x j) = true
  · rw [hs]; rfl
  · have hs' := Bool.eq_false_iff.2 hs
    rw [hs', Bool.false_or, decide_eq_true_iff, wy_succ, ha, hs']
    simp only [Bool.not_false, Bool.and_self, if_true]
    refine sumTo_pos hj ?_
    rw [hg.back x j hx hj]
    exact h

/-- Each place of a level but the first has one of the level before it. -/
theorem wy_pred {P : α → Prop} (hg : Grf mv m P inv) {k : Nat} {x : α} (hx : P x) (h : 0 < wy mv m inv al s (k + 1) x) : ∃ y j, P y ∧ j < m ∧ mv y j = x ∧ 0 < wy mv m inv al s k y := by
  rw [wy_succ] at h
  split at h
  · obtain ⟨j, hj, h2⟩ := sumTo_ex h
    have hP := hg.keep x (inv j) hx (hg.lt j hj)
    exact ⟨mv x (inv j), j, hP, hj, (hg.iff hx hP hj).2 rfl, h2⟩
  · omega

/-- What is told by the steps that are done: of those that lead to x. -/
def acc (mv : α → Nat → α) (m : Nat) (inv : Nat → Nat) (pr : α → Nat → Bool) (g : α → Nat) (x : α) : Nat :=
  sumTo (fun j => if pr (mv x (inv j)) j then g (mv x (inv j)) else 0) m

/-- The steps done: all of what is done, and j of the one in work. -/
def prB (done : α → Bool) (y : α) (j : Nat) (y' : α) (j' : Nat) : Bool := done y' || (decide (y' = y) && decide (j' < j))

theorem acc_step {P : α → Prop} (hg : Grf mv m P inv) {done : α → Bool} {y x : α} {j : Nat} {g : α → Nat} (hy : P y) (hx : P x) (hj : j < m) (hd : done y = false) :
    acc mv m inv (prB done y (j + 1)) g x = acc mv m inv (prB done y j) g x + if mv y j = x then g y else 0 := by
  unfold acc
  by_cases e : mv y j = x
  · rw [if_pos e]
    have e2 := (hg.iff hx hy hj).1 e
    refine sumTo_one hj (fun i hi => ?_)
    by_cases hij : i = j
    · subst hij
      rw [if_pos rfl, e2]
      have h1 : prB done y (i + 1) y i = true := by simp [prB]
      have h2 : prB done y i y i = false := by simp [prB, hd]
      rw [h1, h2]; simp
    · rw [if_neg hij, Nat.add_zero]
      congr 1
      unfold prB
      have : decide (i < j + 1) = decide (i < j) := by
        by_cases h : i < j
        · rw [decide_eq_true h, decide_eq_true (by omega)]
        · rw [decide_eq_false h, decide_eq_false (by omega)]
      rw [this]
  · rw [if_neg e, Nat.add_zero]
    refine sumTo_congr (fun i hi => ?_)
    have hP := hg.keep x (inv i) hx (hg.lt i hi)
    have : prB done y (j + 1) (mv x (inv i)) i = prB done y j (mv x (inv i)) i := by
      unfold prB
      by_cases h1 : mv x (inv i) = y
      · have : decide (i < j + 1) = decide (i < j) := by
          have hij : i ≠ j := by
            intro h2; subst h2
            exact e ((hg.iff hx hy hi).2 h1)
          by_cases h : i < j
          · rw [decide_eq_true h, decide_eq_true (by omega)]
          · rw [decide_eq_false h, decide_eq_false (by omega)]
        rw [this]
      · rw [decide_eq_false h1]; rfl
    rw [this]

omit [DecidableEq α] in
theorem acc_congr {P : α → Prop} (hg : Grf mv m P inv) {pr pr' : α → Nat → Bool} {g : α → Nat} {x : α} (hx : P x) (h : ∀ y j, P y → j < m → 0 < g y → pr y j = pr' y j) : acc mv m inv pr g x = acc mv m inv pr' g x := by
  unfold acc
  refine sumTo_congr (fun i hi => ?_)
  have hP := hg.keep x (inv i) hx (hg.lt i hi)
  by_cases hz : 0 < g (mv x (inv i))
  · rw [h _ i hP hi hz]
  · have : g (mv x (inv i)) = 0 := by omega
    rw [this]; simp

omit [DecidableEq α] in
theorem acc_full {P : α → Prop} (hg : Grf mv m P inv) {pr : α → Nat → Bool} {g : α → Nat} {x : α} (hx : P x) (h : ∀ y j, P y → j < m → 0 < g y → pr y j = true) : acc mv m inv pr g x = sumTo (fun j => g (mv x (inv j))) m := by
  unfold acc
  refine sumTo_congr (fun i hi => ?_)
  have hP := hg.keep x (inv i) hx (hg.lt i hi)
  by_cases hz : 0 < g (mv x (inv i))
  · rw [h _ i hP hi hz]; rfl
  · have : g (mv x (inv i)) = 0 := by omega
    rw [this]; simp

omit [DecidableEq α] in
theorem acc_none {P : α → Prop} (hg : Grf mv m P inv) {pr : α → Nat → Bool} {g : α → Nat} {x : α} (hx : P x) (h : ∀ y j, P y → j < m → 0 < g y → pr y j = false) : acc mv m inv pr g x = 0 := by
  unfold acc
  refine sumTo_zero (fun i hi => ?_)
  have hP := hg.keep x (inv i) hx (hg.lt i hi)
  by_cases hz : 0 < g (mv x (inv i))
  · rw [h _ i hP hi hz]; simp
  · have : g (mv x (inv i)) = 0 := by omega
    rw [this]; simp

omit [DecidableEq α] in
theorem acc_off {P : α → Prop} (hg : Grf mv m P inv) {pr : α → Nat → Bool} {g : α → Nat} {x : α} (hx : P x) (h : ∀ u j, P u → j < m → mv u j = x → pr u j = false) : acc mv m inv pr g x = 0 := by
  unfold acc
  refine sumTo_zero (fun i hi => ?_)
  have hP := hg.keep x (inv i) hx (hg.lt i hi)
  rw [h _ i hP hi ((hg.iff hx hP hi).2 rfl)]
  simp

/-- Counts stay at a greatest one. -/
def sat (c n : Nat) : Nat := if n ≤ c then n else c

theorem sat_le (c n : Nat) : sat c n ≤ c := by unfold sat; split <;> omega

theorem sat_add (c a b : Nat) : sat c (sat c a + sat c b) = sat c (a + b) := by
  unfold sat
  by_cases h1 : a ≤ c
  · by_cases h2 : b ≤ c
    · rw [if_pos h1, if_pos h2]
    · rw [if_pos h1, if_neg h2]
      by_cases h3 : a + c ≤ c
      · rw [if_pos h3, if_neg (by omega)]; omega
      · rw [if_neg h3, if_neg (by omega)]
  · rw [if_neg h1, if_neg (show ¬ a + b ≤ c by omega)]
    split <;> split <;> omega

theorem sat_pos {c n : Nat} (hc : 0 < c) : 0 < sat c n ↔ 0 < n := by unfold sat; split <;> omega

theorem sat_zero (c : Nat) : sat c 0 = 0 := by unfold sat; rw [if_pos (by omega)]

/-- A level of so great a number comes behind as many places. -/
theorem wy_chain {P : α → Prop} (hg : Grf mv m P inv) : ∀ (k : Nat) (x : α), P x → 0 < wy mv m inv al s k x → ∃ L : List α, L.length = k + 1 ∧ L.Nodup ∧ ∀ y, y ∈ L → P y ∧ sn mv m inv al s k y = true
  | 0, x, hx, h => ⟨[x], rfl, by simp, fun y hy => by obtain rfl := List.mem_singleton.1 hy; exact ⟨hx, sn_iff.2 ⟨0, by omega, h⟩⟩⟩
  | k + 1, x, hx, h => by
    obtain ⟨y, j, hy, _, _, hw⟩ := wy_pred hg hx h
    obtain ⟨L, h1, h2, h3⟩ := wy_chain hg k y hy hw
    refine ⟨x :: L, by simp [h1], List.nodup_cons.2 ⟨fun hm => ?_, h2⟩, fun z hz => ?_⟩
    · have := wy_seen (h3 x hm).2
      omega
    · rcases List.mem_cons.1 hz with rfl | hz
      · exact ⟨hx, sn_iff.2 ⟨k + 1, by omega, h⟩⟩
      · obtain ⟨a, b⟩ := h3 z hz
        exact ⟨a, by rw [sn_succ, b]; rfl⟩

end

end Go.Proofs.Ytilnjlcljjpnmaa
