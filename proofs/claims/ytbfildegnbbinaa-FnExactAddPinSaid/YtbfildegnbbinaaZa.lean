/- Pins with a depth put in or taken out: the mathematics. No conditions beyond those of each lemma. -/
import Derived.Test.YtbfildegnbbinaaVu
import Derived.Test.YtbfildegnbbinaaVs
namespace Go.Proofs.Ytbfildegnbbinaa
open Go.ChangeShapes Go.WideShapes Go.ChangeAt Go.RowKit Go.Joins

theorem sameM_iff {f g : Nat → Nat} : sameM f g = true ↔ ∀ i, i < 7 → f i = g i := by
  unfold sameM
  simp only [Bool.and_eq_true, decide_eq_true_eq]
  constructor
  · rintro ⟨⟨⟨⟨⟨⟨h0, h1⟩, h2⟩, h3⟩, h4⟩, h5⟩, h6⟩ i hi
    have : i = 0 ∨ i = 1 ∨ i = 2 ∨ i = 3 ∨ i = 4 ∨ i = 5 ∨ i = 6 := by omega
    rcases this with rfl | rfl | rfl | rfl | rfl | rfl | rfl <;> assumption
  · intro h
    exact ⟨⟨⟨⟨⟨⟨h 0 (by omega), h 1 (by omega)⟩, h 2 (by omega)⟩, h 3 (by omega)⟩, h 4 (by omega)⟩, h 5 (by omega)⟩, h 6 (by omega)⟩

theorem has_single {x : Int} {e : Nat} : hasB [x] e = decide ((e : Int) = x) := by
  unfold hasB
  refine decide_eq_decide.2 ?_
  rw [List.mem_singleton]

theorem has_nil {e : Nat} : hasB [] e = false := by unfold hasB; simp

/-- One depth at a place, none at the other ones. -/
def onL (p d n : Nat) : List (List Int) := rwL (fun i => if i = p then [(d : Int)] else []) n

/-- The mask of one depth at a place. -/
def onF (p d : Nat) (i : Nat) : Nat := if i = p then 2 ^ d else 0

theorem onL_at {p d n i : Nat} (h : i < n) : (onL p d n).getD i [] = if i = p then [(d : Int)] else [] := rwL_at (f := fun i => if i = p then [(d : Int)] else []) h

theorem lsN_none (n : Nat) : lsN (fun _ => false) n = [] := by
  induction n with
  | zero => rfl
  | succ n ih => rw [lsN, if_neg (by decide), ih]

theorem lsN_one {d dn : Nat} (h : d < dn) : lsN (fun e => decide (e = d)) dn = [(d : Int)] := by
  refine rise_ext (d := (dn : Int)) (lo := 0) (lsN_rise _ _) ?_ fun x => ?_
  · show (decide (0 ≤ (d : Int) ∧ (d : Int) < (dn : Int)) && true) = true
    rw [decide_eq_true ⟨by omega, by omega⟩]; rfl
  · rw [lsN_mem, List.mem_singleton]
    constructor
    · rintro ⟨e, _, rfl, h2⟩
      rw [of_decide_eq_true h2]
    · rintro rfl
      exact ⟨d, h, rfl, decide_eq_true rfl⟩

theorem mk_on {p d dn n : Nat} (h : d < dn) : mkL dn (onF p d) n = onL p d n := by
  unfold mkL onL
  refine rwL_congr fun i _ => ?_
  unfold onF
  by_cases e : i = p
  · rw [if_pos e]
    simp only [if_pos e]
    rw [← lsN_one h]
    refine lsN_congr fun e _ => ?_
    rw [Nat.testBit_two_pow]
    exact decide_eq_decide.2 ⟨fun h => h.symm, fun h => h.symm⟩
  · rw [if_neg e]
    simp only [if_neg e, Nat.zero_testBit]
    exact lsN_none _

theorem onF_lt {p d : Nat} (h : d < 9) (i : Nat) : onF p d i < 2 ^ 9 := by
  unfold onF
  split
  · exact Nat.pow_lt_pow_right (by decide) h
  · decide

theorem on_small {p d n : Nat} (h : d < 9) : SmallP (onL p d n) := fun i hi x hx => by
  rw [show (onL p d n).length = n from rwL_length _ _] at hi
  rw [onL_at hi] at hx
  split at hx
  · rw [List.mem_singleton] at hx; omega
  · cases hx

/-- All depths of the pin are there just if its one is. -/
theorem hasM_on {dn p d n : Nat} {ks : List (List Int)} (hd : dn ≤ 9) (hn : n ≤ 7) (hp : p < n) (hdd : d < dn) : hasM dn ks (onL p d n) n = hasB (ks.getD p []) d := by
  have hol : (onL p d n).length = n := rwL_length _ _
  have s2 : SmallP (onL p d n) := on_small (by omega)
  have sj : SmallP (jnL (fun x y => x && y) dn ks (onL p d n) n) := jnL_small hd
  have e1 : ∀ i, i < n → (jnL (fun x y => x && y) dn ks (onL p d n) n).getD i [] = lsN (fun e => hasB (ks.getD i []) e && hasB ((onL p d n).getD i []) e) dn := fun i hi => rwL_at (f := fun i => lsN (fun e => hasB (ks.getD i []) e && hasB ((onL p d n).getD i []) e) dn) hi
  rw [Bool.eq_iff_iff]
  unfold hasM
  rw [sameM_iff]
  constructor
  · intro h
    have h1 := (mkP_eq sj s2 p).1 (h p (by omega)) d (by omega)
    rw [e1 p hp, lsN_has hdd, onL_at hp, if_pos rfl, has_single, decide_eq_true rfl, Bool.and_true] at h1
    exact h1
  · intro h i hi7
    refine (mkP_eq sj s2 i).2 fun e he => ?_
    by_cases hi : i < n
    · rw [e1 i hi, onL_at hi]
      by_cases hip : i = p
      · subst hip
        rw [if_pos rfl]
        by_cases hed : e < dn
        · rw [lsN_has hed, has_single]
          by_cases hx : (e : Int) = (d : Int)
          · have hx' : e = d := by omega
            subst hx'
            rw [h, Bool.true_and]
          · rw [decide_eq_false hx, Bool.and_false]
        · have f1 : hasB (lsN (fun e => hasB (ks.getD i []) e && hasB [(d : Int)] e) dn) e = false := decide_eq_false fun hm => by
            obtain ⟨e', h1, h2, _⟩ := lsN_mem.1 hm
            omega
          rw [f1, has_single, decide_eq_false (by omega)]
      · rw [if_neg hip]
        have : lsN (fun e => hasB (ks.getD i []) e && hasB [] e) dn = [] := (lsN_congr fun e _ => by rw [has_nil, Bool.and_false]).trans (lsN_none dn)
        rw [this]
    · rw [List.getD, List.getElem?_eq_none (by rw [jnL_length]; omega), List.getD, List.getElem?_eq_none (by rw [hol]; omega)]

/-- The lists of a place with a depth taken out. -/
def tkL (d : Nat) (xs : List Int) : List Int := xs.filter (fun x => decide (x ≠ (d : Int)))

theorem rise_filter {D : Int} {P : Int → Bool} {xs : List Int} : ∀ {lo lo' : Int}, lo' ≤ lo → riseB D lo xs = true → riseB D lo' (xs.filter P) = true := by
  induction xs with
  | nil => intro lo lo' _ _; rfl
  | cons x xs ih =>
    intro lo lo' hl h
    obtain ⟨h1, h2, h3⟩ := rise_yes h
    by_cases hP : P x = true
    · rw [List.filter_cons_of_pos hP]
      show (decide (lo' ≤ x ∧ x < D) && riseB D (x + 1) (xs.filter P)) = true
      rw [decide_eq_true ⟨by omega, h2⟩, ih (Int.le_refl _) h3]; rfl
    · rw [List.filter_cons_of_neg hP]
      exact ih (by omega) h3

theorem tk_ls {dn d : Nat} {xs : List Int} (h : riseB (dn : Int) 0 xs = true) : lsN (fun e => hasB xs e && !decide (e = d)) dn = tkL d xs := by
  refine rise_ext (d := (dn : Int)) (lo := 0) (lsN_rise _ _) (rise_filter (Int.le_refl _) h) fun x => ?_
  unfold tkL
  rw [lsN_mem, List.mem_filter]
  constructor
  · rintro ⟨e, _, rfl, h2⟩
    rw [Bool.and_eq_true, Bool.not_eq_true', decide_eq_false_iff_not] at h2
    exact ⟨of_decide_eq_true h2.1, decide_eq_true (by omega)⟩
  · rintro ⟨h1, h2⟩
    have h3 := rise_mem h x h1
    have h4 := of_decide_eq_true h2
    refine ⟨x.toNat, by omega, by omega, ?_⟩
    rw [Bool.and_eq_true, Bool.not_eq_true', decide_eq_false_iff_not]
    exact ⟨decide_eq_true (by rw [show ((x.toNat : Nat) : Int) = x by omega]; exact h1), by omega⟩

theorem without_on {dn p d n : Nat} {ks : List (List Int)} (hk : ks.length = n) (hr : ∀ i, i < n → riseB (dn : Int) 0 (ks.getD i []) = true) (hp : p < n) : jnL (fun x y => x && !y) dn ks (onL p d n) n = ks.set p (tkL d (ks.getD p [])) := by
  refine lists_ext (by rw [jnL_length, List.length_set, hk]) fun i hi => ?_
  rw [jnL_length] at hi
  rw [show (jnL (fun x y => x && !y) dn ks (onL p d n) n).getD i [] = lsN (fun e => hasB (ks.getD i []) e && !hasB ((onL p d n).getD i []) e) dn from rwL_at (f := fun i => lsN (fun e => hasB (ks.getD i []) e && !hasB ((onL p d n).getD i []) e) dn) hi, onL_at hi]
  by_cases e : i = p
  · subst e
    rw [if_pos rfl, getD_set_eq (by omega), ← tk_ls (hr i hi)]
    refine lsN_congr fun e _ => ?_
    rw [has_single]
    congr 2
    exact decide_eq_decide.2 ⟨fun h => by omega, fun h => by omega⟩
  · rw [if_neg e, getD_set_ne e]
    have h2 := rise_eq (hr i hi)
    refine Eq.trans (lsN_congr fun e _ => ?_) h2
    rw [has_nil]; simp

/-- Whether a depth can be taken out, and what is left. -/
def tpB (d : Int) (ks : List (List Int)) (p q : Int) : Bool := pinsB d ks && inB p 0 ((ks.length : Int) - 1) && inB q 0 (d - 1) && hasB (ks.getD p.toNat []) q.toNat && !decide ((ks.getD p.toNat []).length = 1)
def tpD (d : Int) (ks : List (List Int)) (p q : Int) : Int := if tpB d ks p q then d else 0
def tpK (d : Int) (ks : List (List Int)) (p q : Int) : List (List Int) := if tpB d ks p q then ks.set p.toNat (tkL q.toNat (ks.getD p.toNat [])) else []

theorem tp_no {d p q : Int} {ks : List (List Int)} (h : pinsB d ks = false ∨ inB p 0 ((ks.length : Int) - 1) = false ∨ inB q 0 (d - 1) = false ∨ hasB (ks.getD p.toNat []) q.toNat = false ∨ (ks.getD p.toNat []).length = 1) : tpB d ks p q = false := by
  unfold tpB
  rcases h with h | h | h | h | h
  · rw [h]; simp
  · rw [h]; simp
  · rw [h]; simp
  · rw [h]; simp
  · rw [decide_eq_true h]; simp

theorem tk_mem {d : Nat} {xs : List Int} {x : Int} : x ∈ tkL d xs ↔ x ∈ xs ∧ x ≠ (d : Int) := by
  unfold tkL
  rw [List.mem_filter]
  exact and_congr_right fun _ => ⟨of_decide_eq_true, fun h => decide_eq_true h⟩

/-- Something is left just if there is another depth. -/
theorem tk_left {D : Int} {d : Nat} {xs : List Int} {lo : Int} (h : riseB D lo xs = true) (hm : hasB xs d = true) : (tkL d xs).length ≠ 0 ↔ xs.length ≠ 1 := by
  have hm' : (d : Int) ∈ xs := of_decide_eq_true hm
  constructor
  · intro h1 h2
    obtain ⟨y, rfl⟩ := List.length_eq_one_iff.1 h2
    rw [List.mem_singleton] at hm'
    have : tkL d [y] = [] := List.eq_nil_iff_forall_not_mem.2 fun x hx => by
      rw [tk_mem, List.mem_singleton] at hx
      omega
    rw [this] at h1
    exact h1 rfl
  · intro h1 h2
    have h3 : tkL d xs = [] := List.eq_nil_of_length_eq_zero h2
    have h4 : ∀ x, x ∈ xs → x = (d : Int) := fun x hx => by
      by_cases e : x = (d : Int)
      · exact e
      · have : x ∈ tkL d xs := tk_mem.2 ⟨hx, e⟩
        rw [h3] at this
        cases this
    rcases xs with _ | ⟨a, _ | ⟨b, xs⟩⟩
    · cases hm'
    · exact h1 rfl
    · obtain ⟨_, _, h5⟩ := rise_yes h
      have h6 := rise_mem h5 b (List.mem_cons_self ..)
      have := h4 a (List.mem_cons_self ..)
      have := h4 b (List.mem_cons_of_mem _ (List.mem_cons_self ..))
      omega

theorem tk_length (d : Nat) (xs : List Int) : (tkL d xs).length ≤ xs.length := List.length_filter_le ..

theorem elem_getD {l : List (List Int)} {i : Nat} (h : i < l.length) : l[i] = l.getD i [] := by simp [List.getD, List.getElem?_eq_getElem h]

/-- What is left are pins just if the place has another depth. -/
theorem tk_pins {d : Int} {ks : List (List Int)} {p q : Nat} (hd : pinsB d ks = true) (hp : p < ks.length) (hm : hasB (ks.getD p []) q = true) : pinsB d (ks.set p (tkL q (ks.getD p []))) = !decide ((ks.getD p []).length = 1) := by
  obtain ⟨h1, h2, h3, h4, h5⟩ := pinsB_yes hd
  have hl := tk_left (h5 p hp).2 hm
  have hr := rise_filter (P := fun x => decide (x ≠ (q : Int))) (Int.le_refl 0) (h5 p hp).2
  have hlen : (ks.set p (tkL q (ks.getD p []))).length = ks.length := List.length_set ..
  by_cases e : (ks.getD p []).length = 1
  · rw [decide_eq_true e]
    show _ = false
    have h0 : (tkL q (ks.getD p [])).length = 0 := by
      by_cases h : (tkL q (ks.getD p [])).length = 0
      · exact h
      · exact absurd e (hl.1 h)
    unfold pinsB
    have : (ks.set p (tkL q (ks.getD p []))).all (depB d) = false := by
      refine lall_not (k := p) (d := []) (by rw [hlen]; exact hp) ?_
      rw [getD_set_eq hp]
      unfold depB
      rw [h0]; simp
    rw [this, Bool.and_false]
  · rw [decide_eq_false e]
    show _ = true
    unfold pinsB
    rw [hlen, show inB d 1 9 = true from decide_eq_true ⟨h1, h2⟩, show inB (ks.length : Int) 1 7 = true from decide_eq_true ⟨by omega, by omega⟩]
    have : (ks.set p (tkL q (ks.getD p []))).all (depB d) = true := by
      rw [List.all_eq_true]
      intro xs hx
      obtain ⟨i, hi, rfl⟩ := List.getElem_of_mem hx
      have e2 := elem_getD hi
      have hi2 : i < ks.length := by rw [← hlen]; exact hi
      rw [e2]
      by_cases hip : i = p
      · subst hip
        rw [getD_set_eq hi2]
        unfold depB
        rw [decide_eq_true (hl.2 e)]
        exact hr
      · rw [getD_set_ne hip]
        unfold depB
        rw [decide_eq_true (h5 i hi2).1, (h5 i hi2).2]; rfl
    rw [this]; rfl

end Go.Proofs.Ytbfildegnbbinaa
