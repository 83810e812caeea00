/- Parts of a lock, counted by the first code of each. No conditions beyond those of each lemma. -/
import Derived.Test.YtilnjlcljjpnmaaSy
namespace Go.Proofs.Ytilnjlcljjpnmaa

theorem rcB_dst {a b : Int} {ts : List ByteArray} {x y : ByteArray} (hx : alB a b ts x = true) (hy : askB a b y = true) : rcB a b ts x y = true ↔ ∃ k, Dst (mvW b) (2 * a.toNat) (alB a b ts) x k y := by
  rw [rcB_iff hy]
  constructor
  · rintro ⟨k, hk⟩
    exact ⟨k, Dst.of_wy (grfW a b) hx hy hk⟩
  · rintro ⟨k, hk⟩
    obtain ⟨i, _, hi⟩ := sn_iff.1 (hk.sn (grfW a b) (alB_ask hx))
    exact ⟨i, hi⟩

theorem rcB_al {a b : Int} {ts : List ByteArray} {x y : ByteArray} (hx : alB a b ts x = true) (hy : askB a b y = true) (h : rcB a b ts x y = true) : alB a b ts y = true := by
  obtain ⟨k, hk⟩ := (rcB_dst hx hy).1 h
  exact hk.alive hx

theorem Dst.trans {α : Type} {mv : α → Nat → α} {m : Nat} {al : α → Bool} {s x y : α} {k j : Nat} (h1 : Dst mv m al s k x) (h2 : Dst mv m al x j y) : Dst mv m al s (k + j) y := by
  induction h2 with
  | here => exact h1
  | step h hj ha ih => exact .step ih hj ha

theorem rcB_refl {a b : Int} {ts : List ByteArray} {x : ByteArray} (hx : alB a b ts x = true) : rcB a b ts x x = true := (rcB_dst hx (alB_ask hx)).2 ⟨0, .here⟩

theorem rcB_sym {a b : Int} {ts : List ByteArray} {x y : ByteArray} (hx : alB a b ts x = true) (hy : askB a b y = true) (h : rcB a b ts x y = true) : rcB a b ts y x = true := by
  obtain ⟨k, hk⟩ := (rcB_dst hx hy).1 h
  exact (rcB_dst (hk.alive hx) (alB_ask hx)).2 ⟨k, hk.back (grfW a b) (alB_ask hx) hx⟩

theorem rcB_trans {a b : Int} {ts : List ByteArray} {x y z : ByteArray} (hx : alB a b ts x = true) (hy : askB a b y = true) (hz : askB a b z = true) (h1 : rcB a b ts x y = true) (h2 : rcB a b ts y z = true) : rcB a b ts x z = true := by
  obtain ⟨k, hk⟩ := (rcB_dst hx hy).1 h1
  obtain ⟨j, hj⟩ := (rcB_dst (hk.alive hx) hz).1 h2
  exact (rcB_dst hx hz).2 ⟨k + j, hk.trans hj⟩

/-- Reached from one of the first codes. -/
def seB (a b : Int) (ts : List ByteArray) (n i : Nat) : Bool := (List.range n).any fun j => alB a b ts (cdN a b j) && rcB a b ts (cdN a b j) (cdN a b i)

theorem seB_iff {a b : Int} {ts : List ByteArray} {n i : Nat} : seB a b ts n i = true ↔ ∃ j, j < n ∧ alB a b ts (cdN a b j) = true ∧ rcB a b ts (cdN a b j) (cdN a b i) = true := by
  unfold seB
  rw [List.any_eq_true]
  constructor
  · rintro ⟨j, hj, h⟩
    rw [Bool.and_eq_true] at h
    exact ⟨j, List.mem_range.1 hj, h⟩
  · rintro ⟨j, hj, h⟩
    exact ⟨j, List.mem_range.2 hj, by rw [Bool.and_eq_true]; exact h⟩

theorem seB_succ (a b : Int) (ts : List ByteArray) (n i : Nat) : seB a b ts (n + 1) i = (seB a b ts n i || (alB a b ts (cdN a b n) && rcB a b ts (cdN a b n) (cdN a b i))) := by
  unfold seB
  rw [List.range_succ, List.any_append]
  simp

/-- Dead, or seen: nothing new is seen. -/
theorem seB_stay {a b : Int} {ts : List ByteArray} (hg : goodB a b = true) {n : Nat} (h : seB a b ts n n = true ∨ alB a b ts (cdN a b n) = false) (i : Nat) : seB a b ts (n + 1) i = seB a b ts n i := by
  rw [seB_succ]
  rcases h with h | h
  · cases hs : seB a b ts n i
    · rw [Bool.false_or, Bool.eq_false_iff]
      intro h2
      rw [Bool.and_eq_true] at h2
      obtain ⟨j, hj, h3, h4⟩ := seB_iff.1 h
      have := seB_iff.2 ⟨j, hj, h3, rcB_trans h3 (cd_ask hg) (cd_ask hg) h4 h2.2⟩
      rw [hs] at this
      cases this
    · rfl
  · rw [h]; simp

/-- The first code of its part. -/
def frB (a b : Int) (ts : List ByteArray) (i : Nat) : Bool := alB a b ts (cdN a b i) && !seB a b ts i i

/-- How many parts there are. -/
def paN (a b : Int) (ts : List ByteArray) : Nat := ((List.range (cnN a b)).filter (frB a b ts)).length

def paU (a b : Int) (ts : List ByteArray) (k : Nat) : Nat := ((List.range k).filter (frB a b ts)).length

theorem paU_succ (a b : Int) (ts : List ByteArray) (k : Nat) : paU a b ts (k + 1) = paU a b ts k + if frB a b ts k then 1 else 0 := by
  unfold paU
  rw [List.range_succ, List.filter_append, List.length_append]
  congr 1
  by_cases h : frB a b ts k = true
  · simp [h]
  · rw [Bool.eq_false_iff.2 h]; simp [h]

theorem paU_le (a b : Int) (ts : List ByteArray) (k : Nat) : paU a b ts k ≤ k := by
  have := List.length_filter_le (frB a b ts) (List.range k)
  rwa [List.length_range] at this

/-- How many parts there are among what is left. -/
def paL (a b : Int) (ts : List ByteArray) (A : ByteArray → Bool) : Nat := ((List.range (cnN a b)).filter fun i => frB a b ts i && A (cdN a b i)).length

theorem paL_all {a b : Int} {ts : List ByteArray} : paL a b ts (alB a b ts) = paN a b ts := by
  unfold paL paN
  congr 1
  refine List.filter_congr fun i _ => ?_
  unfold frB
  cases alB a b ts (cdN a b i) <;> simp

theorem paL_none {a b : Int} {ts : List ByteArray} {A : ByteArray → Bool} (h : ∀ i, i < cnN a b → A (cdN a b i) = false) : paL a b ts A = 0 := by
  unfold paL
  rw [List.length_eq_zero_iff, List.filter_eq_nil_iff]
  intro i hi
  rw [h i (List.mem_range.1 hi)]
  simp

theorem range_one {n i : Nat} (hi : i < n) : ((List.range n).filter fun j => decide (j = i)).length = 1 := by
  have e1 : ((List.range n).filter fun j => decide (j = i)).Nodup := List.nodup_range.filter _
  have e2 : [i].Nodup := by simp
  have e3 := (List.perm_ext_iff_of_nodup e1 e2).2 fun j => by
    rw [List.mem_filter, List.mem_range, decide_eq_true_iff, List.mem_singleton]
    exact ⟨fun h => h.2, fun h => ⟨h ▸ hi, h⟩⟩
  rw [e3.length_eq]
  rfl

theorem least_of {p : Nat → Prop} : ∀ n, p n → ∃ i, i ≤ n ∧ p i ∧ ∀ j, j < i → ¬ p j
  | 0, h => ⟨0, by omega, h, fun j hj => by omega⟩
  | n + 1, h => by
    by_cases e : ∃ j, j < n + 1 ∧ p j
    · obtain ⟨j, hj, hp⟩ := e
      have : ∀ m, m ≤ n → p m → ∃ i, i ≤ m ∧ p i ∧ ∀ j, j < i → ¬ p j := fun m => by
        induction m using Nat.strongRecOn with
        | _ m ih =>
          intro hm hpm
          by_cases e2 : ∃ j, j < m ∧ p j
          · obtain ⟨j, hj, hp⟩ := e2
            obtain ⟨i, h1, h2, h3⟩ := ih j hj (by omega) hp
            exact ⟨i, by omega, h2, h3⟩
          · exact ⟨m, Nat.le_refl _, hpm, fun j hj hp => e2 ⟨j, hj, hp⟩⟩
      obtain ⟨i, h1, h2, h3⟩ := this j (by omega) hp
      exact ⟨i, by omega, h2, h3⟩
    · exact ⟨n + 1, Nat.le_refl _, h, fun j hj hp => e ⟨j, hj, hp⟩⟩

/-- One part taken out. -/
theorem paL_take {a b : Int} {ts : List ByteArray} {A A' : ByteArray → Bool} {x : ByteArray} (hg : goodB a b = true) (hA : ∀ t, A t = true → alB a b ts t = true) (hc : ∀ t u, A t = true → askB a b u = true → rcB a b ts t u = true → A u = true) (hx : A x = true)
    (h' : ∀ t, askB a b t = true → A' t = (A t && !rcB a b ts x t)) : paL a b ts A = paL a b ts A' + 1 := by
  have hxa := hA x hx
  have hxk := alB_ask hxa
  obtain ⟨i, hi, hp, hmin⟩ := least_of (p := fun i => rcB a b ts x (cdN a b i) = true) (nuN a b x) (by rw [cd_nu hxk]; exact rcB_refl hxa)
  have hil : i < cnN a b := Nat.lt_of_le_of_lt hi (nuN_lt hxk)
  have hia := rcB_al hxa (cd_ask hg) hp
  have hiA : A (cdN a b i) = true := hc _ _ hx (cd_ask hg) hp
  have hfr : frB a b ts i = true := by
    unfold frB
    rw [hia, Bool.true_and, Bool.not_eq_true', Bool.eq_false_iff]
    intro h
    obtain ⟨j, hj, h1, h2⟩ := seB_iff.1 h
    exact hmin j hj (rcB_trans hxa (cd_ask hg) (cd_ask hg) hp (rcB_sym h1 (cd_ask hg) h2))
  have huniq : ∀ j, j < cnN a b → frB a b ts j = true → rcB a b ts x (cdN a b j) = true → j = i := fun j hj hfj hrj => by
    unfold frB at hfj hfr
    rw [Bool.and_eq_true, Bool.not_eq_true'] at hfj hfr
    have hij : rcB a b ts (cdN a b i) (cdN a b j) = true := rcB_trans hia hxk (cd_ask hg) (rcB_sym hxa (cd_ask hg) hp) hrj
    rcases Nat.lt_trichotomy i j with h | h | h
    · have := seB_iff.2 ⟨i, h, hia, hij⟩
      rw [hfj.2] at this; cases this
    · exact h.symm
    · have := seB_iff.2 ⟨j, h, hfj.1, rcB_sym hia (cd_ask hg) hij⟩
      rw [hfr.2] at this; cases this
  have e := filter_add (fun j => frB a b ts j && A' (cdN a b j)) (fun j => decide (j = i)) (List.range (cnN a b)) fun j hj h => by
    rw [decide_eq_false_iff_not]
    rintro rfl
    rw [Bool.and_eq_true, h' _ (cd_ask hg), hp] at h
    simp at h
  rw [range_one hil] at e
  unfold paL
  rw [← e]
  congr 1
  refine List.filter_congr fun j hj => ?_
  have hj := List.mem_range.1 hj
  rw [h' _ (cd_ask hg)]
  by_cases ej : j = i
  · subst ej
    rw [hfr, hiA]; simp
  · rw [decide_eq_false ej, Bool.or_false]
    cases hf : frB a b ts j
    · simp
    · cases hr : rcB a b ts x (cdN a b j)
      · simp
      · exact absurd (huniq j hj hf hr) ej

/-- Among what is left, the same codes are reached. -/
theorem left_reach {a b : Int} {ts : List ByteArray} {A : ByteArray → Bool} {x y : ByteArray} (hA : ∀ t, A t = true → alB a b ts t = true) (hc : ∀ t u, A t = true → askB a b u = true → rcB a b ts t u = true → A u = true) (hx : A x = true) (hy : askB a b y = true) :
    (∃ k, 0 < wyA a b A x k y) ↔ rcB a b ts x y = true := by
  have hxa := hA x hx
  have hxk := alB_ask hxa
  rw [rcB_dst hxa hy]
  have up : ∀ {k : Nat} {z : ByteArray}, Dst (mvW b) (2 * a.toNat) (alB a b ts) x k z → Dst (mvW b) (2 * a.toNat) A x k z := fun {k z} h => by
    induction h with
    | here => exact .here
    | @step k z j h hj ha ih =>
      refine .step ih hj (hc x _ hx (mvW_ask (h.codes (grfW a b) hxk) hj) ?_)
      exact (rcB_dst hxa (mvW_ask (h.codes (grfW a b) hxk) hj)).2 ⟨k + 1, .step h hj ha⟩
  have down : ∀ {k : Nat} {z : ByteArray}, Dst (mvW b) (2 * a.toNat) A x k z → Dst (mvW b) (2 * a.toNat) (alB a b ts) x k z := fun {k z} h => by
    induction h with
    | here => exact .here
    | step h hj ha ih => exact .step ih hj (hA _ ha)
  constructor
  · rintro ⟨k, hk⟩
    exact ⟨k, down (Dst.of_wy (grfW a b) hx hy hk)⟩
  · rintro ⟨k, hk⟩
    obtain ⟨i, _, hi⟩ := sn_iff.1 ((up hk).sn (grfW a b) hxk)
    exact ⟨i, hi⟩

/-- What is left when all that is reached is taken. -/
theorem left_next {a b : Int} {ts : List ByteArray} {A : ByteArray → Bool} {x : ByteArray} {N : Nat} (hA : ∀ t, A t = true → alB a b ts t = true) (hc : ∀ t u, A t = true → askB a b u = true → rcB a b ts t u = true → A u = true) (hx : A x = true)
    (hN : ∀ i y, N ≤ i → wyA a b A x i y = 0) (t : ByteArray) : lvK a b A x N t = (A t && !rcB a b ts x t) := by
  unfold lvK
  by_cases ht : askB a b t = true
  · congr 2
    rw [Bool.eq_iff_iff, snU_iff, ← left_reach hA hc hx ht]
    constructor
    · rintro ⟨k, _, h⟩; exact ⟨k, h⟩
    · rintro ⟨k, h⟩
      refine ⟨k, ?_, h⟩
      rcases Nat.lt_or_ge k N with h1 | h1
      · exact h1
      · have := hN k t h1; omega
  · have : A t = false := by
      rw [Bool.eq_false_iff]; intro h; exact ht (alB_ask (hA t h))
    rw [this]; simp

theorem left_closed {a b : Int} {ts : List ByteArray} {A : ByteArray → Bool} {x : ByteArray} (hA : ∀ t, A t = true → alB a b ts t = true) (hc : ∀ t u, A t = true → askB a b u = true → rcB a b ts t u = true → A u = true) (hx : A x = true) :
    ∀ t u, (A t && !rcB a b ts x t) = true → askB a b u = true → rcB a b ts t u = true → (A u && !rcB a b ts x u) = true := by
  intro t u h hu hr
  rw [Bool.and_eq_true, Bool.not_eq_true'] at h ⊢
  have hxa := hA x hx
  have hta := hA t h.1
  refine ⟨hc t u h.1 hu hr, ?_⟩
  rw [Bool.eq_false_iff]
  intro h2
  have := rcB_trans hxa hu (alB_ask hta) h2 (rcB_sym hta hu hr)
  rw [h.2] at this; cases this

theorem alB_more {a b : Int} {ts us : List ByteArray} {x : ByteArray} (h : ∀ t, t ∈ us ↔ t ∈ ts ∨ t = x) : alB a b us = alB a b (x :: ts) := by
  funext t
  unfold alB
  congr 2
  rw [Bool.eq_iff_iff, inS_iff, inS_iff, h, List.mem_cons]
  exact or_comm

theorem alB_cons {a b : Int} {ts : List ByteArray} {x : ByteArray} (t : ByteArray) : alB a b (x :: ts) t = (alB a b ts t && !decide (t = x)) := by
  unfold alB
  rw [Bool.and_assoc]
  congr 1
  rw [Bool.eq_iff_iff, Bool.not_eq_true', Bool.and_eq_true, Bool.not_eq_true', Bool.not_eq_true', Bool.eq_false_iff, Bool.eq_false_iff, decide_eq_false_iff_not, Ne, Ne, inS_iff, inS_iff, List.mem_cons]
  exact ⟨fun h => ⟨fun h1 => h (.inr h1), fun h1 => h (.inl h1)⟩, fun h h1 => h1.elim h.2 h.1⟩

theorem lvZ_al {a b : Int} {us vs : List ByteArray} (h : alB a b us = alB a b vs) : lvZ a b us = lvZ a b vs := by
  funext s x
  unfold lvZ wyZ
  rw [h]

theorem paN_al {a b : Int} {us vs : List ByteArray} (h : alB a b us = alB a b vs) : paN a b us = paN a b vs := by
  have e : rcB a b us = rcB a b vs := by
    funext s x
    unfold rcB
    rw [lvZ_al h]
  unfold paN frB seB
  rw [e, h]

end Go.Proofs.Ytilnjlcljjpnmaa
