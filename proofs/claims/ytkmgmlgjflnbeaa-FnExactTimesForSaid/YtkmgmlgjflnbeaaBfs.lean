/- A search by breadth, told by lists: what is met, by which least words, and that nothing is left out. No conditions beyond those of each lemma. -/
import Derived.Test.YtkmgmlgjflnbeaaBase
namespace Go.Proofs.Ytkmgmlgjflnbeaa

/-- The order of words that are told from their last sign on: shorter ones first. -/
def sl : List Nat → List Nat → Prop
  | [], [] => False
  | [], _ :: _ => True
  | _ :: _, [] => False
  | i :: u, j :: v => sl u v ∨ (u = v ∧ i < j)

theorem sl_irrefl : ∀ u : List Nat, ¬ sl u u
  | [], h => h
  | i :: u, h => by
    rcases h with h | ⟨_, h⟩
    · exact sl_irrefl u h
    · omega

theorem sl_trans : ∀ {u v w : List Nat}, sl u v → sl v w → sl u w
  | [], [], _, h, _ => h.elim
  | [], _ :: _, [], _, h => h.elim
  | [], _ :: _, _ :: _, _, _ => trivial
  | _ :: _, [], _, h, _ => h.elim
  | _ :: _, _ :: _, [], _, h => h.elim
  | i :: u, j :: v, k :: w, h1, h2 => by
    rcases h1 with h1 | ⟨rfl, h1⟩
    · rcases h2 with h2 | ⟨rfl, h2⟩
      · exact .inl (sl_trans h1 h2)
      · exact .inl h1
    · rcases h2 with h2 | ⟨rfl, h2⟩
      · exact .inl h2
      · exact .inr ⟨rfl, by omega⟩

theorem sl_total : ∀ u v : List Nat, sl u v ∨ u = v ∨ sl v u
  | [], [] => .inr (.inl rfl)
  | [], _ :: _ => .inl trivial
  | _ :: _, [] => .inr (.inr trivial)
  | i :: u, j :: v => by
    rcases sl_total u v with h | rfl | h
    · exact .inl (.inl h)
    · rcases Nat.lt_trichotomy i j with h | rfl | h
      · exact .inl (.inr ⟨rfl, h⟩)
      · exact .inr (.inl rfl)
      · exact .inr (.inr (.inr ⟨rfl, h⟩))
    · exact .inr (.inr (.inl h))

theorem sl_len : ∀ {u v : List Nat}, sl u v → u.length ≤ v.length
  | [], _, _ => by simp
  | _ :: _, [], h => h.elim
  | i :: u, j :: v, h => by
    rcases h with h | ⟨rfl, _⟩
    · have := sl_len h; simp; omega
    · simp

theorem sl_snoc : ∀ {u v : List Nat} {a b : Nat}, u.length = v.length → (sl (u ++ [a]) (v ++ [b]) ↔ a < b ∨ (a = b ∧ sl u v))
  | [], [], a, b, _ => by simp [sl]
  | i :: u, j :: v, a, b, h => by
    have ih := sl_snoc (u := u) (v := v) (a := a) (b := b) (by simpa using h)
    simp only [List.cons_append, sl, ih]
    constructor
    · rintro ((h | ⟨rfl, h⟩) | ⟨h, hij⟩)
      · exact .inl h
      · exact .inr ⟨rfl, .inl h⟩
      · obtain ⟨e1, e2⟩ := List.append_inj' h rfl
        obtain rfl : a = b := by simpa using e2
        exact .inr ⟨rfl, .inr ⟨e1, hij⟩⟩
    · rintro (h | ⟨rfl, h | ⟨rfl, hij⟩⟩)
      · exact .inl (.inl h)
      · exact .inl (.inr ⟨rfl, h⟩)
      · exact .inr ⟨rfl, hij⟩

section

variable {α : Type}

/-- What is met: a code, the one ahead of it, and the word that leads to it, its last sign first. -/
structure Ent (α : Type) where
  code : α
  before : α
  way : List Nat

def keysE (L : List (Ent α)) : List α := L.map Ent.code

/-- Where a word leads. -/
def walkR (mv : α → Nat → α) (x : α) : List Nat → α
  | [] => x
  | j :: u => mv (walkR mv x u) j

/-- What holds in round k, with j turns done. -/
structure InvE (mv : α → Nat → α) (m : Nat) (s : Ent α) (k j : Nat) (L : List (Ent α)) : Prop where
  nodup : (keysE L).Nodup
  walk : ∀ e, e ∈ L → e.code = walkR mv s.code e.way
  srt : L.Pairwise fun e f => sl e.way f.way
  head : L[0]? = some s
  back : ∀ e, e ∈ L → e = s ∨ ∃ k' j' p, L[k']? = some p ∧ j' < m ∧ e.way = j' :: p.way ∧ e.before = p.code ∧ e.code = mv p.code j' ∧ (k' < k ∨ k' = k ∧ j' < j)
  done : ∀ k' p j', L[k']? = some p → j' < m → (k' < k ∨ k' = k ∧ j' < j) → ∃ e, e ∈ L ∧ e.code = mv p.code j' ∧ (e.way = j' :: p.way ∨ sl e.way (j' :: p.way))

theorem invE_start (mv : α → Nat → α) (m : Nat) (s : Ent α) (hs : s.way = []) : InvE mv m s 0 0 [s] where
  nodup := by simp [keysE]
  walk := fun e he => by obtain rfl := List.mem_singleton.1 he; rw [hs]; rfl
  srt := by simp
  head := rfl
  back := fun e he => .inl (List.mem_singleton.1 he)
  done := fun k' p j' _ _ h => by omega

theorem pre_get {L L' : List (Ent α)} (h : L <+: L') {k : Nat} {p : Ent α} (hk : L[k]? = some p) : L'[k]? = some p := by
  obtain ⟨t, rfl⟩ := h
  have := (List.getElem?_eq_some_iff.1 hk).1
  rw [List.getElem?_append_left this, hk]

theorem mem_keysE {L : List (Ent α)} {x : α} : x ∈ keysE L ↔ ∃ e, e ∈ L ∧ e.code = x := by simp [keysE]

theorem InvE.below {mv : α → Nat → α} {m : Nat} {s : Ent α} {k j : Nat} {L : List (Ent α)} (h : InvE mv m s k j L) (hs : s.way = []) {p : Ent α} (hp : L[k]? = some p) {e : Ent α} (he : e ∈ L) : sl e.way (j :: p.way) := by
  rcases h.back e he with rfl | ⟨k', j', q, hq, hj', hw, _, _, hlt⟩
  · rw [hs]; trivial
  · rw [hw]
    rcases hlt with hlt | ⟨rfl, hlt⟩
    · obtain ⟨h1, e1⟩ := List.getElem?_eq_some_iff.1 hq
      obtain ⟨h2, e2⟩ := List.getElem?_eq_some_iff.1 hp
      have := List.pairwise_iff_getElem.1 h.srt k' k h1 h2 hlt
      rw [e1, e2] at this
      exact .inl this
    · rw [hp] at hq
      cases hq
      exact .inr ⟨rfl, hlt⟩

theorem InvE.next {mv : α → Nat → α} {m : Nat} {s : Ent α} {k : Nat} {L : List (Ent α)} (h : InvE mv m s k m L) : InvE mv m s (k + 1) 0 L :=
  ⟨h.nodup, h.walk, h.srt, h.head, fun e he => (h.back e he).imp id fun ⟨k', j', q, a1, a2, a3, a4, a5, a6⟩ => ⟨k', j', q, a1, a2, a3, a4, a5, by omega⟩, fun k' q j' hq hj' hlt => h.done k' q j' hq hj' (by omega)⟩

theorem InvE.skip {mv : α → Nat → α} {m : Nat} {s : Ent α} {k : Nat} {L : List (Ent α)} (h : InvE mv m s k 0 L) (hn : L[k]? = none) : InvE mv m s (k + 1) 0 L :=
  ⟨h.nodup, h.walk, h.srt, h.head, fun e he => (h.back e he).imp id fun ⟨k', j', q, a1, a2, a3, a4, a5, a6⟩ => ⟨k', j', q, a1, a2, a3, a4, a5, by omega⟩, fun k' q j' hq hj' hlt => by
    by_cases e1 : k' = k
    · subst e1; rw [hn] at hq; cases hq
    · exact h.done k' q j' hq hj' (by omega)⟩

/-- All that is reached. -/
structure AllE (mv : α → Nat → α) (m : Nat) (s : Ent α) (L : List (Ent α)) : Prop where
  nodup : (keysE L).Nodup
  walk : ∀ e, e ∈ L → e.code = walkR mv s.code e.way
  srt : L.Pairwise fun e f => sl e.way f.way
  head : L[0]? = some s
  back : ∀ e, e ∈ L → e = s ∨ ∃ j' p, p ∈ L ∧ j' < m ∧ e.way = j' :: p.way ∧ e.before = p.code ∧ e.code = mv p.code j'
  done : ∀ p j', p ∈ L → j' < m → ∃ e, e ∈ L ∧ e.code = mv p.code j' ∧ (e.way = j' :: p.way ∨ sl e.way (j' :: p.way))

theorem InvE.all {mv : α → Nat → α} {m : Nat} {s : Ent α} {k : Nat} {L : List (Ent α)} (h : InvE mv m s k 0 L) (hl : L.length ≤ k) : AllE mv m s L :=
  ⟨h.nodup, h.walk, h.srt, h.head, fun e he => (h.back e he).imp id fun ⟨k', j', q, a1, a2, a3, a4, a5, a6⟩ => ⟨j', q, List.mem_of_getElem? a1, a2, a3, a4, a5⟩, fun p j' hp hj' => by
    obtain ⟨k', hk', e1⟩ := List.getElem_of_mem hp
    exact h.done k' p j' (List.getElem?_eq_some_iff.2 ⟨hk', e1⟩) hj' (by omega)⟩

/-- Each word leads to what is met, by no lesser word. -/
theorem AllE.least {mv : α → Nat → α} {m : Nat} {s : Ent α} {L : List (Ent α)} (h : AllE mv m s L) (hs : s.way = []) : ∀ v : List Nat, (∀ j, j ∈ v → j < m) → ∃ e, e ∈ L ∧ e.code = walkR mv s.code v ∧ (e.way = v ∨ sl e.way v)
  | [], _ => ⟨s, List.mem_of_getElem? h.head, rfl, .inl hs⟩
  | j :: v, hv => by
    obtain ⟨q, hq, hc, hw⟩ := AllE.least h hs v fun i hi => hv i (List.mem_cons_of_mem _ hi)
    obtain ⟨e, he, hec, hew⟩ := h.done q j hq (hv j (List.mem_cons_self ..))
    refine ⟨e, he, by rw [hec, hc]; rfl, ?_⟩
    rcases hw with rfl | hw
    · exact hew
    · right
      have hq2 : sl (j :: q.way) (j :: v) := .inl hw
      rcases hew with e1 | e1
      · rw [e1]; exact hq2
      · exact sl_trans e1 hq2

theorem AllE.words {mv : α → Nat → α} {m : Nat} {s : Ent α} {L : List (Ent α)} (h : AllE mv m s L) (hs : s.way = []) : ∀ (n : Nat) (e : Ent α), e ∈ L → e.way.length = n → ∀ j, j ∈ e.way → j < m
  | 0, e, _, hn, j, hj => by rw [List.length_eq_zero_iff.1 hn] at hj; cases hj
  | n + 1, e, he, hn, j, hj => by
    rcases h.back e he with rfl | ⟨j', p, hp, hj', hw, _, _⟩
    · rw [hs] at hn; cases hn
    · rw [hw] at hn hj
      rcases List.mem_cons.1 hj with rfl | hj
      · exact hj'
      · exact AllE.words h hs n p hp (by simpa using hn) j hj

theorem keysE_inj {L : List (Ent α)} (h : (keysE L).Nodup) {e f : Ent α} (he : e ∈ L) (hf : f ∈ L) (hc : e.code = f.code) : e = f := by
  obtain ⟨i, hi, rfl⟩ := List.getElem_of_mem he
  obtain ⟨j, hj, rfl⟩ := List.getElem_of_mem hf
  have h2 := List.pairwise_iff_getElem.1 h
  rcases Nat.lt_trichotomy i j with hij | rfl | hij
  · exact absurd (by simpa [keysE] using hc) (h2 i j (by simpa [keysE] using hi) (by simpa [keysE] using hj) hij)
  · rfl
  · exact absurd (by simpa [keysE] using hc.symm) (h2 j i (by simpa [keysE] using hj) (by simpa [keysE] using hi) hij)

variable [DecidableEq α]

def addE (mv : α → Nat → α) (e : Ent α) (L : List (Ent α)) (j : Nat) : List (Ent α) :=
  if mv e.code j ∈ keysE L then L else L ++ [⟨mv e.code j, e.code, j :: e.way⟩]

def expE (mv : α → Nat → α) (e : Ent α) (L : List (Ent α)) : Nat → List (Ent α)
  | 0 => L
  | j + 1 => addE mv e (expE mv e L j) j

def bfsE (mv : α → Nat → α) (m : Nat) (s : Ent α) : Nat → List (Ent α)
  | 0 => [s]
  | k + 1 => match (bfsE mv m s k)[k]? with
    | some e => expE mv e (bfsE mv m s k) m
    | none => bfsE mv m s k

theorem addE_in {mv : α → Nat → α} {e : Ent α} {L : List (Ent α)} {j : Nat} (h : mv e.code j ∈ keysE L) : addE mv e L j = L := if_pos h

theorem addE_out {mv : α → Nat → α} {e : Ent α} {L : List (Ent α)} {j : Nat} (h : ¬ mv e.code j ∈ keysE L) : addE mv e L j = L ++ [⟨mv e.code j, e.code, j :: e.way⟩] := if_neg h

theorem addE_pre (mv : α → Nat → α) (e : Ent α) (L : List (Ent α)) (j : Nat) : L <+: addE mv e L j := by
  unfold addE
  split
  · exact List.prefix_refl _
  · exact List.prefix_append _ _

theorem expE_pre (mv : α → Nat → α) (e : Ent α) (L : List (Ent α)) : ∀ j, L <+: expE mv e L j
  | 0 => List.prefix_refl _
  | j + 1 => (expE_pre mv e L j).trans (addE_pre _ _ _ _)

theorem expE_up (mv : α → Nat → α) (e : Ent α) (L : List (Ent α)) {i j : Nat} (h : i ≤ j) : expE mv e L i <+: expE mv e L j := by
  induction j with
  | zero => obtain rfl : i = 0 := by omega
            exact List.prefix_refl _
  | succ j ih =>
    by_cases e1 : i = j + 1
    · subst e1; exact List.prefix_refl _
    · exact (ih (by omega)).trans (addE_pre _ _ _ _)

theorem bfsE_some {mv : α → Nat → α} {m : Nat} {s : Ent α} {k : Nat} {e : Ent α} (h : (bfsE mv m s k)[k]? = some e) : bfsE mv m s (k + 1) = expE mv e (bfsE mv m s k) m := by
  rw [bfsE, h]

theorem bfsE_none {mv : α → Nat → α} {m : Nat} {s : Ent α} {k : Nat} (h : (bfsE mv m s k)[k]? = none) : bfsE mv m s (k + 1) = bfsE mv m s k := by
  rw [bfsE, h]

theorem bfsE_pre (mv : α → Nat → α) (m : Nat) (s : Ent α) (k : Nat) : bfsE mv m s k <+: bfsE mv m s (k + 1) := by
  rcases h : (bfsE mv m s k)[k]? with _ | e
  · rw [bfsE_none h]; exact List.prefix_refl _
  · rw [bfsE_some h]; exact expE_pre _ _ _ _

theorem bfsE_up (mv : α → Nat → α) (m : Nat) (s : Ent α) {i k : Nat} (h : i ≤ k) : bfsE mv m s i <+: bfsE mv m s k := by
  induction k with
  | zero => obtain rfl : i = 0 := by omega
            exact List.prefix_refl _
  | succ k ih =>
    by_cases e1 : i = k + 1
    · subst e1; exact List.prefix_refl _
    · exact (ih (by omega)).trans (bfsE_pre _ _ _ _)

theorem bfsE_stop {mv : α → Nat → α} {m : Nat} {s : Ent α} {k : Nat} (h : (bfsE mv m s k).length ≤ k) : ∀ i, bfsE mv m s (k + i) = bfsE mv m s k
  | 0 => rfl
  | i + 1 => by
    have ih := bfsE_stop h i
    rw [show k + (i + 1) = (k + i) + 1 by omega, bfsE_none (by rw [ih]; exact List.getElem?_eq_none (by omega)), ih]

theorem InvE.step {mv : α → Nat → α} {m : Nat} {s : Ent α} {k j : Nat} {L : List (Ent α)} (h : InvE mv m s k j L) (hs : s.way = []) {p : Ent α} (hp : L[k]? = some p) (hj : j < m) : InvE mv m s k (j + 1) (addE mv p L j) := by
  have hpre := addE_pre mv p L j
  have hkl := (List.getElem?_eq_some_iff.1 hp).1
  unfold addE
  by_cases hm : mv p.code j ∈ keysE L
  · rw [if_pos hm]
    refine ⟨h.nodup, h.walk, h.srt, h.head, fun e he => ?_, fun k' q j' hq hj' hlt => ?_⟩
    · rcases h.back e he with r | ⟨k', j', q, a1, a2, a3, a4, a5, a6⟩
      · exact .inl r
      · exact .inr ⟨k', j', q, a1, a2, a3, a4, a5, by omega⟩
    · by_cases e1 : k' = k ∧ j' = j
      · obtain ⟨rfl, rfl⟩ := e1
        rw [hp] at hq
        cases hq
        obtain ⟨e, he, hc⟩ := mem_keysE.1 hm
        exact ⟨e, he, hc, .inr (h.below hs hp he)⟩
      · exact h.done k' q j' hq hj' (by omega)
  · rw [if_neg hm]
    have hw := h.walk p (List.mem_of_getElem? hp)
    have old : ∀ {k' : Nat} {q : Ent α}, L[k']? = some q → (L ++ [⟨mv p.code j, p.code, j :: p.way⟩])[k']? = some q := fun {k' q} hq => by
      rw [List.getElem?_append_left (List.getElem?_eq_some_iff.1 hq).1, hq]
    refine ⟨?_, fun e he => ?_, ?_, ?_, fun e he => ?_, fun k' q j' hq hj' hlt => ?_⟩
    · unfold keysE
      rw [List.map_append, List.map_singleton, List.nodup_append]
      refine ⟨h.nodup, by simp, fun a ha b hb => ?_⟩
      obtain rfl := List.mem_singleton.1 hb
      intro e1
      subst e1
      exact hm ha
    · rcases List.mem_append.1 he with he | he
      · exact h.walk e he
      · obtain rfl := List.mem_singleton.1 he
        show mv p.code j = mv (walkR mv s.code p.way) j
        rw [← hw]
    · rw [List.pairwise_append]
      refine ⟨h.srt, by simp, fun a ha b hb => ?_⟩
      obtain rfl := List.mem_singleton.1 hb
      exact h.below hs hp ha
    · exact old h.head
    · rcases List.mem_append.1 he with he | he
      · rcases h.back e he with r | ⟨k', j', q, a1, a2, a3, a4, a5, a6⟩
        · exact .inl r
        · exact .inr ⟨k', j', q, old a1, a2, a3, a4, a5, by omega⟩
      · obtain rfl := List.mem_singleton.1 he
        exact .inr ⟨k, j, p, old hp, hj, rfl, rfl, rfl, by omega⟩
    · by_cases e1 : k' = k ∧ j' = j
      · obtain ⟨rfl, rfl⟩ := e1
        rw [old hp] at hq
        cases hq
        exact ⟨_, List.mem_append_right _ (List.mem_singleton.2 rfl), rfl, .inl rfl⟩
      · have hk' : k' < L.length := by omega
        rw [List.getElem?_append_left hk'] at hq
        obtain ⟨e, he, a1, a2⟩ := h.done k' q j' hq hj' (by omega)
        exact ⟨e, List.mem_append_left _ he, a1, a2⟩

theorem InvE.exp {mv : α → Nat → α} {m : Nat} {s : Ent α} {k : Nat} {L : List (Ent α)} (h : InvE mv m s k 0 L) (hs : s.way = []) {p : Ent α} (hp : L[k]? = some p) : ∀ j, j ≤ m → InvE mv m s k j (expE mv p L j)
  | 0, _ => h
  | j + 1, hj => (InvE.exp h hs hp j (by omega)).step hs (pre_get (expE_pre _ _ _ _) hp) (by omega)

theorem bfsE_inv (mv : α → Nat → α) (m : Nat) (s : Ent α) (hs : s.way = []) : ∀ k, InvE mv m s k 0 (bfsE mv m s k)
  | 0 => invE_start mv m s hs
  | k + 1 => by
    have ih := bfsE_inv mv m s hs k
    rcases h : (bfsE mv m s k)[k]? with _ | e
    · rw [bfsE_none h]; exact ih.skip h
    · rw [bfsE_some h]; exact (ih.exp hs h m (Nat.le_refl _)).next

end

theorem nodup_bd : ∀ (n : Nat) (l : List Nat), l.Nodup → (∀ x, x ∈ l → x < n) → l.length ≤ n
  | 0, l, _, h => by
    rcases l with _ | ⟨x, l⟩
    · simp
    · exact absurd (h x (List.mem_cons_self ..)) (by omega)
  | n + 1, l, hn, h => by
    by_cases hm : n ∈ l
    · have := nodup_bd n (l.erase n) (hn.erase n) fun x hx => by
        have h1 := (hn.mem_erase_iff).1 hx
        have := h x h1.2
        omega
      rw [List.length_erase_of_mem hm] at this
      omega
    · have := nodup_bd n l hn fun x hx => by
        have := h x hx
        have : x ≠ n := fun e => hm (e ▸ hx)
        omega
      omega

end Go.Proofs.Ytkmgmlgjflnbeaa
