/- Codes and their numbers, and what a search by breadth writes at them. No conditions beyond those of each lemma. -/
import Derived.Test.YtkmgmlgjflnbeaaReach
import Derived.Test.YtkmgmlgjflnbeaaOfNumber
import Derived.Test.YtkmgmlgjflnbeaaNumber
namespace Go.Proofs.Ytkmgmlgjflnbeaa

theorem numAt_inj {b : Int} {xs ys : List Int} : ∀ k, (∀ j, j < k → 0 ≤ xs.getD j 0 ∧ xs.getD j 0 < b) → (∀ j, j < k → 0 ≤ ys.getD j 0 ∧ ys.getD j 0 < b) → numAt b xs k = numAt b ys k → ∀ j, j < k → xs.getD j 0 = ys.getD j 0
  | 0, _, _, _, _, hj => by omega
  | k + 1, hx, hy, h, j, hj => by
    rw [numAt, numAt] at h
    obtain ⟨x0, x1⟩ := hx k (by omega)
    obtain ⟨y0, y1⟩ := hy k (by omega)
    have h1 := congrArg (· % b) h
    simp only [Int.add_comm (_ * b), Int.add_mul_emod_self_right] at h1
    rw [Int.emod_eq_of_lt x0 x1, Int.emod_eq_of_lt y0 y1] at h1
    have h2 : numAt b xs k = numAt b ys k := by
      have h3 : numAt b xs k * b = numAt b ys k * b := by omega
      exact Int.eq_of_mul_eq_mul_right (show b ≠ 0 by omega) h3
    by_cases e : j = k
    · subst e; exact h1
    · exact numAt_inj k (fun j hj => hx j (by omega)) (fun j hj => hy j (by omega)) h2 j (by omega)

theorem num_inj {a b : Int} {s t : ByteArray} (hs : askB a b s = true) (ht : askB a b t = true) (h : numZ a b s = numZ a b t) : s = t := by
  rw [numZ_yes hs, numZ_yes ht] at h
  have h1 := asked hs
  have h2 := asked ht
  have e : s.size = t.size := by have := h1.size; have := h2.size; omega
  rw [e] at h
  have h3 := numAt_inj t.size (fun j hj => h1.low j (by omega)) h2.low h
  rw [← text_dgK hs, ← text_dgK ht]
  congr 1
  apply List.ext_getElem
  · rw [dg_length, dg_length, e]
  · intro i i1 i2
    have := h3 i (by rw [dg_length] at i2; exact i2)
    simpa only [List.getD, List.getElem?_eq_getElem i1, List.getElem?_eq_getElem i2, Option.getD_some] using this

/-- How many codes there are. -/
def cntN (a b : Int) : Nat := (pw b a.toNat).toNat

/-- The number of a code. -/
def nmN (a b : Int) (s : ByteArray) : Nat := (numZ a b s).toNat

theorem num_bd {a b : Int} {s : ByteArray} (hs : askB a b s = true) : 0 ≤ numZ a b s ∧ numZ a b s < pw b a.toNat := by
  have h := asked hs
  obtain ⟨h1, h2⟩ := numAt_bd h.b2 h.low s.size (Nat.le_refl _)
  rw [numZ_yes hs]
  have : a.toNat = s.size := by have := h.size; omega
  rw [this]
  omega

theorem nmN_cast {a b : Int} {s : ByteArray} (hs : askB a b s = true) : ((nmN a b s : Nat) : Int) = numZ a b s := Int.toNat_of_nonneg (num_bd hs).1

theorem nmN_lt {a b : Int} {s : ByteArray} (hs : askB a b s = true) : nmN a b s < cntN a b := by
  have := num_bd hs
  unfold nmN cntN
  omega

theorem nmN_inj {a b : Int} {s t : ByteArray} (hs : askB a b s = true) (ht : askB a b t = true) (h : nmN a b s = nmN a b t) : s = t :=
  num_inj hs ht (by rw [← nmN_cast hs, ← nmN_cast ht, h])

/-- What is written at a number: how many turns lead there, or -1. -/
def farV (a b : Int) (L : List (Ent ByteArray)) (i : Nat) : Int :=
  match L.find? fun e => nmN a b e.code == i with
  | some e => (e.way.length : Int)
  | none => -1

def AskL (a b : Int) (L : List (Ent ByteArray)) : Prop := ∀ e, e ∈ L → askB a b e.code = true

theorem farV_mem {a b : Int} {L : List (Ent ByteArray)} (hn : (keysE L).Nodup) (ha : AskL a b L) {e : Ent ByteArray} (he : e ∈ L) : farV a b L (nmN a b e.code) = e.way.length := by
  have key : L.find? (fun f => nmN a b f.code == nmN a b e.code) = some e := by
    rcases h : L.find? (fun f => nmN a b f.code == nmN a b e.code) with _ | f
    · have := List.find?_eq_none.1 h e he
      simp at this
    · have h1 := List.find?_some h
      have h2 := List.mem_of_find?_eq_some h
      rw [beq_iff_eq] at h1
      rw [h, keysE_inj hn h2 he (nmN_inj (ha f h2) (ha e he) h1)]
  unfold farV
  rw [key]

theorem farV_out {a b : Int} {L : List (Ent ByteArray)} (ha : AskL a b L) {x : ByteArray} (hx : askB a b x = true) (h : ¬ x ∈ keysE L) : farV a b L (nmN a b x) = -1 := by
  unfold farV
  rcases h1 : L.find? (fun f => nmN a b f.code == nmN a b x) with _ | f
  · rw [h1]
  · have h2 := List.find?_some h1
    have h3 := List.mem_of_find?_eq_some h1
    rw [beq_iff_eq] at h2
    exact absurd (mem_keysE.2 ⟨f, h3, nmN_inj (ha f h3) hx h2⟩) h

theorem farV_in {a b : Int} {L : List (Ent ByteArray)} (hn : (keysE L).Nodup) (ha : AskL a b L) {x : ByteArray} (h : x ∈ keysE L) : 0 ≤ farV a b L (nmN a b x) := by
  obtain ⟨e, he, rfl⟩ := mem_keysE.1 h
  rw [farV_mem hn ha he]
  omega

theorem farV_snoc {a b : Int} {L : List (Ent ByteArray)} (ha : AskL a b L) {e : Ent ByteArray} (he : askB a b e.code = true) (h : ¬ e.code ∈ keysE L) (i : Nat) : farV a b (L ++ [e]) i = if i = nmN a b e.code then (e.way.length : Int) else farV a b L i := by
  unfold farV
  rw [List.find?_append]
  by_cases hi : i = nmN a b e.code
  · subst hi
    rw [if_pos rfl]
    have : L.find? (fun f => nmN a b f.code == nmN a b e.code) = none := by
      rw [List.find?_eq_none]
      intro f hf h2
      rw [beq_iff_eq] at h2
      exact h (mem_keysE.2 ⟨f, hf, nmN_inj (ha f hf) he h2⟩)
    rw [this]
    simp
  · rw [if_neg hi]
    rcases h1 : L.find? (fun f => nmN a b f.code == i) with _ | f
    · rw [h1]
      have hi' : ¬ nmN a b e.code = i := fun e => hi e.symm
      simp [hi']
    · rw [h1]
      simp

theorem InvE.words {α : Type} {mv : α → Nat → α} {m : Nat} {s : Ent α} {k j : Nat} {L : List (Ent α)} (h : InvE mv m s k j L) (hs : s.way = []) : ∀ (n : Nat) (e : Ent α), e ∈ L → e.way.length = n → ∀ i, i ∈ e.way → i < m
  | 0, e, _, hn, i, hi => by rw [List.length_eq_zero_iff.1 hn] at hi; cases hi
  | n + 1, e, he, hn, i, hi => by
    rcases h.back e he with rfl | ⟨_, j', p, hp, hj', hw, _⟩
    · rw [hs] at hn; cases hn
    · rw [hw] at hn hi
      rcases List.mem_cons.1 hi with rfl | hi
      · exact hj'
      · exact InvE.words h hs n p (List.mem_of_getElem? hp) (by simpa using hn) i hi

/-- The code that a search begins with. -/
def entS (s : ByteArray) : Ent ByteArray := ⟨s, ByteArray.empty, []⟩

theorem InvE.ask {a b : Int} {ks : List (List Int)} {s : ByteArray} {k j : Nat} {L : List (Ent ByteArray)} (hk : KnobsB a b ks) (hs : askB a b s = true) (h : InvE (mvK b ks) (2 * ks.length) (entS s) k j L) : AskL a b L := fun e he => by
  rw [h.walk e he]
  exact walkR_keep (backK hk) hs _ (h.words rfl _ e he rfl)

theorem ask_length {a b : Int} {L : List (Ent ByteArray)} (hn : (keysE L).Nodup) (ha : AskL a b L) : L.length ≤ cntN a b := by
  have h1 : (L.map fun e => nmN a b e.code).Nodup := by
    unfold keysE at hn
    rw [List.Nodup, List.pairwise_map] at hn ⊢
    refine List.Pairwise.imp_of_mem (fun {x y} hx hy hne e => hne (nmN_inj (ha x hx) (ha y hy) e)) hn
  have h2 := nodup_bd (cntN a b) _ h1 fun x hx => by
    obtain ⟨e, he, rfl⟩ := List.mem_map.1 hx
    exact nmN_lt (ha e he)
  simpa using h2

/-- All that a search from s meets. -/
def allL (a b : Int) (ks : List (List Int)) (s : ByteArray) : List (Ent ByteArray) := bfsE (mvK b ks) (2 * ks.length) (entS s) (cntN a b)

def bfsL (b : Int) (ks : List (List Int)) (s : ByteArray) (k : Nat) : List (Ent ByteArray) := bfsE (mvK b ks) (2 * ks.length) (entS s) k

theorem bfsL_inv {b : Int} {ks : List (List Int)} {s : ByteArray} (k : Nat) : InvE (mvK b ks) (2 * ks.length) (entS s) k 0 (bfsL b ks s k) := bfsE_inv _ _ _ rfl k

theorem bfsL_length {a b : Int} {ks : List (List Int)} {s : ByteArray} (hk : KnobsB a b ks) (hs : askB a b s = true) (k : Nat) : (bfsL b ks s k).length ≤ cntN a b :=
  ask_length (bfsL_inv k).nodup ((bfsL_inv k).ask hk hs)

theorem bfsL_end {a b : Int} {ks : List (List Int)} {s : ByteArray} (hk : KnobsB a b ks) (hs : askB a b s = true) {k : Nat} (h : (bfsL b ks s k).length ≤ k) : bfsL b ks s k = allL a b ks s := by
  by_cases h1 : k ≤ cntN a b
  · have := bfsE_stop h (cntN a b - k)
    rw [show k + (cntN a b - k) = cntN a b by omega] at this
    exact this.symm
  · have := bfsE_stop (bfsL_length hk hs (cntN a b)) (k - cntN a b)
    rw [show cntN a b + (k - cntN a b) = k by omega] at this
    exact this

theorem bfsL_pre {a b : Int} {ks : List (List Int)} {s : ByteArray} (hk : KnobsB a b ks) (hs : askB a b s = true) (k : Nat) : bfsL b ks s k <+: allL a b ks s := by
  by_cases h1 : k ≤ cntN a b
  · exact bfsE_up _ _ _ h1
  · have := bfsE_stop (bfsL_length hk hs (cntN a b)) (k - cntN a b)
    rw [show cntN a b + (k - cntN a b) = k by omega] at this
    have e : bfsL b ks s k = allL a b ks s := this
    rw [e]; exact List.prefix_refl _

theorem allL_all {a b : Int} {ks : List (List Int)} {s : ByteArray} (hk : KnobsB a b ks) (hs : askB a b s = true) : AllE (mvK b ks) (2 * ks.length) (entS s) (allL a b ks s) :=
  (bfsE_inv _ _ _ rfl _).all (bfsL_length hk hs _)

theorem allL_ask {a b : Int} {ks : List (List Int)} {s : ByteArray} (hk : KnobsB a b ks) (hs : askB a b s = true) : AskL a b (allL a b ks s) := (bfsL_inv (cntN a b)).ask hk hs

theorem allL_mem {a b : Int} {ks : List (List Int)} {s : ByteArray} (hk : KnobsB a b ks) (hs : askB a b s = true) {t : ByteArray} : t ∈ keysE (allL a b ks s) ↔ ReachK b ks s t := (allL_all hk hs).reach rfl

/-- One round, with j turns done. -/
def rndL (b : Int) (ks : List (List Int)) (s : ByteArray) (k : Nat) (p : Ent ByteArray) (j : Nat) : List (Ent ByteArray) := expE (mvK b ks) p (bfsL b ks s k) j

theorem rndL_inv {b : Int} {ks : List (List Int)} {s : ByteArray} {k : Nat} {p : Ent ByteArray} (hp : (bfsL b ks s k)[k]? = some p) {j : Nat} (hj : j ≤ 2 * ks.length) : InvE (mvK b ks) (2 * ks.length) (entS s) k j (rndL b ks s k p j) := (bfsL_inv k).exp rfl hp j hj

theorem rndL_succ (b : Int) (ks : List (List Int)) (s : ByteArray) (k : Nat) (p : Ent ByteArray) (j : Nat) : rndL b ks s k p (j + 1) = addE (mvK b ks) p (rndL b ks s k p j) j := rfl

theorem rndL_end {b : Int} {ks : List (List Int)} {s : ByteArray} {k : Nat} {p : Ent ByteArray} (hp : (bfsL b ks s k)[k]? = some p) : rndL b ks s k p (2 * ks.length) = bfsL b ks s (k + 1) := (bfsE_some hp).symm

theorem rndL_get {b : Int} {ks : List (List Int)} {s : ByteArray} {k : Nat} {p : Ent ByteArray} (hp : (bfsL b ks s k)[k]? = some p) (j : Nat) : (rndL b ks s k p j)[k]? = some p := pre_get (expE_pre _ _ _ _) hp

theorem rndL_pre {a b : Int} {ks : List (List Int)} {s : ByteArray} (hk : KnobsB a b ks) (hs : askB a b s = true) {k : Nat} {p : Ent ByteArray} (hp : (bfsL b ks s k)[k]? = some p) {j : Nat} (hj : j ≤ 2 * ks.length) : rndL b ks s k p j <+: allL a b ks s :=
  (expE_up _ _ _ hj).trans (by rw [show expE (mvK b ks) p (bfsL b ks s k) (2 * ks.length) = _ from rndL_end hp]; exact bfsL_pre hk hs _)

end Go.Proofs.Ytkmgmlgjflnbeaa
