/- Codes behind turns of knobs, one after the other: sums, orders, and the ways back. No conditions beyond those of each lemma. -/
import Derived.Test.YtkmgmlgjflnbeaaBfs2
import Derived.Test.YtkmgmlgjflnbeaaKnobs2
namespace Go.Proofs.Ytkmgmlgjflnbeaa

theorem text_dgK {a b : Int} {s : ByteArray} (h : askB a b s = true) : textOf (dg s) = s := by
  have h48 : ∀ k (hk : k < s.size), 48 ≤ (s[k].toNat : Int) := fun _ hk => (digits_at (asked h).digits hk).1
  have hl : (textOf (dg s)).data.toList = s.data.toList := by
    unfold textOf dg
    rw [strOfNums_data, List.map_map, List.map_map]
    refine (List.map_congr_left (fun c hc => ?_)).trans (List.map_id _)
    show UInt8.ofNat (48 + ((c.toNat : Int) - 48)).toNat = c
    rw [show (48 + ((c.toNat : Int) - 48)).toNat = c.toNat by omega]
    exact UInt8.ofNat_toNat
  have hd : (textOf (dg s)).data = s.data := Array.toList_inj.1 hl
  clear h48
  generalize textOf (dg s) = u at hd
  cases u; cases s; simp at hd; rw [hd]

theorem dg_turnK {a b m : Int} {s : ByteArray} {xs : List Int} (hs : askB a b s = true) (hk : knobB a b xs = true) : dg (turnK b m s xs) = (dg s).zipWith (addN b m) xs :=
  dg_text (knob_digits (asked hs).b10 (zip_knob hs hk))

theorem turnK_len {a b : Int} {s : ByteArray} {xs : List Int} (hs : askB a b s = true) (hk : knobB a b xs = true) : (dg s).length = xs.length := by
  have h1 := (asked hs).size
  have h2 := (knobB_yes hk).1
  rw [dg_length]; omega

theorem turnK_turnK {a b m1 m2 : Int} {s : ByteArray} {xs : List Int} (hs : askB a b s = true) (hk : knobB a b xs = true) : turnK b m1 (turnK b m2 s xs) xs = turnK b (m2 + m1) s xs := by
  have hl := turnK_len hs hk
  unfold turnK
  rw [show dg (textOf ((dg s).zipWith (addN b m2) xs)) = _ from dg_turnK hs hk]
  congr 1
  apply List.ext_getElem
  · simp
  · intro i h1 h2
    simp only [List.getElem_zipWith, addN]
    rw [Int.emod_add_emod, Int.add_mul, Int.add_assoc]

theorem turnK_comm {a b m1 m2 : Int} {s : ByteArray} {xs ys : List Int} (hs : askB a b s = true) (hx : knobB a b xs = true) (hy : knobB a b ys = true) : turnK b m1 (turnK b m2 s ys) xs = turnK b m2 (turnK b m1 s xs) ys := by
  have hl := turnK_len hs hx
  have hl2 := turnK_len hs hy
  unfold turnK
  rw [show dg (textOf ((dg s).zipWith (addN b m2) ys)) = _ from dg_turnK hs hy, show dg (textOf ((dg s).zipWith (addN b m1) xs)) = _ from dg_turnK hs hx]
  congr 1
  apply List.ext_getElem
  · simp; omega
  · intro i h1 h2
    simp only [List.getElem_zipWith, addN]
    rw [Int.emod_add_emod, Int.emod_add_emod, Int.add_assoc, Int.add_assoc, Int.add_comm (m2 * _)]

theorem turnK_zero {a b : Int} {s : ByteArray} {xs : List Int} (hs : askB a b s = true) (hx : knobB a b xs = true) : turnK b 0 s xs = s := by
  have hl := turnK_len hs hx
  have h := asked hs
  refine Eq.trans ?_ (text_dgK hs)
  unfold turnK
  congr 1
  apply List.ext_getElem
  · simp; omega
  · intro i h1 h2
    have := h.low i (by rw [dg_length] at h2; exact h2)
    simp only [List.getD, List.getElem?_eq_getElem h2, Option.getD_some] at this
    simp only [List.getElem_zipWith, addN, Int.zero_mul, Int.add_zero]
    exact Int.emod_eq_of_lt this.1 this.2

theorem turnK_mod {b m : Int} {s : ByteArray} {xs : List Int} : turnK b (m % b) s xs = turnK b m s xs := by
  unfold turnK
  congr 1
  apply List.ext_getElem
  · simp
  · intro i h1 h2
    simp only [List.getElem_zipWith, addN]
    rw [Int.add_emod, Int.mul_emod, Int.emod_emod, ← Int.mul_emod, ← Int.add_emod]

/-- Forward or back. -/
def byJ (j : Nat) : Int := if j % 2 = 0 then 1 else -1

def invJ (j : Nat) : Nat := if j % 2 = 0 then j + 1 else j - 1

/-- The code behind a turn; turns are told in their order. -/
def mvK (b : Int) (ks : List (List Int)) (s : ByteArray) (j : Nat) : ByteArray := turnK b (byJ j) s (ks.getD (j / 2) [])

/-- All are knobs. -/
def KnobsB (a b : Int) (ks : List (List Int)) : Prop := ∀ k, k < ks.length → knobB a b (ks.getD k []) = true

theorem backK {a b : Int} {ks : List (List Int)} (hk : KnobsB a b ks) : BackM (mvK b ks) (2 * ks.length) (fun s => askB a b s = true) invJ where
  keep := fun x j hx hj => turnK_ask hx (hk _ (by omega))
  back := fun x j hx hj => by
    have h1 := hk (j / 2) (by omega)
    unfold mvK
    have e1 : invJ j / 2 = j / 2 := by unfold invJ; split <;> omega
    have e2 : byJ j + byJ (invJ j) = 0 := by
      by_cases h : j % 2 = 0
      · have i1 : invJ j = j + 1 := if_pos h
        rw [i1]
        unfold byJ
        rw [if_pos h, if_neg (by omega)]
        rfl
      · have i1 : invJ j = j - 1 := if_neg h
        rw [i1]
        unfold byJ
        rw [if_neg h, if_pos (by omega)]
        rfl
    rw [e1, turnK_turnK hx h1, e2, turnK_zero hx h1]
  lt := fun j hj => by unfold invJ; split <;> omega

theorem walk_comm {a b m : Int} {ys : List Int} {ks : List (List Int)} (hk : KnobsB a b ks) (hy : knobB a b ys = true) {s : ByteArray} (hs : askB a b s = true) : ∀ u : List Nat, (∀ j, j ∈ u → j < 2 * ks.length) → turnK b m (walkR (mvK b ks) s u) ys = walkR (mvK b ks) (turnK b m s ys) u
  | [], _ => rfl
  | j :: u, hu => by
    have hu' : ∀ i, i ∈ u → i < 2 * ks.length := fun i hi => hu i (List.mem_cons_of_mem _ hi)
    have hj := hu j (List.mem_cons_self ..)
    rw [walkR, walkR, ← walk_comm hk hy hs u hu']
    exact turnK_comm (walkR_keep (backK hk) hs u hu') hy (hk _ (by omega))

theorem knobs_tail {a b : Int} {y : List Int} {r : List (List Int)} (hk : KnobsB a b (y :: r)) : knobB a b y = true ∧ KnobsB a b r :=
  ⟨hk 0 (by simp), fun k h => hk (k + 1) (by simpa using h)⟩

/-- The first knob's turns come first. -/
theorem walk_first {a b : Int} {y : List Int} {r : List (List Int)} (hk : KnobsB a b (y :: r)) {s : ByteArray} (hs : askB a b s = true) : ∀ u : List Nat, (∀ j, j ∈ u → j < 2 * (y :: r).length) →
    ∃ (t : Int) (u' : List Nat), (∀ j, j ∈ u' → j < 2 * r.length) ∧ walkR (mvK b (y :: r)) s u = walkR (mvK b r) (turnK b t s y) u'
  | [], _ => ⟨0, [], by simp, (turnK_zero hs (knobs_tail hk).1).symm⟩
  | j :: u, hu => by
    obtain ⟨hy, hr⟩ := knobs_tail hk
    obtain ⟨t, u', h1, h2⟩ := walk_first hk hs u fun i hi => hu i (List.mem_cons_of_mem _ hi)
    have hj := hu j (List.mem_cons_self ..)
    rw [walkR, h2]
    by_cases h0 : j < 2
    · refine ⟨t + byJ j, u', h1, ?_⟩
      have e : mvK b (y :: r) (walkR (mvK b r) (turnK b t s y) u') j = turnK b (byJ j) (walkR (mvK b r) (turnK b t s y) u') y := by
        unfold mvK
        rw [show j / 2 = 0 by omega]
        rfl
      rw [e, walk_comm hr hy (turnK_ask hs hy) u' h1, turnK_turnK hs hy]
    · refine ⟨t, (j - 2) :: u', fun i hi => ?_, ?_⟩
      · rcases List.mem_cons.1 hi with rfl | hi
        · simp at hj; omega
        · exact h1 i hi
      · show turnK b (byJ j) _ _ = turnK b (byJ (j - 2)) _ _
        have e1 : byJ (j - 2) = byJ j := by unfold byJ; rw [show (j - 2) % 2 = j % 2 by omega]
        rw [e1, show j / 2 = (j - 2) / 2 + 1 by omega]
        rfl

theorem walk_tail {b : Int} {y : List Int} {r : List (List Int)} {s : ByteArray} : ∀ u : List Nat, walkR (mvK b r) s u = walkR (mvK b (y :: r)) s (u.map (· + 2))
  | [] => rfl
  | j :: u => by
    rw [List.map_cons, walkR, walkR, walk_tail (y := y) u]
    unfold mvK
    rw [show (j + 2) / 2 = j / 2 + 1 by omega, show byJ (j + 2) = byJ j by unfold byJ; rw [Nat.add_mod_right]]
    rfl

theorem walk_many {a b : Int} {y : List Int} {r : List (List Int)} (hk : KnobsB a b (y :: r)) {s : ByteArray} (hs : askB a b s = true) : ∀ t : Nat, walkR (mvK b (y :: r)) s (List.replicate t 0) = turnK b (t : Int) s y
  | 0 => (turnK_zero hs (knobs_tail hk).1).symm
  | t + 1 => by
    rw [List.replicate_succ, walkR, walk_many hk hs t]
    show turnK b 1 (turnK b t s y) y = _
    rw [turnK_turnK hs (knobs_tail hk).1]
    rfl

/-- Some turns lead from one code to the other. -/
def ReachK (b : Int) (ks : List (List Int)) (s t : ByteArray) : Prop := ∃ u : List Nat, (∀ j, j ∈ u → j < 2 * ks.length) ∧ walkR (mvK b ks) s u = t

theorem ReachK.back {a b : Int} {ks : List (List Int)} (hk : KnobsB a b ks) {s t : ByteArray} (hs : askB a b s = true) (h : ReachK b ks s t) : ReachK b ks t s := by
  obtain ⟨u, h1, rfl⟩ := h
  obtain ⟨u', _, h3, h4⟩ := back_word (backK hk) hs u h1
  exact ⟨u', h3, h4⟩

theorem ReachK.first {a b : Int} {y : List Int} {r : List (List Int)} (hk : KnobsB a b (y :: r)) {s t : ByteArray} (hs : askB a b s = true) (h : ReachK b (y :: r) s t) : ∃ m : Nat, (m : Int) < b ∧ ReachK b r (turnK b m s y) t := by
  obtain ⟨u, h1, rfl⟩ := h
  obtain ⟨m, u', h2, h3⟩ := walk_first hk hs u h1
  have hb := (asked hs).b2
  have g1 := Int.emod_nonneg m (show b ≠ 0 by omega)
  have g2 := Int.emod_lt_of_pos m (show 0 < b by omega)
  refine ⟨(m % b).toNat, by omega, u', h2, ?_⟩
  rw [h3, Int.toNat_of_nonneg g1, turnK_mod]

theorem ReachK.more {a b : Int} {y : List Int} {r : List (List Int)} (hk : KnobsB a b (y :: r)) {s t : ByteArray} (hs : askB a b s = true) {m : Nat} (h : ReachK b r (turnK b m s y) t) : ReachK b (y :: r) s t := by
  obtain ⟨u, h1, rfl⟩ := h
  refine ⟨u.map (· + 2) ++ List.replicate m 0, fun j hj => ?_, ?_⟩
  · rcases List.mem_append.1 hj with hj | hj
    · obtain ⟨i, hi, rfl⟩ := List.mem_map.1 hj
      have := h1 i hi
      simp; omega
    · rw [(List.mem_replicate.1 hj).2]; simp
  · rw [walkR_append, walk_many hk hs, ← walk_tail]

theorem ReachK.none {b : Int} {s t : ByteArray} : ReachK b [] s t ↔ s = t := by
  constructor
  · rintro ⟨u, h1, rfl⟩
    rcases u with _ | ⟨j, u⟩
    · rfl
    · exact absurd (h1 j (List.mem_cons_self ..)) (by simp)
  · rintro rfl
    exact ⟨[], by simp, rfl⟩

/-- What a search by breadth has met is what is reached. -/
theorem AllE.reach {b : Int} {ks : List (List Int)} {s : Ent ByteArray} {L : List (Ent ByteArray)} (h : AllE (mvK b ks) (2 * ks.length) s L) (hs : s.way = []) {t : ByteArray} : t ∈ keysE L ↔ ReachK b ks s.code t := by
  rw [mem_keysE]
  constructor
  · rintro ⟨e, he, rfl⟩
    exact ⟨e.way, h.words hs _ e he rfl, (h.walk e he).symm⟩
  · rintro ⟨u, h1, rfl⟩
    obtain ⟨e, he, hc, _⟩ := h.least hs u h1
    exact ⟨e, he, hc⟩

end Go.Proofs.Ytkmgmlgjflnbeaa
