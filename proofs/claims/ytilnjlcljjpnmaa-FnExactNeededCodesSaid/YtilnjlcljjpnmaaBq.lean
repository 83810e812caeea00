/- A search by a queue, and that it comes to the same levels and ways. Plain facts; no conditions beyond those of each lemma. -/
import Derived.Test.YtilnjlcljjpnmaaLev
namespace Go.Proofs.Ytilnjlcljjpnmaa

section

variable {α : Type} [DecidableEq α] {mv : α → Nat → α} {m : Nat} {inv : Nat → Nat} {al : α → Bool} {s : α} {P : α → Prop} {cap : Nat}

/-- What is told of ways at x when the search has come to place k, with j steps done there. -/
def wayQ (mv : α → Nat → α) (m : Nat) (inv : Nat → Nat) (al : α → Bool) (s : α) (cap : Nat) (Q : List α) (k j : Nat) (d : Nat) (x : α) : Nat :=
  match d with
  | 0 => if x = s then 1 else 0
  | d + 1 => sat cap (acc mv m inv (prB (fun y => decide (y ∈ Q.take k)) (Q.getD k s) j) (wy mv m inv al s d) x)

/-- What holds in round k, with j steps done: fr: the level told, or -1; ws: the ways told. -/
structure Bq (mv : α → Nat → α) (m : Nat) (inv : Nat → Nat) (al : α → Bool) (s : α) (P : α → Prop) (cap : Nat) (Q : List α) (fr : α → Int) (ws : α → Nat) (k j : Nat) : Prop where
  nodup : Q.Nodup
  allP : ∀ x, x ∈ Q → P x
  head : s ∈ Q
  lev : ∀ x, x ∈ Q → ∃ d : Nat, fr x = d ∧ 0 < wy mv m inv al s d x
  out : ∀ x, P x → x ∉ Q → fr x = -1 ∧ ws x = 0
  srt : ∀ (i i' : Nat) (x x' : α), i ≤ i' → Q[i]? = some x → Q[i']? = some x' → fr x ≤ fr x'
  top : ∀ x y, x ∈ Q → Q[k]? = some y → fr x ≤ fr y + 1
  don : ∀ (i : Nat) (y : α) (j' : Nat), Q[i]? = some y → j' < m → (i < k ∨ i = k ∧ j' < j) → al (mv y j') = true → mv y j' ∈ Q
  way : ∀ x d, x ∈ Q → fr x = ((d : Nat) : Int) → ws x = wayQ mv m inv al s cap Q k j d x

theorem bq_start (hs : P s) (fr : α → Int) (ws : α → Nat) (hf : ∀ x, P x → fr x = if x = s then 0 else -1) (hw : ∀ x, P x → ws x = if x = s then 1 else 0) : Bq mv m inv al s P cap [s] fr ws 0 0 where
  nodup := by simp
  allP := fun x hx => by obtain rfl := List.mem_singleton.1 hx; exact hs
  head := List.mem_singleton.2 rfl
  lev := fun x hx => by
    obtain rfl := List.mem_singleton.1 hx
    exact ⟨0, by rw [hf x hs, if_pos rfl]; rfl, by rw [wy_zero, if_pos rfl]; omega⟩
  out := fun x hx h => by
    have : x ≠ s := fun e => h (List.mem_singleton.2 e)
    rw [hf x hx, hw x hx, if_neg this, if_neg this]
    exact ⟨rfl, rfl⟩
  srt := fun i i' x x' _ h1 h2 => by
    obtain rfl := List.mem_singleton.1 (List.mem_of_getElem? h1)
    obtain rfl := List.mem_singleton.1 (List.mem_of_getElem? h2)
    omega
  top := fun x y hx hy => by
    obtain rfl := List.mem_singleton.1 hx
    obtain rfl := List.mem_singleton.1 (List.mem_of_getElem? hy)
    omega
  don := fun i y j' _ _ h => by omega
  way := fun x d hx hd => by
    obtain rfl := List.mem_singleton.1 hx
    have hd2 : d = 0 := by
      rw [hf x hs, if_pos rfl] at hd
      omega
    subst hd2
    rw [hw x hs]
    rfl

/-- Before the search has come to a level's end, all of the levels before are met. -/
theorem Bq.met {Q : List α} {fr : α → Int} {ws : α → Nat} {k j : Nat} (h : Bq mv m inv al s P cap Q fr ws k j) (hg : Grf mv m P inv) (hs : al s = true) {e : Int} (he : ∀ y, Q[k]? = some y → e ≤ fr y) : ∀ (d : Nat) (x : α), P x → (d : Int) ≤ e → 0 < wy mv m inv al s d x → x ∈ Q
  | 0, x, _, _, hw => by
    rw [wy_zero] at hw
    split at hw
    · rename_i e1; rw [e1]; exact h.head
    · omega
  | d + 1, x, hx, hd, hw => by
    obtain ⟨y, i, hy, hi, rfl, hwy⟩ := wy_pred hg hx hw
    have hyQ := Bq.met h hg hs he d y hy (by omega) hwy
    obtain ⟨d', hd', hw'⟩ := h.lev y hyQ
    have := wy_one hwy hw'
    subst this
    obtain ⟨q, hq, hq2⟩ := List.getElem_of_mem hyQ
    have hqy : Q[q]? = some y := List.getElem?_eq_some_iff.2 ⟨hq, hq2⟩
    have hlt : q < k := by
      rcases Nat.lt_or_ge q k with h1 | h1
      · exact h1
      · have h2 : k < Q.length := by omega
        have h3 : Q[k]? = some Q[k] := List.getElem?_eq_getElem h2
        have h4 := he _ h3
        have h5 := h.srt k q _ _ h1 h3 hqy
        omega
    exact h.don q y i hqy hi (.inl hlt) (wy_alive hs hw)

omit [DecidableEq α] in
theorem take_of_get {Q : List α} {k : Nat} {y : α} (hy : Q[k]? = some y) : Q.take (k + 1) = Q.take k ++ [y] := by
  obtain ⟨h1, h2⟩ := List.getElem?_eq_some_iff.1 hy
  rw [List.take_succ_eq_append_getElem h1, h2]

omit [DecidableEq α] in
theorem not_mem_take {Q : List α} {k : Nat} {y : α} (hn : Q.Nodup) (hy : Q[k]? = some y) : y ∉ Q.take k := fun hm => by
  obtain ⟨h1, h2⟩ := List.getElem?_eq_some_iff.1 hy
  obtain ⟨i, hi, e⟩ := List.getElem_of_mem hm
  rw [List.length_take] at hi
  rw [List.getElem_take] at e
  have := List.pairwise_iff_getElem.1 hn i k (by omega) h1 (by omega)
  exact this (by rw [e, h2])

omit [DecidableEq α] in
theorem getD_of {Q : List α} {k : Nat} {y s : α} (hy : Q[k]? = some y) : Q.getD k s = y := by rw [List.getD, hy]; rfl

/-- The ways told at the place in work are whole. -/
theorem Bq.whole {Q : List α} {fr : α → Int} {ws : α → Nat} {k : Nat} (h : Bq mv m inv al s P cap Q fr ws k 0) (hg : Grf mv m P inv) (hs : al s = true) (hc : 1 ≤ cap) {x : α} (hx : Q[k]? = some x) {j : Nat} {d : Nat} (hd : fr x = d) :
    wayQ mv m inv al s cap Q k j d x = sat cap (wy mv m inv al s d x) := by
  have hxQ := List.mem_of_getElem? hx
  have hxP := h.allP x hxQ
  obtain ⟨d', hd', hw⟩ := h.lev x hxQ
  obtain rfl : d = d' := by omega
  cases d with
  | zero =>
    rw [wy_zero]
    unfold wayQ sat
    by_cases e : x = s
    · simp [e]; omega
    · simp [e]
  | succ d =>
    show sat cap _ = sat cap _
    rw [acc_full hg hxP (fun y i hy hi hwy => ?_)]
    · rw [wy_succ] at hw ⊢
      split at hw
      · rename_i e1; rw [if_pos e1]
      · omega
    · have hyQ := h.met hg hs (e := (d : Int) + 1) (fun y' hy' => by rw [hx] at hy'; cases hy'; omega) d y hy (by omega) hwy
      obtain ⟨d2, hd2, hw2⟩ := h.lev y hyQ
      have := wy_one hwy hw2
      subst this
      obtain ⟨q, hq, hq2⟩ := List.getElem_of_mem hyQ
      have hqy : Q[q]? = some y := List.getElem?_eq_some_iff.2 ⟨hq, hq2⟩
      have hlt : q < k := by
        rcases Nat.lt_or_ge q k with h1 | h1
        · exact h1
        · have h5 := h.srt k q _ _ h1 hx hqy
          omega
      have : y ∈ Q.take k := by rw [← hq2]; exact List.mem_iff_getElem.2 ⟨q, by rw [List.length_take]; omega, by rw [List.getElem_take]⟩
      unfold prB
      simp only [this, decide_true, Bool.true_or]

/-- The next place. -/
theorem Bq.next {Q : List α} {fr : α → Int} {ws : α → Nat} {k : Nat} {y : α} (h : Bq mv m inv al s P cap Q fr ws k m) (hy : Q[k]? = some y) (hg : Grf mv m P inv) : Bq mv m inv al s P cap Q fr ws (k + 1) 0 := by
  refine ⟨h.nodup, h.allP, h.head, h.lev, h.out, h.srt, fun x y' hx hy' => ?_, fun i y' j' hi hj hlt => h.don i y' j' hi hj (by omega), fun x d hx hd => ?_⟩
  · have h1 := h.top x y hx hy
    have h2 := h.srt k (k + 1) y y' (by omega) hy hy'
    omega
  · rw [h.way x d hx hd]
    cases d with
    | zero => rfl
    | succ d =>
      show sat cap _ = sat cap _
      congr 1
      refine acc_congr hg (h.allP x hx) (fun z i hz hi _ => ?_)
      unfold prB
      rw [getD_of hy, take_of_get hy]
      rw [decide_eq_true hi, Bool.and_true, decide_eq_false (show ¬ i < 0 by omega), Bool.and_false, Bool.or_false]
      by_cases e1 : z ∈ Q.take k <;> by_cases e2 : z = y <;> simp [e1, e2]

/-- One step more, to what is not alive. -/
theorem Bq.dead {Q : List α} {fr : α → Int} {ws : α → Nat} {k j : Nat} {y : α} (h : Bq mv m inv al s P cap Q fr ws k j) (hy : Q[k]? = some y) (hj : j < m) (hg : Grf mv m P inv) (hs : al s = true) (ha : al (mv y j) = false) : Bq mv m inv al s P cap Q fr ws k (j + 1) := by
  refine ⟨h.nodup, h.allP, h.head, h.lev, h.out, h.srt, h.top, fun i y' j' hi hj' hlt hal => ?_, fun x d hx hd => ?_⟩
  · by_cases e : i = k ∧ j' = j
    · obtain ⟨rfl, rfl⟩ := e
      rw [hy] at hi; cases hi
      rw [ha] at hal; cases hal
    · exact h.don i y' j' hi hj' (by omega) hal
  · rw [h.way x d hx hd]
    cases d with
    | zero => rfl
    | succ d =>
      show sat cap _ = sat cap _
      rw [getD_of hy, acc_step hg (h.allP y (List.mem_of_getElem? hy)) (h.allP x hx) hj (decide_eq_false (not_mem_take h.nodup hy))]
      have : mv y j ≠ x := fun e => by
        obtain ⟨d', _, hw⟩ := h.lev x hx
        have := wy_alive hs hw
        rw [← e, ha] at this; cases this
      rw [if_neg this, Nat.add_zero]

/-- One step more, to what is alive: fr', ws' tell what is written. -/
theorem Bq.live {Q : List α} {fr : α → Int} {ws : α → Nat} {k j : Nat} {y : α} (h : Bq mv m inv al s P cap Q fr ws k j) (h0 : Bq mv m inv al s P cap Q fr ws k j → ∀ d : Nat, fr y = d → ws y = sat cap (wy mv m inv al s d y)) (hy : Q[k]? = some y) (hj : j < m) (hg : Grf mv m P inv) (hs : al s = true) (ha : al (mv y j) = true)
    {Q' : List α} {fr' : α → Int} {ws' : α → Nat} (hQ : Q' = if mv y j ∈ Q then Q else Q ++ [mv y j]) (hf : ∀ x, P x → fr' x = if x = mv y j ∧ fr x < 0 then fr y + 1 else fr x)
    (hw : ∀ x, P x → ws' x = if x = mv y j ∧ fr' x = fr y + 1 then sat cap (ws x + ws y) else ws x) : Bq mv m inv al s P cap Q' fr' ws' k (j + 1) := by
  have hyQ := List.mem_of_getElem? hy
  have hyP := h.allP y hyQ
  have hzP := hg.keep y j hyP hj
  obtain ⟨e, he, hey⟩ := h.lev y hyQ
  have hwe := h0 h e he
  have hkl := (List.getElem?_eq_some_iff.1 hy).1
  have hbar := decide_eq_false (not_mem_take h.nodup hy)
  by_cases hin : mv y j ∈ Q
  · rw [if_pos hin] at hQ
    subst hQ
    obtain ⟨dz, hdz, hwz⟩ := h.lev _ hin
    have hff : ∀ x, P x → fr' x = fr x := fun x hx => by
      rw [hf x hx]
      split
      · rename_i hc; rw [hc.1, hdz] at hc; omega
      · rfl
    refine ⟨h.nodup, h.allP, h.head, fun x hx => by rw [hff x (h.allP x hx)]; exact h.lev x hx, fun x hx hn => ?_, fun i i' x x' hi h1 h2 => ?_, fun x y' hx hy' => ?_, fun i y' j' hi hj' hlt hal => ?_, fun x d hx hd => ?_⟩
    · have : x ≠ mv y j := fun e => hn (e ▸ hin)
      rw [hff x hx, hw x hx, if_neg (fun hc => this hc.1)]
      exact h.out x hx hn
    · rw [hff x (h.allP x (List.mem_of_getElem? h1)), hff x' (h.allP x' (List.mem_of_getElem? h2))]; exact h.srt i i' x x' hi h1 h2
    · rw [hff x (h.allP x hx), hff y' (h.allP y' (List.mem_of_getElem? hy'))]; exact h.top x y' hx hy'
    · by_cases e : i = k ∧ j' = j
      · obtain ⟨rfl, rfl⟩ := e
        rw [hy] at hi; cases hi
        exact hin
      · exact h.don i y' j' hi hj' (by omega) hal
    · have hxP := h.allP x hx
      rw [hff x hxP] at hd
      rw [hw x hxP, hff x hxP]
      have h1 := h.way x d hx hd
      cases d with
      | zero =>
        rw [if_neg (fun hc => by omega), h1]
        rfl
      | succ d =>
        show _ = sat cap _
        rw [getD_of hy, acc_step hg hyP hxP hj hbar]
        change ws x = sat cap _ at h1
        rw [getD_of hy] at h1
        by_cases hx2 : mv y j = x
        · rw [if_pos hx2]
          by_cases hd2 : fr x = fr y + 1
          · rw [if_pos ⟨hx2.symm, hd2⟩, h1, hwe]
            have : d = e := by omega
            subst this
            exact sat_add _ _ _
          · rw [if_neg (fun hc => hd2 hc.2), h1]
            have hz : wy mv m inv al s d y = 0 := by
              rcases Nat.eq_zero_or_pos (wy mv m inv al s d y) with h3 | h3
              · exact h3
              · have := wy_one h3 hey; omega
            rw [hz, Nat.add_zero]
        · rw [if_neg hx2, Nat.add_zero, if_neg (fun hc => hx2 hc.1.symm), h1]
  · rw [if_neg hin] at hQ
    subst hQ
    obtain ⟨ho1, ho2⟩ := h.out _ hzP hin
    have hnz : ∀ x, x ∈ Q → x ≠ mv y j := fun x hx e => hin (e ▸ hx)
    have hff : ∀ x, x ∈ Q → fr' x = fr x := fun x hx => by rw [hf x (h.allP x hx), if_neg (fun hc => hnz x hx hc.1)]
    have hfz : fr' (mv y j) = fr y + 1 := by rw [hf _ hzP, if_pos ⟨rfl, by omega⟩]
    have hsn : sn mv m inv al s e (mv y j) = false := by
      rw [Bool.eq_false_iff]
      intro hc2
      obtain ⟨i, hi, hwi⟩ := sn_iff.1 hc2
      exact hin (h.met hg hs (e := (e : Int)) (fun y' hy' => by rw [hy] at hy'; cases hy'; omega) i _ hzP (by omega) hwi)
    have hwz : 0 < wy mv m inv al s (e + 1) (mv y j) := by
      have := wy_step (al := al) (s := s) hg hyP hey hj ha
      rw [sn_succ, hsn, Bool.false_or, decide_eq_true_iff] at this
      exact this
    have hwsz : ws' (mv y j) = sat cap (wy mv m inv al s e y) := by
      rw [hw _ hzP, if_pos ⟨rfl, hfz⟩, ho2, hwe, Nat.zero_add]
      unfold sat
      split <;> simp <;> omega
    have old : ∀ {i : Nat} {x : α}, (Q ++ [mv y j])[i]? = some x → (Q[i]? = some x ∧ x ∈ Q) ∨ (i = Q.length ∧ x = mv y j) := fun {i x} hi => by
      rcases Nat.lt_or_ge i Q.length with h1 | h1
      · rw [List.getElem?_append_left h1] at hi
        exact .inl ⟨hi, List.mem_of_getElem? hi⟩
      · rw [List.getElem?_append_right h1] at hi
        have hl := (List.getElem?_eq_some_iff.1 hi).1
        have : i - Q.length = 0 := by simp at hl; omega
        rw [this] at hi
        simp at hi
        exact .inr ⟨by omega, hi.symm⟩
    have hyk : (Q ++ [mv y j])[k]? = some y := by rw [List.getElem?_append_left hkl]; exact hy
    have htk : (Q ++ [mv y j]).take k = Q.take k := List.take_append_of_le_length (by omega)
    refine ⟨?_, fun x hx => ?_, List.mem_append_left _ h.head, fun x hx => ?_, fun x hx hn => ?_, fun i i' x x' hi h1 h2 => ?_, fun x y' hx hy' => ?_, fun i y' j' hi hj' hlt hal => ?_, fun x d hx hd => ?_⟩
    · rw [List.nodup_append]
      exact ⟨h.nodup, by simp, fun a ha b hb => by obtain rfl := List.mem_singleton.1 hb; exact hnz a ha⟩
    · rcases List.mem_append.1 hx with hx | hx
      · exact h.allP x hx
      · obtain rfl := List.mem_singleton.1 hx; exact hzP
    · rcases List.mem_append.1 hx with hx | hx
      · rw [hff x hx]; exact h.lev x hx
      · obtain rfl := List.mem_singleton.1 hx
        exact ⟨e + 1, by rw [hfz, he]; omega, hwz⟩
    · have h1 : x ∉ Q := fun hm => hn (List.mem_append_left _ hm)
      have h2 : x ≠ mv y j := fun e => hn (List.mem_append_right _ (List.mem_singleton.2 e))
      rw [hf x hx, if_neg (fun hc => h2 hc.1), hw x hx, if_neg (fun hc => h2 hc.1)]
      exact h.out x hx h1
    · rcases old h1 with ⟨a1, a2⟩ | ⟨a1, rfl⟩
      · rcases old h2 with ⟨b1, b2⟩ | ⟨b1, rfl⟩
        · rw [hff x a2, hff x' b2]; exact h.srt i i' x x' hi a1 b1
        · rw [hff x a2, hfz]; exact h.top x y a2 hy
      · rcases old h2 with ⟨b1, b2⟩ | ⟨b1, rfl⟩
        · have := (List.getElem?_eq_some_iff.1 b1).1; omega
        · omega
    · rw [hyk] at hy'
      cases hy'
      rw [hff y hyQ]
      rcases List.mem_append.1 hx with hx | hx
      · rw [hff x hx]; exact h.top x y hx hy
      · obtain rfl := List.mem_singleton.1 hx
        omega
    · rcases old hi with ⟨b1, b2⟩ | ⟨b1, rfl⟩
      · by_cases e : i = k ∧ j' = j
        · obtain ⟨rfl, rfl⟩ := e
          rw [hy] at b1; cases b1
          exact List.mem_append_right _ (List.mem_singleton.2 rfl)
        · exact List.mem_append_left _ (h.don i y' j' b1 hj' (by omega) hal)
      · omega
    · rcases List.mem_append.1 hx with hx | hx
      · have hxP := h.allP x hx
        rw [hff x hx] at hd
        rw [hw x hxP, if_neg (fun hc => hnz x hx hc.1), h.way x d hx hd]
        cases d with
        | zero => rfl
        | succ d =>
          show sat cap _ = sat cap _
          rw [htk, getD_of hy, getD_of hyk, acc_step hg hyP hxP hj hbar, if_neg (fun e => hnz x hx e.symm), Nat.add_zero]
      · obtain rfl := List.mem_singleton.1 hx
        have hde : d = e + 1 := by rw [hfz] at hd; omega
        subst hde
        rw [hwsz]
        show _ = sat cap _
        rw [htk, getD_of hyk, acc_step hg hyP hzP hj hbar, if_pos rfl]
        congr 1
        have hz0 : acc mv m inv (prB (fun y => decide (y ∈ Q.take k)) y j) (wy mv m inv al s e) (mv y j) = 0 := by
          refine acc_off hg hzP (fun u i hu hi hui => ?_)
          unfold prB
          rw [Bool.or_eq_false_iff]
          refine ⟨decide_eq_false (fun hm => ?_), ?_⟩
          · obtain ⟨q, hq, hq2⟩ := List.getElem_of_mem hm
            rw [List.length_take] at hq
            rw [List.getElem_take] at hq2
            have := h.don q u i (List.getElem?_eq_some_iff.2 ⟨by omega, hq2⟩) hi (.inl (by omega)) (by rw [hui]; exact ha)
            rw [hui] at this
            exact hin this
          · by_cases e1 : u = y ∧ i < j
            · obtain ⟨rfl, e1⟩ := e1
              have := h.don k u i hy hi (.inr ⟨rfl, e1⟩) (by rw [hui]; exact ha)
              rw [hui] at this
              exact absurd this hin
            · by_cases e2 : u = y
              · rw [decide_eq_false (fun h3 => e1 ⟨e2, h3⟩), Bool.and_false]
              · rw [decide_eq_false e2, Bool.false_and]
        rw [hz0, Nat.zero_add]

/-- The end. -/
theorem Bq.fin {Q : List α} {fr : α → Int} {ws : α → Nat} (h : Bq mv m inv al s P cap Q fr ws Q.length 0) (hg : Grf mv m P inv) (hs : al s = true) (hc : 1 ≤ cap) {x : α} (hx : P x) :
    (∀ d, 0 < wy mv m inv al s d x → fr x = ((d : Nat) : Int) ∧ ws x = sat cap (wy mv m inv al s d x)) ∧ ((∀ d, wy mv m inv al s d x = 0) → fr x = -1 ∧ ws x = 0) := by
  have hnone : Q[Q.length]? = none := List.getElem?_eq_none (Nat.le_refl _)
  refine ⟨fun d hd => ?_, fun hz => ?_⟩
  · have hxQ := h.met hg hs (e := (d : Int)) (fun y hy => by rw [hnone] at hy; cases hy) d x hx (Int.le_refl _) hd
    obtain ⟨d', hd', hw'⟩ := h.lev x hxQ
    have := wy_one hd hw'
    subst this
    refine ⟨hd', ?_⟩
    rw [h.way x d hxQ hd']
    cases d with
    | zero =>
      rw [wy_zero]
      unfold wayQ sat
      by_cases e : x = s
      · simp [e]; omega
      · simp [e]
    | succ d =>
      show sat cap _ = sat cap _
      rw [acc_full hg hx (fun y i hy hi hwy => ?_)]
      · rw [wy_succ] at hd ⊢
        split at hd
        · rename_i e1; rw [if_pos e1]
        · omega
      · have hyQ := h.met hg hs (e := (d : Int)) (fun y hy => by rw [hnone] at hy; cases hy) d y hy (Int.le_refl _) hwy
        have : y ∈ Q.take Q.length := by rw [List.take_length]; exact hyQ
        unfold prB
        simp only [this, decide_true, Bool.true_or]
  · refine h.out x hx (fun hm => ?_)
    obtain ⟨d, _, hw⟩ := h.lev x hm
    rw [hz d] at hw
    omega

end

end Go.Proofs.Ytilnjlcljjpnmaa
