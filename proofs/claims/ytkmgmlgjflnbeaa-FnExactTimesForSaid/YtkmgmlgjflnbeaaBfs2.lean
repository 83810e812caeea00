/- A search by breadth where each step can be taken back: least words, told from the other end. No conditions beyond those of each lemma. -/
import Derived.Test.YtkmgmlgjflnbeaaBfs
namespace Go.Proofs.Ytkmgmlgjflnbeaa

section
variable {α : Type}

theorem walkR_append (mv : α → Nat → α) (x : α) (u v : List Nat) : walkR mv x (u ++ v) = walkR mv (walkR mv x v) u := by
  induction u with
  | nil => rfl
  | cons j u ih => rw [List.cons_append, walkR, walkR, ih]

/-- Steps keep to P, and are taken back. -/
structure BackM (mv : α → Nat → α) (m : Nat) (P : α → Prop) (inv : Nat → Nat) : Prop where
  keep : ∀ x j, P x → j < m → P (mv x j)
  back : ∀ x j, P x → j < m → mv (mv x j) (inv j) = x
  lt : ∀ j, j < m → inv j < m

theorem walkR_keep {mv : α → Nat → α} {m : Nat} {P : α → Prop} {inv : Nat → Nat} (h : BackM mv m P inv) {x : α} (hx : P x) : ∀ u : List Nat, (∀ j, j ∈ u → j < m) → P (walkR mv x u)
  | [], _ => hx
  | j :: u, hu => h.keep _ _ (walkR_keep h hx u fun i hi => hu i (List.mem_cons_of_mem _ hi)) (hu j (List.mem_cons_self ..))

theorem back_word {mv : α → Nat → α} {m : Nat} {P : α → Prop} {inv : Nat → Nat} (h : BackM mv m P inv) {x : α} (hx : P x) : ∀ u : List Nat, (∀ j, j ∈ u → j < m) → ∃ u' : List Nat, u'.length = u.length ∧ (∀ j, j ∈ u' → j < m) ∧ walkR mv (walkR mv x u) u' = x
  | [], _ => ⟨[], rfl, by simp, rfl⟩
  | j :: u, hu => by
    have hj := hu j (List.mem_cons_self ..)
    have hu' : ∀ i, i ∈ u → i < m := fun i hi => hu i (List.mem_cons_of_mem _ hi)
    obtain ⟨u', h1, h2, h3⟩ := back_word h hx u hu'
    refine ⟨u' ++ [inv j], by simp [h1], fun i hi => ?_, ?_⟩
    · rcases List.mem_append.1 hi with hi | hi
      · exact h2 i hi
      · obtain rfl := List.mem_singleton.1 hi
        exact h.lt j hj
    · rw [walkR_append]
      show walkR mv (mv (mv (walkR mv x u) j) (inv j)) u' = x
      rw [h.back _ _ (walkR_keep h hx u hu') hj, h3]

theorem sl_front {x y : List Nat} (h : sl x y) : ∀ {p q : List Nat}, p.length = q.length → sl (p ++ x) (q ++ y)
  | [], [], _ => h
  | _ :: p, _ :: q, e => .inl (sl_front h (by simpa using e))

theorem AllE.keys {mv : α → Nat → α} {m : Nat} {s : Ent α} {L : List (Ent α)} {P : α → Prop} {inv : Nat → Nat} (h : AllE mv m s L) (hs : s.way = []) (hb : BackM mv m P inv) (hP : P s.code) {e : Ent α} (he : e ∈ L) : P e.code := by
  rw [h.walk e he]
  exact walkR_keep hb hP _ (h.words hs _ e he rfl)

/-- From the other end: how far what lies on a least word is from its end. -/
theorem far_split {mv : α → Nat → α} {m : Nat} {P : α → Prop} {inv : Nat → Nat} {s t : Ent α} {A B : List (Ent α)} (hb : BackM mv m P inv) (hA : AllE mv m s A) (hB : AllE mv m t B) (hs : s.way = []) (ht : t.way = []) (hP : P s.code)
    {e : Ent α} (he : e ∈ A) (hc : e.code = t.code) {u v : List Nat} (hw : e.way = u ++ v) : ∃ e1, e1 ∈ B ∧ e1.code = walkR mv s.code v ∧ e1.way.length = u.length := by
  have hlt := hA.words hs _ e he rfl
  rw [hw] at hlt
  have hv : ∀ j, j ∈ v → j < m := fun j hj => hlt j (List.mem_append_right _ hj)
  have hu : ∀ j, j ∈ u → j < m := fun j hj => hlt j (List.mem_append_left _ hj)
  have hcur := walkR_keep hb hP v hv
  have hend : walkR mv (walkR mv s.code v) u = t.code := by rw [← walkR_append, ← hw, ← hA.walk e he, hc]
  obtain ⟨u', h1, h2, h3⟩ := back_word hb hcur u hu
  rw [hend] at h3
  obtain ⟨e1, he1, hc1, hw1⟩ := hB.least ht u' h2
  rw [h3] at hc1
  refine ⟨e1, he1, hc1, ?_⟩
  have hle : e1.way.length ≤ u.length := by
    rcases hw1 with e2 | e2
    · rw [e2, h1]; exact Nat.le_refl _
    · have := sl_len e2; omega
  have hPt : P t.code := by rw [← hend]; exact walkR_keep hb hcur u hu
  obtain ⟨u2, g1, g2, g3⟩ := back_word hb hPt e1.way (hB.words ht _ e1 he1 rfl)
  rw [← hB.walk e1 he1, hc1] at g3
  obtain ⟨e4, he4, hc4, hw4⟩ := hA.least hs (u2 ++ v) fun j hj => (List.mem_append.1 hj).elim (g2 j) (hv j)
  rw [walkR_append, g3] at hc4
  have e5 := keysE_inj hA.nodup he4 he (hc4.trans hc.symm)
  subst e5
  have hl : e4.way.length ≤ (u2 ++ v).length := by
    rcases hw4 with e6 | e6
    · rw [e6]; exact Nat.le_refl _
    · exact sl_len e6
  rw [hw] at hl
  simp only [List.length_append] at hl
  omega

/-- .. and no lesser step leads on as well. -/
theorem far_first {mv : α → Nat → α} {m : Nat} {P : α → Prop} {inv : Nat → Nat} {s t : Ent α} {A B : List (Ent α)} (hb : BackM mv m P inv) (hA : AllE mv m s A) (hB : AllE mv m t B) (hs : s.way = []) (ht : t.way = []) (hP : P s.code)
    {e : Ent α} (he : e ∈ A) (hc : e.code = t.code) {u v : List Nat} {j : Nat} (hw : e.way = u ++ j :: v) {j' : Nat} (hj : j' < j) {e3 : Ent α} (he3 : e3 ∈ B) (hc3 : e3.code = mv (walkR mv s.code v) j') : e3.way.length ≠ u.length := by
  intro hl
  have hlt := hA.words hs _ e he rfl
  rw [hw] at hlt
  have hv : ∀ i, i ∈ v → i < m := fun i hi => hlt i (List.mem_append_right _ (List.mem_cons_of_mem _ hi))
  have hjm : j < m := hlt j (List.mem_append_right _ (List.mem_cons_self ..))
  have hPt : P t.code := by rw [← hc]; exact hA.keys hs hb hP he
  obtain ⟨u2, g1, g2, g3⟩ := back_word hb hPt e3.way (hB.words ht _ e3 he3 rfl)
  rw [← hB.walk e3 he3, hc3] at g3
  obtain ⟨e4, he4, hc4, hw4⟩ := hA.least hs (u2 ++ j' :: v) fun i hi => by
    rcases List.mem_append.1 hi with hi | hi
    · exact g2 i hi
    · rcases List.mem_cons.1 hi with rfl | hi
      · omega
      · exact hv i hi
  rw [walkR_append] at hc4
  have hc5 : e4.code = t.code := hc4.trans g3
  have e5 := keysE_inj hA.nodup he4 he (hc5.trans hc.symm)
  subst e5
  have hsl : sl (u2 ++ j' :: v) e4.way := by
    rw [hw]
    exact sl_front (x := j' :: v) (y := j :: v) (.inr ⟨rfl, hj⟩) (by omega)
  rcases hw4 with e6 | e6
  · rw [e6] at hsl; exact sl_irrefl _ hsl
  · exact sl_irrefl _ (sl_trans hsl e6)

end

end Go.Proofs.Ytkmgmlgjflnbeaa
