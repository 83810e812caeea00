/- The first list of fewest turns of knobs, as the program finds it. For texts that are no longer than any may be. -/
import Derived.Test.YtkmgmlgjflnbeaaReachI
namespace Go.Proofs.Ytkmgmlgjflnbeaa
open Go.ChangeShapes Go.WideShapes Go.ChangeAt Go.RowKit Go.Joins

/-- What is met at a code. -/
def entT (a b : Int) (ks : List (List Int)) (s t : ByteArray) : Option (Ent ByteArray) := (allL a b ks s).find? fun e => nmN a b e.code == nmN a b t

def wayT (u : List Nat) : List (Int × Int) := u.reverse.map fun j => (((j / 2 : Nat) : Int), byJ j)

theorem wayT_length (u : List Nat) : (wayT u).length = u.length := by simp [wayT]

def fkB (a b : Int) (ks : List (List Int)) (s t : ByteArray) : Bool := gcB a b ks s && askB a b t && (entT a b ks s t).isSome

def fkT (a b : Int) (ks : List (List Int)) (s t : ByteArray) : List (Int × Int) := if fkB a b ks s t then (match entT a b ks s t with | some e => wayT e.way | none => []) else []

theorem entT_some {a b : Int} {ks : List (List Int)} {s t : ByteArray} (hk : KnobsB a b ks) (hs : askB a b s = true) (ht : askB a b t = true) {e : Ent ByteArray} (h : entT a b ks s t = some e) : e ∈ allL a b ks s ∧ e.code = t := by
  have h1 := List.mem_of_find?_eq_some h
  have h2 := List.find?_some h
  rw [beq_iff_eq] at h2
  exact ⟨h1, nmN_inj (allL_ask hk hs e h1) ht h2⟩

theorem entT_of {a b : Int} {ks : List (List Int)} {s : ByteArray} (hk : KnobsB a b ks) (hs : askB a b s = true) {e : Ent ByteArray} (he : e ∈ allL a b ks s) : entT a b ks s e.code = some e := by
  rcases h : entT a b ks s e.code with _ | f
  · have := List.find?_eq_none.1 h e he
    simp at this
  · obtain ⟨h1, h2⟩ := entT_some hk hs (allL_ask hk hs e he) h
    rw [keysE_inj (allL_all hk hs).nodup h1 he h2]

theorem entT_none {a b : Int} {ks : List (List Int)} {s t : ByteArray} (h : entT a b ks s t = none) : ¬ t ∈ keysE (allL a b ks s) := fun hm => by
  obtain ⟨e, he, rfl⟩ := mem_keysE.1 hm
  have := List.find?_eq_none.1 h e he
  simp at this

/-- How many turns lead to a code. -/
def wlV (a b : Int) (ks : List (List Int)) (s : ByteArray) : Value → Nat
  | .string c => match entT a b ks s c with
    | some e => e.way.length
    | none => 0
  | _ => 0

theorem wlV_of {a b : Int} {ks : List (List Int)} {s : ByteArray} (hk : KnobsB a b ks) (hs : askB a b s = true) {e : Ent ByteArray} (he : e ∈ allL a b ks s) : wlV a b ks s (.string e.code) = e.way.length := by
  unfold wlV
  simp only [entT_of hk hs he]

theorem pre_parent {mv : ByteArray → Nat → ByteArray} {m : Nat} {s : Ent ByteArray} {L0 L : List (Ent ByteArray)} (h : AllE mv m s L0) (hp : L <+: L0) {e : Ent ByteArray} (he : e ∈ L) : e = s ∨ ∃ j p, p ∈ L ∧ e.way = j :: p.way ∧ e.before = p.code := by
  rcases h.back e (hp.subset he) with rfl | ⟨j, p, hp0, _, hw, hb, _⟩
  · exact .inl rfl
  · refine .inr ⟨j, p, ?_, hw, hb⟩
    obtain ⟨T, rfl⟩ := hp
    rcases List.mem_append.1 hp0 with h1 | h1
    · exact h1
    · exfalso
      have := (List.pairwise_append.1 h.srt).2.2 e he p h1
      have := sl_len this
      rw [hw, List.length_cons] at this
      omega

theorem all_nil {mv : ByteArray → Nat → ByteArray} {m : Nat} {s : Ent ByteArray} {L : List (Ent ByteArray)} (h : AllE mv m s L) (_ : s.way = []) {e : Ent ByteArray} (he : e ∈ L) (hc : e.code = s.code) : e = s :=
  keysE_inj h.nodup he (List.mem_of_getElem? h.head) hc

theorem way_bd {a b : Int} {ks : List (List Int)} {s : ByteArray} (hk : KnobsB a b ks) (hs : askB a b s = true) {e : Ent ByteArray} (he : e ∈ allL a b ks s) : e.way.length ≤ cntN a b := by
  obtain ⟨i, hi, rfl⟩ := List.getElem_of_mem he
  have h1 := (bfsL_inv (b := b) (ks := ks) (s := s) (cntN a b)).way_le rfl i _ (List.getElem?_eq_getElem hi)
  have h2 := bfsL_length hk hs (cntN a b)
  have h3 : (allL a b ks s).length ≤ cntN a b := h2
  have h4 : (allL a b ks s)[i].way.length ≤ i := h1
  omega

/-- A turn put in its place. -/
theorem way_set {w : World} {g j : Nat} {u pre : List Nat} {wl : Nat} (hw : wl = (pre ++ j :: u).length) (h : Cells w g (wl * 2) (fun c => if c / 2 < u.length + 1 then .int .i64 0 else turnF (wayT (pre ++ j :: u)) c)) :
    Cells ((w.setCell ⟨g, u.length * 2, none⟩ (.int .i64 ((j / 2 : Nat) : Int))).setCell ⟨g, u.length * 2 + 1, none⟩ (.int .i64 (byJ j))) g (wl * 2) (fun c => if c / 2 < u.length then .int .i64 0 else turnF (wayT (pre ++ j :: u)) c) := by
  have hlen : wl = pre.length + 1 + u.length := by rw [hw, List.length_append, List.length_cons]; omega
  have hat : (wayT (pre ++ j :: u)).getD u.length (0, 0) = (((j / 2 : Nat) : Int), byJ j) := by
    unfold wayT
    rw [List.reverse_append, List.reverse_cons, List.append_assoc, List.map_append]
    simp [List.getD]
  refine ((h.set_ (k := u.length * 2) (by omega) _).set_ (k := u.length * 2 + 1) (by omega) _).congr fun c _ => ?_
  by_cases h1 : c = u.length * 2 + 1
  · subst h1
    rw [if_pos rfl, if_neg (by omega), turnF_1, hat]
  · rw [if_neg h1]
    by_cases h2 : c = u.length * 2
    · subst h2
      rw [if_pos rfl, if_neg (by omega), turnF_0, hat]
    · rw [if_neg h2]
      by_cases h3 : c / 2 < u.length
      · rw [if_pos h3, if_pos (by omega)]
      · rw [if_neg h3, if_neg (by omega)]

end Go.Proofs.Ytkmgmlgjflnbeaa
