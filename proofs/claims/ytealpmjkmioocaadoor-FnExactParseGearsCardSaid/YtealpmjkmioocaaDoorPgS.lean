/- A text parted at a byte, and put together again. No conditions. -/
import Derived.Test.YtealpmjkmioocaaDoorPgM
namespace Go.Proofs.YtealpmjkmioocaaDoor

/-- The parts of a text between a byte. -/
def spl (b : UInt8) : List UInt8 → List (List UInt8)
  | [] => [[]]
  | c :: r => if c = b then [] :: spl b r else
    match spl b r with
    | [] => [[c]]
    | p :: ps => (c :: p) :: ps

/-- Parts put together with a byte between them. -/
def jn (b : UInt8) : List (List UInt8) → List UInt8
  | [] => []
  | [p] => p
  | p :: q :: ps => p ++ b :: jn b (q :: ps)

theorem spl_ne (b : UInt8) : ∀ l, spl b l ≠ []
  | [] => by simp [spl]
  | c :: r => by
    unfold spl
    split
    · simp
    · split <;> simp

theorem jn_cons (b c : UInt8) (p : List UInt8) (ps : List (List UInt8)) : jn b ((c :: p) :: ps) = c :: jn b (p :: ps) := by
  cases ps <;> rfl

theorem jn_nil (b : UInt8) {q : List (List UInt8)} (h : q ≠ []) : jn b ([] :: q) = b :: jn b q := by
  cases q with
  | nil => exact absurd rfl h
  | cons q qs => rfl

theorem jn_spl (b : UInt8) : ∀ l, jn b (spl b l) = l
  | [] => rfl
  | c :: r => by
    have ih := jn_spl b r
    unfold spl
    split
    · rename_i hc
      subst hc
      rw [jn_nil _ (spl_ne _ _), ih]
    · split
      · rename_i h
        exact absurd h (spl_ne b r)
      · rename_i p ps h
        rw [jn_cons, ← h, ih]

theorem spl_part (b : UInt8) : ∀ (p : List UInt8), b ∉ p → spl b p = [p]
  | [], _ => rfl
  | c :: p, h => by
    have h1 : c ≠ b := fun e => h (by rw [e]; exact List.mem_cons_self ..)
    have ih := spl_part b p (fun e => h (List.mem_cons_of_mem _ e))
    unfold spl
    rw [if_neg h1, ih]

theorem spl_app (b : UInt8) (r : List UInt8) : ∀ (p : List UInt8), b ∉ p → spl b (p ++ b :: r) = p :: spl b r
  | [], _ => by
    rw [List.nil_append]
    conv => lhs; unfold spl
    rw [if_pos rfl]
  | c :: p, h => by
    have h1 : c ≠ b := fun e => h (by rw [e]; exact List.mem_cons_self ..)
    have ih := spl_app b r p (fun e => h (List.mem_cons_of_mem _ e))
    rw [List.cons_append]
    conv => lhs; unfold spl
    rw [if_neg h1, ih]

/-- Parts without the byte are found again. -/
theorem spl_jn (b : UInt8) : ∀ (ps : List (List UInt8)), ps ≠ [] → (∀ p ∈ ps, b ∉ p) → spl b (jn b ps) = ps
  | [], h, _ => absurd rfl h
  | [p], _, h => spl_part b p (h p (List.mem_cons_self ..))
  | p :: q :: ps, _, h => by
    have ih := spl_jn b (q :: ps) (by simp) (fun r hr => h r (List.mem_cons_of_mem _ hr))
    show spl b (p ++ b :: jn b (q :: ps)) = _
    rw [spl_app b _ p (h p (List.mem_cons_self ..)), ih]

theorem spl_mem (b : UInt8) : ∀ (l : List UInt8), ∀ p ∈ spl b l, b ∉ p
  | [], p, h => by
    rw [show spl b [] = [[]] from rfl, List.mem_singleton] at h
    subst h
    simp
  | c :: r, p, h => by
    have ih := spl_mem b r
    unfold spl at h
    split at h
    · rcases List.mem_cons.1 h with rfl | h
      · simp
      · exact ih p h
    · rename_i hc
      split at h
      · rename_i e
        exact absurd e (spl_ne b r)
      · rename_i q qs e
        rcases List.mem_cons.1 h with rfl | h
        · intro hm
          rcases List.mem_cons.1 hm with hb | hb
          · exact hc hb.symm
          · exact ih q (by rw [e]; exact List.mem_cons_self ..) hb
        · exact ih p (by rw [e]; exact List.mem_cons_of_mem _ h)

/-- How many parts there are, and how long they are together. -/
theorem spl_length (b : UInt8) : ∀ (l : List UInt8), (spl b l).length = l.count b + 1
  | [] => rfl
  | c :: r => by
    have ih := spl_length b r
    unfold spl
    split
    · rename_i hc
      subst hc
      rw [List.length_cons, ih, List.count_cons_self]
    · rename_i hc
      rw [List.count_cons_of_ne hc, ← ih]
      split
      · rename_i e
        exact absurd e (spl_ne b r)
      · rename_i q qs e
        rw [e, List.length_cons, List.length_cons]

end Go.Proofs.YtealpmjkmioocaaDoor
