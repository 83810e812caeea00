/- Whole orders from the code of zeros on, found one code after the other. Mathematics alone. No conditions beyond those of each lemma. -/
import Derived.Test.YtjghodfdejdjoaaOo
import Derived.Test.YtjghodfdejdjoaaNext
namespace Go.Proofs.Ytjghodfdejdjoaa
open Go.ChangeShapes Go.WideShapes Go.ChangeAt Go.RowKit Go.Joins

/-- All orders that begin with a list and have so many codes more. -/
def whL (a b : Int) : Nat → List ByteArray → List (List ByteArray)
  | 0, L => [L]
  | r + 1, L => (nextL a b (L.getD (L.length - 1) ByteArray.empty)).flatMap fun c => if hsS L c then [] else whL a b r (L ++ [c])

/-- Those of the first codes that come next. -/
def whP (a b : Int) (r : Nat) (L : List ByteArray) (cs : List ByteArray) : List (List ByteArray) := cs.flatMap fun c => if hsS L c then [] else whL a b r (L ++ [c])

theorem whP_snoc (a b : Int) (r : Nat) (L cs : List ByteArray) (c : ByteArray) : whP a b r L (cs ++ [c]) = whP a b r L cs ++ (if hsS L c then [] else whL a b r (L ++ [c])) := by
  unfold whP; rw [List.flatMap_append]; simp

theorem whL_succ (a b : Int) (r : Nat) (L : List ByteArray) : whL a b (r + 1) L = whP a b r L (nextL a b (L.getD (L.length - 1) ByteArray.empty)) := rfl

theorem whL_mem {a b : Int} : ∀ {r : Nat} {L M : List ByteArray}, M ∈ whL a b r L → M.length = L.length + r ∧ L <+: M
  | 0, L, M, h => by
    rw [whL, List.mem_singleton] at h
    subst h
    exact ⟨rfl, List.prefix_refl _⟩
  | r + 1, L, M, h => by
    rw [whL, List.mem_flatMap] at h
    obtain ⟨c, _, hc⟩ := h
    split at hc
    · cases hc
    · obtain ⟨h1, h2⟩ := whL_mem hc
      exact ⟨by rw [h1, List.length_append]; simp; omega, (List.prefix_append _ _).trans h2⟩

theorem next_few {a b : Int} {s : ByteArray} : (nextL a b s).length ≤ 12 := by
  by_cases h : askB a b s = true
  · rw [nextL_yes h, ofKey_length]
    have h6 := (asked h).n6
    have h1 := tidy_le (keyL (nxC b (dg s) (2 * s.size)))
    rw [keyL_length, nxC_length] at h1
    omega
  · rw [nextL_no (Bool.eq_false_iff.2 h)]; decide

theorem whP_le {a b : Int} {r : Nat} {L : List ByteArray} (h : ∀ c, (whL a b r (L ++ [c])).length ≤ 12 ^ r) : ∀ cs : List ByteArray, (whP a b r L cs).length ≤ cs.length * 12 ^ r
  | [] => by simp [whP]
  | c :: cs => by
    have ih := whP_le h cs
    unfold whP at ih ⊢
    rw [List.flatMap_cons, List.length_append, List.length_cons, Nat.add_mul, Nat.one_mul]
    have := h c
    by_cases hs : hsS L c = true
    · rw [if_pos hs]; rw [List.length_nil]; omega
    · rw [if_neg hs]; omega

theorem whL_le {a b : Int} : ∀ (r : Nat) (L : List ByteArray), (whL a b r L).length ≤ 12 ^ r
  | 0, L => by simp [whL]
  | r + 1, L => by
    rw [whL_succ]
    have h1 := whP_le (a := a) (b := b) (fun c => whL_le r (L ++ [c])) (nextL a b (L.getD (L.length - 1) ByteArray.empty))
    have h2 := Nat.mul_le_mul_right (12 ^ r) (next_few (a := a) (b := b) (s := L.getD (L.length - 1) ByteArray.empty))
    rw [Nat.pow_succ, Nat.mul_comm (12 ^ r)]
    omega

/-- How many of them close. -/
def clN (a b : Int) (Ms : List (List ByteArray)) : Nat := (Ms.filter fun M => otB a b (M.getD (M.length - 1) ByteArray.empty) (M.getD 0 ByteArray.empty)).length

theorem clN_app (a b : Int) (Ms Ns : List (List ByteArray)) : clN a b (Ms ++ Ns) = clN a b Ms + clN a b Ns := by unfold clN; rw [List.filter_append, List.length_append]

theorem clN_one (a b : Int) (L : List ByteArray) : clN a b [L] = if otB a b (L.getD (L.length - 1) ByteArray.empty) (L.getD 0 ByteArray.empty) = true then 1 else 0 := by
  unfold clN
  rw [List.filter_cons]
  split <;> rfl

/-- The first of them. -/
def hdW (Ms : List (List ByteArray)) : List ByteArray := Ms.headD []

theorem hdW_app {Ms Ns : List (List ByteArray)} : hdW (Ms ++ Ns) = if Ms.length = 0 then hdW Ns else hdW Ms := by
  unfold hdW
  cases Ms with
  | nil => rfl
  | cons M Ms => rfl

theorem clN_le (a b : Int) (Ms : List (List ByteArray)) : clN a b Ms ≤ Ms.length := List.length_filter_le _ _

end Go.Proofs.Ytjghodfdejdjoaa
