/- How many codes there are at each distance, as the model counts them wheel by wheel. No conditions. -/
import Derived.Test.YthnekpdakjcadabFar
namespace Go.Proofs.Ythnekpdakjcadab
open Go.ChangeShapes Go.WideShapes Go.ChangeAt Go.RowKit Go.Joins

def addAt (l : List Int) (i : Nat) (v : Int) : List Int := l.set i (l.getD i 0 + v)
def stepQ (b n : Int) (d : Nat) (l : List Int) : Nat → List Int
  | 0 => l
  | q + 1 => addAt (stepQ b n d l q) (d + (farI b 0 q).toNat) n
def stepAll (b : Int) (R l : List Int) : Nat → List Int
  | 0 => l
  | d + 1 => stepQ b (R.getD d 0) d (stepAll b R l d) b.toNat
def nextL (b : Int) (R : List Int) : List Int := stepAll b R (List.replicate (R.length + (b / 2).toNat) 0) R.length
def roundsL (b : Int) : Nat → List Int
  | 0 => [1]
  | k + 1 => nextL b (roundsL b k)

theorem addAt_length (l : List Int) (i : Nat) (v : Int) : (addAt l i v).length = l.length := by simp [addAt]
theorem stepQ_length (b n : Int) (d : Nat) (l : List Int) (q : Nat) : (stepQ b n d l q).length = l.length := by
  induction q with
  | zero => rfl
  | succ q ih => rw [stepQ, addAt_length, ih]
theorem stepAll_length (b : Int) (R l : List Int) (d : Nat) : (stepAll b R l d).length = l.length := by
  induction d with
  | zero => rfl
  | succ d ih => rw [stepAll, stepQ_length, ih]
theorem nextL_length (b : Int) (R : List Int) : (nextL b R).length = R.length + (b / 2).toNat := by rw [nextL, stepAll_length, List.length_replicate]
theorem roundsL_length (b : Int) (k : Nat) : (roundsL b k).length = 1 + k * (b / 2).toNat := by
  induction k with
  | zero => simp [roundsL]
  | succ k ih => rw [roundsL, nextL_length, ih, Nat.succ_mul]; omega
theorem addAt_at (l : List Int) {i : Nat} (v : Int) (hi : i < l.length) (j : Nat) : (addAt l i v).getD j 0 = if j = i then l.getD i 0 + v else l.getD j 0 := by
  unfold addAt
  by_cases h : j = i
  · subst h; simp [List.getD, hi]
  · rw [if_neg h]
    simp only [List.getD]
    rw [List.getElem?_set_ne (fun e => h e.symm)]

/-- All entries lie from 0 to M. -/
def Bnd (l : List Int) (M : Int) : Prop := ∀ j, 0 ≤ l.getD j 0 ∧ l.getD j 0 ≤ M
theorem Bnd.add {l : List Int} {M N v : Int} (h : Bnd l M) (hv : 0 ≤ v ∧ v ≤ N) (i : Nat) : Bnd (addAt l i v) (M + N) := fun j => by
  by_cases hi : i < l.length
  · rw [addAt_at l v hi]
    have h1 := h i
    have h2 := h j
    split <;> omega
  · have e : addAt l i v = l := by unfold addAt; exact List.set_eq_of_length_le (by omega)
    rw [e]
    have h2 := h j
    omega
theorem Bnd.stepQ {l : List Int} {M N b n : Int} (h : Bnd l M) (hn : 0 ≤ n ∧ n ≤ N) (d q : Nat) : Bnd (stepQ b n d l q) (M + q * N) := by
  induction q with
  | zero => simpa [Go.Proofs.Ythnekpdakjcadab.stepQ] using h
  | succ q ih =>
    have := ih.add hn (d + (farI b 0 q).toNat)
    rw [show M + ((q + 1 : Nat) : Int) * N = M + q * N + N by rw [Int.natCast_add, Int.add_mul]; simp; omega]
    exact this
theorem Bnd.stepAll {R l : List Int} {N b : Int} (h : Bnd l 0) (hR : Bnd R N) (d : Nat) : Bnd (stepAll b R l d) (d * (b.toNat * N)) := by
  induction d with
  | zero => simpa [Go.Proofs.Ythnekpdakjcadab.stepAll] using h
  | succ d ih =>
    have := ih.stepQ (b := b) (hR d) d b.toNat
    rw [show ((d + 1 : Nat) : Int) * (b.toNat * N) = d * (b.toNat * N) + b.toNat * N by rw [Int.natCast_add, Int.add_mul]; simp]
    exact this
theorem Bnd.zeros (n : Nat) : Bnd (List.replicate n 0) 0 := fun j => by
  have : (List.replicate n (0 : Int)).getD j 0 = 0 := by rw [List.getD, List.getElem?_replicate]; split <;> rfl
  omega

def okRounds (b : Int) (k : Nat) : Bool := (roundsL b k).all fun x => decide (0 ≤ x ∧ x ≤ 1000000)
theorem rounds_ok : ((List.range 9).all fun i => (List.range 7).all fun k => okRounds ((i : Int) + 2) k) = true := by decide +kernel
theorem rounds_bnd {b : Int} (h2 : 2 ≤ b) (h10 : b ≤ 10) {k : Nat} (hk : k ≤ 6) : Bnd (roundsL b k) 1000000 := fun j => by
  have h := rounds_ok
  rw [List.all_eq_true] at h
  have h1 := h (b - 2).toNat (by rw [List.mem_range]; omega)
  rw [List.all_eq_true] at h1
  have h2 := h1 k (by rw [List.mem_range]; omega)
  rw [show (((b - 2).toNat : Nat) : Int) + 2 = b by omega] at h2
  unfold okRounds at h2
  rw [List.all_eq_true] at h2
  by_cases hj : j < (roundsL b k).length
  · have := h2 _ (List.getElem_mem hj)
    rw [decide_eq_true_eq] at this
    simpa [List.getD, List.getElem?_eq_getElem hj] using this
  · rw [List.getD, List.getElem?_eq_none (by omega)]
    simp

theorem far_half {b : Int} (h2 : 2 ≤ b) (x y : Int) : 0 ≤ farI b x y ∧ farI b x y ≤ b / 2 := by
  have h := far_back b x y
  have b1 := subI_bd h2 y x
  have b2 := subI_bd h2 x y
  have hs : subI b y x = 0 ∧ subI b x y = 0 ∨ 0 < subI b y x ∧ subI b y x + subI b x y = b := by
    by_cases h0 : subI b y x = 0
    · rw [h0, Int.sub_zero, Int.emod_self] at h
      exact .inl ⟨h0, h.symm⟩
    · rw [Int.emod_eq_of_lt (by omega) (by omega)] at h
      exact .inr ⟨by omega, by omega⟩
  unfold farI lstI
  split <;> omega

end Go.Proofs.Ythnekpdakjcadab
