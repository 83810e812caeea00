/- The first code that is cut off, and the farthest one, told by numbers. No conditions beyond those of each lemma. -/
import Derived.Test.YtilnjlcljjpnmaaQm
namespace Go.Proofs.Ytilnjlcljjpnmaa

/-- Alive, and not reached. -/
def cuB (a b : Int) (ts : List ByteArray) (s x : ByteArray) : Bool := alB a b ts x && !rcB a b ts s x

/-- The number of the first code that is cut off, or how many codes there are. -/
def fcN (a b : Int) (ts : List ByteArray) (s : ByteArray) : Nat := fstN (fun i => !cuB a b ts s (cdN a b i)) (cnN a b)

def fcB (a b : Int) (ts : List ByteArray) (s : ByteArray) : Bool := dkB a b ts s && decide (fcN a b ts s < cnN a b)

def fcZ (a b : Int) (ts : List ByteArray) (s : ByteArray) : ByteArray := if fcB a b ts s then cdN a b (fcN a b ts s) else ⟨#[]⟩

theorem fcB_no {a b : Int} {ts : List ByteArray} {s : ByteArray} (h : fcB a b ts s = false) : fcZ a b ts s = ⟨#[]⟩ := by unfold fcZ; rw [h]; rfl

theorem fcB_at {a b : Int} {ts : List ByteArray} {s : ByteArray} (hd : dkB a b ts s = true) {k : Nat} (hk : k < cnN a b) (h : ∀ i, i < k → cuB a b ts s (cdN a b i) = false) (hp : cuB a b ts s (cdN a b k) = true) : fcB a b ts s = true ∧ fcZ a b ts s = cdN a b k := by
  have e : fcN a b ts s = k := fstN_at hk (fun i hi => by rw [h i hi]; rfl) (by rw [hp]; rfl)
  have h1 : fcB a b ts s = true := by unfold fcB; rw [hd, e, decide_eq_true hk]; rfl
  refine ⟨h1, ?_⟩
  unfold fcZ
  rw [h1, if_pos rfl, e]

theorem fcB_none {a b : Int} {ts : List ByteArray} {s : ByteArray} (h : ∀ i, i < cnN a b → cuB a b ts s (cdN a b i) = false) : fcB a b ts s = false := by
  have e : fcN a b ts s = cnN a b := fstN_all (fun i hi => by rw [h i hi]; rfl)
  unfold fcB
  rw [e, decide_eq_false (Nat.lt_irrefl _), Bool.and_false]

theorem cuB_lvK {a b : Int} {ts : List ByteArray} {s x : ByteArray} {N : Nat} (hx : askB a b x = true) (hN : ∀ i x, N ≤ i → wyA a b (alB a b ts) s i x = 0) : cuB a b ts s x = lvK a b (alB a b ts) s N x := by
  unfold cuB lvK
  rw [rcB_snU hx hN]

/-- The first of those that need the most turns. -/
def beN (a b : Int) (ts : List ByteArray) (s : ByteArray) : Nat → Nat
  | 0 => 0
  | k + 1 => if lvZ a b ts s (cdN a b (beN a b ts s k)) < lvZ a b ts s (cdN a b k) then k else beN a b ts s k

theorem beN_spec {a b : Int} {ts : List ByteArray} {s : ByteArray} : ∀ k, 0 < k → beN a b ts s k < k ∧ (∀ j, j < k → lvZ a b ts s (cdN a b j) ≤ lvZ a b ts s (cdN a b (beN a b ts s k))) ∧ ∀ j, j < beN a b ts s k → lvZ a b ts s (cdN a b j) < lvZ a b ts s (cdN a b (beN a b ts s k))
  | 0, h => by omega
  | 1, _ => by
    have e : beN a b ts s 1 = 0 := by
      show (if _ < _ then 0 else beN a b ts s 0) = 0
      split <;> rfl
    rw [e]
    exact ⟨by omega, fun j hj => by obtain rfl : j = 0 := by omega
                                    exact Int.le_refl _, fun j hj => by omega⟩
  | k + 2, _ => by
    obtain ⟨h1, h2, h3⟩ := beN_spec (a := a) (b := b) (ts := ts) (s := s) (k + 1) (by omega)
    have e : beN a b ts s (k + 2) = if lvZ a b ts s (cdN a b (beN a b ts s (k + 1))) < lvZ a b ts s (cdN a b (k + 1)) then k + 1 else beN a b ts s (k + 1) := rfl
    rw [e]
    split
    · rename_i hlt
      refine ⟨by omega, fun j hj => ?_, fun j hj => ?_⟩
      · by_cases ej : j = k + 1
        · rw [ej]; exact Int.le_refl _
        · have := h2 j (by omega); omega
      · have := h2 j (by omega); omega
    · rename_i hlt
      refine ⟨by omega, fun j hj => ?_, h3⟩
      by_cases ej : j = k + 1
      · rw [ej]; omega
      · exact h2 j (by omega)

theorem beN_at {a b : Int} {ts : List ByteArray} {s : ByteArray} {k i : Nat} (hi : i < k) (h1 : ∀ j, j < k → lvZ a b ts s (cdN a b j) ≤ lvZ a b ts s (cdN a b i)) (h2 : ∀ j, j < i → lvZ a b ts s (cdN a b j) < lvZ a b ts s (cdN a b i)) : beN a b ts s k = i := by
  obtain ⟨g1, g2, g3⟩ := beN_spec (a := a) (b := b) (ts := ts) (s := s) k (by omega)
  rcases Nat.lt_trichotomy (beN a b ts s k) i with h | h | h
  · have := h2 _ h; have := g2 i hi; omega
  · exact h
  · have := g3 _ h; have := h1 _ g1; omega

def feT (a b : Int) (ts : List ByteArray) (s : ByteArray) : ByteArray := if dkB a b ts s then cdN a b (beN a b ts s (cnN a b)) else ⟨#[]⟩

def feZ (a b : Int) (ts : List ByteArray) (s : ByteArray) : Int := if dkB a b ts s then lvZ a b ts s (cdN a b (beN a b ts s (cnN a b))) else 0

end Go.Proofs.Ytilnjlcljjpnmaa
