/- Ways are as long forth as back. No conditions beyond those of each lemma. -/
import Derived.Test.YtilnjlcljjpnmaaCn
namespace Go.Proofs.Ytilnjlcljjpnmaa

section

variable {α : Type} {mv : α → Nat → α} {m : Nat} {inv : Nat → Nat} {al : α → Bool} {P : α → Prop}

/-- So many steps lead there, none to what is not alive. -/
inductive Dst (mv : α → Nat → α) (m : Nat) (al : α → Bool) (s : α) : Nat → α → Prop
  | here : Dst mv m al s 0 s
  | step {k : Nat} {x : α} {j : Nat} (h : Dst mv m al s k x) (hj : j < m) (ha : al (mv x j) = true) : Dst mv m al s (k + 1) (mv x j)

theorem Dst.alive {s : α} {k : Nat} {x : α} (h : Dst mv m al s k x) (hs : al s = true) : al x = true := by
  cases h with
  | here => exact hs
  | step h hj ha => exact ha

theorem Dst.cons {s : α} {j : Nat} (hj : j < m) (ha : al (mv s j) = true) {k : Nat} {x : α} (h : Dst mv m al (mv s j) k x) : Dst mv m al s (k + 1) x := by
  induction h with
  | here => exact .step .here hj ha
  | step h hj ha ih => exact .step ih hj ha

theorem Dst.codes (hg : Grf mv m P inv) {s : α} (hs : P s) {k : Nat} {x : α} (h : Dst mv m al s k x) : P x := by
  induction h with
  | here => exact hs
  | step h hj ha ih => exact hg.keep _ _ ih hj

theorem Dst.back (hg : Grf mv m P inv) {s : α} (hs : P s) (ha : al s = true) {k : Nat} {x : α} (h : Dst mv m al s k x) : Dst mv m al x k s := by
  induction h with
  | here => exact .here
  | @step k x j h hj hx ih =>
    have e := hg.back x j (h.codes hg hs) hj
    have h2 : al (mv (mv x j) (inv j)) = true := by rw [e]; exact h.alive ha
    have := Dst.cons (s := mv x j) (hg.lt j hj) h2 (k := k) (x := s) (by rw [e]; exact ih)
    exact this

variable [DecidableEq α]

theorem sn_mono {s : α} {i k : Nat} {x : α} (h : sn mv m inv al s i x = true) (hik : i ≤ k) : sn mv m inv al s k x = true := by
  obtain ⟨i', h1, h2⟩ := sn_iff.1 h
  exact sn_iff.2 ⟨i', by omega, h2⟩

theorem Dst.sn (hg : Grf mv m P inv) {s : α} (hs : P s) {k : Nat} {x : α} (h : Dst mv m al s k x) : sn mv m inv al s k x = true := by
  induction h with
  | here => exact sn_iff.2 ⟨0, by omega, by rw [wy_zero, if_pos rfl]; omega⟩
  | @step k x j h hj ha ih =>
    obtain ⟨i, hi, hw⟩ := sn_iff.1 ih
    exact sn_mono (wy_step hg (h.codes hg hs) hw hj ha) (by omega)

theorem Dst.of_wy (hg : Grf mv m P inv) {s : α} (hs : al s = true) : ∀ {k : Nat} {x : α}, P x → 0 < wy mv m inv al s k x → Dst mv m al s k x
  | 0, x, _, h => by
    rw [wy_zero] at h
    split at h
    · rename_i e; rw [e]; exact .here
    · omega
  | k + 1, x, hx, h => by
    obtain ⟨y, j, hy, hj, rfl, hw⟩ := wy_pred hg hx h
    exact .step (Dst.of_wy hg hs hy hw) hj (wy_alive hs h)

theorem wy_dst (hg : Grf mv m P inv) {s : α} (hs : al s = true) (hP : P s) {k : Nat} {x : α} (hx : P x) : 0 < wy mv m inv al s k x ↔ Dst mv m al s k x ∧ ∀ i, i < k → ¬ Dst mv m al s i x := by
  constructor
  · intro h
    refine ⟨Dst.of_wy hg hs hx h, fun i hi hd => ?_⟩
    obtain ⟨i', h1, h2⟩ := sn_iff.1 (hd.sn hg hP)
    have := wy_one h h2
    omega
  · rintro ⟨h1, h2⟩
    obtain ⟨i, hi, hw⟩ := sn_iff.1 (h1.sn hg hP)
    have hd := Dst.of_wy hg hs hx hw
    rcases Nat.lt_or_ge i k with h | h
    · exact absurd hd (h2 i h)
    · obtain rfl : i = k := by omega
      exact hw

theorem wy_sym (hg : Grf mv m P inv) {s t : α} (hs : al s = true) (ht : al t = true) (hPs : P s) (hPt : P t) {k : Nat} : 0 < wy mv m inv al s k t ↔ 0 < wy mv m inv al t k s := by
  rw [wy_dst hg hs hPs hPt, wy_dst hg ht hPt hPs]
  exact ⟨fun ⟨h1, h2⟩ => ⟨h1.back hg hPs hs, fun i hi h => h2 i hi (h.back hg hPt ht)⟩, fun ⟨h1, h2⟩ => ⟨h1.back hg hPt ht, fun i hi h => h2 i hi (h.back hg hPs hs)⟩⟩

end

theorem lvZ_sym {a b : Int} {ts : List ByteArray} {s t : ByteArray} (hs : alB a b ts s = true) (ht : alB a b ts t = true) : lvZ a b ts s t = lvZ a b ts t s := by
  have h : ∀ k, 0 < wyZ a b ts s k t ↔ 0 < wyZ a b ts t k s := fun k => wy_sym (grfW a b) hs ht (alB_ask hs) (alB_ask ht)
  rcases lvZ_cases (ts := ts) (s := s) (alB_ask ht) with ⟨k, hk, e⟩ | ⟨hz, e⟩
  · rw [e, lvZ_some (alB_ask hs) ((h k).1 hk)]
  · rw [e, lvZ_none (fun k => by
      have h1 := hz k
      have h2 := h k
      omega)]

/-- The first turn that leads into the layer. -/
def fsJ (a b : Int) (al : ByteArray → Bool) (s : ByteArray) (k : Nat) (y : ByteArray) : Nat := fstN (fun j => decide (wyA a b al s k (mvW b y j) = 0)) (2 * a.toNat)

/-- The first way, back from a layer to the code that the search began with. -/
def ptW (a b : Int) (al : ByteArray → Bool) (s : ByteArray) : Nat → ByteArray → List Nat
  | 0, _ => []
  | k + 1, y => fsJ a b al s k y :: ptW a b al s k (mvW b y (fsJ a b al s k y))

theorem ptW_length (a b : Int) (al : ByteArray → Bool) (s : ByteArray) : ∀ k y, (ptW a b al s k y).length = k
  | 0, _ => rfl
  | k + 1, y => by rw [ptW, List.length_cons, ptW_length a b al s k]

theorem fstN_lt {p : Nat → Bool} {n : Nat} (h : ∃ i, i < n ∧ p i = false) : fstN p n < n ∧ p (fstN p n) = false ∧ ∀ i, i < fstN p n → p i = true := by
  obtain ⟨i, hi, hp⟩ := h
  unfold fstN
  rcases e : (List.range n).find? (fun i => !p i) with _ | k
  · have := List.find?_eq_none.1 e i (List.mem_range.2 hi)
    rw [hp] at this
    exact absurd rfl this
  · have h1 := List.find?_range_eq_some.1 e
    rw [Option.getD_some]
    refine ⟨List.mem_range.1 h1.2.1, by simpa using h1.1, fun i hi => ?_⟩
    have := h1.2.2 i hi
    simpa using this

/-- There is such a turn. -/
theorem fsJ_yes {a b : Int} {al : ByteArray → Bool} {s y : ByteArray} {k : Nat} (hy : askB a b y = true) (h : 0 < wyA a b al s (k + 1) y) :
    fsJ a b al s k y < 2 * a.toNat ∧ 0 < wyA a b al s k (mvW b y (fsJ a b al s k y)) ∧ ∀ j, j < fsJ a b al s k y → wyA a b al s k (mvW b y j) = 0 := by
  obtain ⟨x, j, hx, hj, e, hw⟩ := wy_pred (grfW a b) hy h
  have e2 : mvW b y (ivW j) = x := by rw [← e]; exact mvW_back hx hj
  obtain ⟨h1, h2, h3⟩ := fstN_lt (p := fun j => decide (wyA a b al s k (mvW b y j) = 0)) (n := 2 * a.toNat) ⟨ivW j, ivW_lt hj, by
    rw [decide_eq_false_iff_not, e2]
    have : 0 < wyA a b al s k x := hw
    omega⟩
  refine ⟨h1, ?_, fun j hj => by simpa using h3 j hj⟩
  rw [decide_eq_false_iff_not] at h2
  exact Nat.pos_of_ne_zero h2

/-- Turns, told by their numbers. -/
def tuW (js : List Nat) : List (Int × Int) := js.map fun j => (((j / 2 : Nat) : Int), byW j)

theorem tuW_length (js : List Nat) : (tuW js).length = js.length := by simp [tuW]

theorem tuW_at {js : List Nat} {i : Nat} (hi : i < js.length) : (tuW js).getD i (0, 0) = (((js.getD i 0 / 2 : Nat) : Int), byW (js.getD i 0)) := by
  simp [tuW, List.getD, hi]

end Go.Proofs.Ytilnjlcljjpnmaa
