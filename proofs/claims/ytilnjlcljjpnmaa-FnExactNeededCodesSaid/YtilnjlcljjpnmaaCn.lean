/- Codes counted: those of a level, those that are reached, those that are dead. No conditions beyond those of each lemma. -/
import Derived.Test.YtilnjlcljjpnmaaLf
import Derived.Test.YtilnjlcljjpnmaaOr
namespace Go.Proofs.Ytilnjlcljjpnmaa

/-- How many codes are so. -/
def cntC (a b : Int) (p : ByteArray → Bool) : Nat := ((List.range (cnN a b)).filter fun i => p (cdN a b i)).length

theorem cntC_congr {a b : Int} {p q : ByteArray → Bool} (h : ∀ i, i < cnN a b → p (cdN a b i) = q (cdN a b i)) : cntC a b p = cntC a b q := by
  unfold cntC
  congr 1
  exact List.filter_congr fun i hi => h i (List.mem_range.1 hi)

theorem filter_add {α : Type} (p q : α → Bool) : ∀ l : List α, (∀ x, x ∈ l → p x = true → q x = false) → (l.filter fun x => p x || q x).length = (l.filter p).length + (l.filter q).length
  | [], _ => rfl
  | x :: l, h => by
    have ih := filter_add p q l fun y hy => h y (List.mem_cons_of_mem _ hy)
    have hx := h x (List.mem_cons_self ..)
    rw [List.filter_cons, List.filter_cons, List.filter_cons]
    cases hp : p x
    · cases hq : q x
      · simp [ih]
      · simp [ih]; omega
    · rw [hx hp]
      simp [ih]
      omega

theorem cntC_add {a b : Int} {p q : ByteArray → Bool} (h : ∀ i, i < cnN a b → p (cdN a b i) = true → q (cdN a b i) = false) : cntC a b (fun x => p x || q x) = cntC a b p + cntC a b q :=
  filter_add _ _ _ fun i hi => h i (List.mem_range.1 hi)

theorem cntC_all {a b : Int} : cntC a b (fun _ => true) = cnN a b := by
  unfold cntC
  rw [List.filter_eq_self.2 (fun _ _ => rfl), List.length_range]

theorem cntC_none {a b : Int} : cntC a b (fun _ => false) = 0 := by unfold cntC; simp

theorem cntC_le {a b : Int} {p : ByteArray → Bool} : cntC a b p ≤ cnN a b := by
  have := List.length_filter_le (fun i => p (cdN a b i)) (List.range (cnN a b))
  rwa [List.length_range] at this

/-- A list without repeats that holds just the codes that are so. -/
theorem cntC_list {a b : Int} (hg : goodB a b = true) {L : List ByteArray} {p : ByteArray → Bool} (hn : L.Nodup) (h : ∀ t, t ∈ L ↔ askB a b t = true ∧ p t = true) : cntC a b p = L.length := by
  have e1 : (L.map (nuN a b)).Nodup := nodup_on hn fun x hx y hy e => nuN_inj ((h x).1 hx).1 ((h y).1 hy).1 e
  have e2 : ((List.range (cnN a b)).filter fun i => p (cdN a b i)).Nodup := List.nodup_range.filter _
  have := (List.perm_ext_iff_of_nodup e2 e1).2 fun i => by
    rw [List.mem_filter, List.mem_range, List.mem_map]
    constructor
    · rintro ⟨h1, h2⟩
      exact ⟨cdN a b i, (h _).2 ⟨cd_ask hg, h2⟩, nu_cd hg h1⟩
    · rintro ⟨x, hx, rfl⟩
      obtain ⟨h1, h2⟩ := (h x).1 hx
      exact ⟨nuN_lt h1, by rw [cd_nu h1]; exact h2⟩
  unfold cntC
  rw [this.length_eq, List.length_map]

/-- A layer's codes, counted. -/
theorem cntC_layer {a b : Int} {al : ByteArray → Bool} {s : ByteArray} (hg : goodB a b = true) (ha : ∀ t, al t = true → askB a b t = true) (hs : al s = true) {k : Nat} {L : List ByteArray} (hn : L.Nodup) (h : ∀ t, t ∈ L ↔ 0 < wyA a b al s k t) :
    cntC a b (fun x => decide (0 < wyA a b al s k x)) = L.length :=
  cntC_list hg hn fun t => by
    rw [h, decide_eq_true_iff]
    exact ⟨fun e => ⟨wyA_ask ha hs e, e⟩, fun e => e.2⟩

theorem snU_new {a b : Int} {al : ByteArray → Bool} {s : ByteArray} {k : Nat} {x : ByteArray} (h : 0 < wyA a b al s k x) : snU a b al s k x = false := by
  cases k with
  | zero => rfl
  | succ k =>
    rw [Bool.eq_false_iff]
    intro e
    have h2 : wyA a b al s (k + 1) x = 0 := wy_seen e
    omega

theorem cntC_snU {a b : Int} {al : ByteArray → Bool} {s : ByteArray} (k : Nat) : cntC a b (snU a b al s (k + 1)) = cntC a b (snU a b al s k) + cntC a b (fun x => decide (0 < wyA a b al s k x)) := by
  rw [cntC_congr (q := fun x => snU a b al s k x || decide (0 < wyA a b al s k x)) fun i _ => snU_succ ..]
  refine cntC_add fun i _ h => ?_
  rw [decide_eq_false_iff_not]
  intro h2
  rw [snU_new h2] at h
  cases h

theorem snU_iff {a b : Int} {al : ByteArray → Bool} {s : ByteArray} {N : Nat} {x : ByteArray} : snU a b al s N x = true ↔ ∃ k, k < N ∧ 0 < wyA a b al s k x := by
  cases N with
  | zero =>
    constructor
    · intro h; cases h
    · rintro ⟨k, h, _⟩; omega
  | succ N =>
    constructor
    · intro h
      obtain ⟨i, hi, h2⟩ := sn_iff.1 h
      exact ⟨i, by omega, h2⟩
    · rintro ⟨k, hk, h⟩
      exact sn_iff.2 ⟨k, by omega, h⟩

/-- The code is reached. -/
def rcB (a b : Int) (ts : List ByteArray) (s x : ByteArray) : Bool := decide (0 ≤ lvZ a b ts s x)

theorem rcB_iff {a b : Int} {ts : List ByteArray} {s x : ByteArray} (hx : askB a b x = true) : rcB a b ts s x = true ↔ ∃ k, 0 < wyA a b (alB a b ts) s k x := by
  unfold rcB
  rw [decide_eq_true_iff]
  rcases lvZ_cases (ts := ts) (s := s) hx with ⟨k, hk, e⟩ | ⟨hz, e⟩
  · rw [e]
    exact ⟨fun _ => ⟨k, hk⟩, fun _ => by omega⟩
  · rw [e]
    constructor
    · intro h; omega
    · rintro ⟨k, hk⟩
      have : wyA a b (alB a b ts) s k x = 0 := hz k
      omega

theorem rcB_snU {a b : Int} {ts : List ByteArray} {s x : ByteArray} {N : Nat} (hx : askB a b x = true) (hN : ∀ i x, N ≤ i → wyA a b (alB a b ts) s i x = 0) : rcB a b ts s x = snU a b (alB a b ts) s N x := by
  rw [Bool.eq_iff_iff, rcB_iff hx, snU_iff]
  constructor
  · rintro ⟨k, hk⟩
    refine ⟨k, ?_, hk⟩
    rcases Nat.lt_or_ge k N with h | h
    · exact h
    · have := hN k x h; omega
  · rintro ⟨k, _, hk⟩; exact ⟨k, hk⟩

/-- How many codes are reached. -/
def crN (a b : Int) (ts : List ByteArray) (s : ByteArray) : Nat := cntC a b (rcB a b ts s)

theorem crN_snU {a b : Int} {ts : List ByteArray} {s : ByteArray} {N : Nat} (hg : goodB a b = true) (hN : ∀ i x, N ≤ i → wyA a b (alB a b ts) s i x = 0) : crN a b ts s = cntC a b (snU a b (alB a b ts) s N) :=
  cntC_congr fun _ _ => rcB_snU (cd_ask hg) hN

/-- Dead codes: none twice, all of the lock. -/
theorem dead_codes {a b : Int} {ts : List ByteArray} (hg : goodB a b = true) (h : deadB a b ts = true) : ts.Nodup ∧ (∀ t, t ∈ ts → askB a b t = true) := by
  unfold deadB at h
  rw [Bool.and_eq_true, List.all_eq_true] at h
  have hall := h.2
  have hask : ∀ i, (hi : i < ts.length) → askB a b ts[i] = true := fun i hi => by
    have := hall i (List.mem_range.2 hi)
    unfold deadAt at this
    rw [Bool.and_eq_true] at this
    unfold askB
    rw [hg, ← getD_eq hi, this.1]; rfl
  have hstep : ∀ i, (hi : i + 1 < ts.length) → nuN a b ts[i] < nuN a b ts[i + 1] := fun i hi => by
    have := hall (i + 1) (List.mem_range.2 hi)
    unfold deadAt at this
    rw [Bool.and_eq_true, Bool.or_eq_true] at this
    have h2 := this.2.resolve_left (by simp)
    rw [Nat.add_sub_cancel, getD_eq hi, getD_eq (by omega), less_nu (hask i (by omega)) (hask (i + 1) hi), decide_eq_true_iff] at h2
    exact h2
  have hlt : ∀ d i, (hi : i + d + 1 < ts.length) → nuN a b ts[i] < nuN a b ts[i + d + 1] := fun d => by
    induction d with
    | zero => exact fun i hi => hstep i hi
    | succ d ih => exact fun i hi => Nat.lt_trans (ih i (by omega)) (hstep (i + d + 1) hi)
  refine ⟨List.pairwise_iff_getElem.2 fun i j hi hj hij e => ?_, fun t ht => ?_⟩
  · obtain ⟨d, rfl⟩ : ∃ d, j = i + d + 1 := ⟨j - i - 1, by omega⟩
    have := hlt d i hj
    rw [e] at this
    omega
  · obtain ⟨i, hi, rfl⟩ := List.getElem_of_mem ht
    exact hask i hi

theorem cntC_live {a b : Int} {ts : List ByteArray} (hg : goodB a b = true) (h : deadB a b ts = true) : cntC a b (alB a b ts) + ts.length = cnN a b := by
  obtain ⟨h1, h2⟩ := dead_codes hg h
  have e1 : cntC a b (inS ts) = ts.length := cntC_list hg h1 fun t => by
    rw [inS_iff]
    exact ⟨fun e => ⟨h2 t e, e⟩, fun e => e.2⟩
  have e2 := cntC_add (a := a) (b := b) (p := alB a b ts) (q := inS ts) fun i _ e => by
    rw [alB_of (cd_ask hg)] at e
    simpa using e
  rw [cntC_congr (q := fun _ => true) fun i _ => by rw [alB_of (cd_ask hg)]; cases inS ts (cdN a b i) <;> rfl, cntC_all, e1] at e2
  omega

/-- What is left alive. -/
theorem cntC_left {a b : Int} {al : ByteArray → Bool} {s : ByteArray} {N : Nat} (hs : al s = true) : cntC a b (lvK a b al s N) + cntC a b (snU a b al s N) = cntC a b al := by
  rw [← cntC_add (p := lvK a b al s N) (q := snU a b al s N) fun i _ e => by
    unfold lvK at e
    rw [Bool.and_eq_true, Bool.not_eq_true'] at e
    exact e.2]
  refine cntC_congr fun i _ => ?_
  unfold lvK
  cases h : snU a b al s N (cdN a b i)
  · simp
  · obtain ⟨k, _, hk⟩ := snU_iff.1 h
    have : al (cdN a b i) = true := wy_alive hs hk
    simp [this]

end Go.Proofs.Ytilnjlcljjpnmaa
