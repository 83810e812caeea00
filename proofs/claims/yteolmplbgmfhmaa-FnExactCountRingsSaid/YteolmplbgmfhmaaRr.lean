/- How many rings there are, as both programs reckon it. No conditions. -/
import Derived.Test.YteolmplbgmfhmaaRl
import Derived.IntWalk
namespace Go.Proofs.Yteolmplbgmfhmaa
open Go.ChangeShapes Go.WideShapes Go.ChangeAt Go.RowKit Go.Joins

def T0 : Int := 1000000000000001

/-- Times 1, 2, .. k. -/
def crD (x : Int) : Nat → Int
  | 0 => x
  | k + 1 => min (crD x k * ((k : Int) + 1)) T0

def crN (b : Int) (n s : Nat) (x : Int) : Int := if n ≤ s then min (crD x (b - 1).toNat * b) T0 else crD x (b - 1).toNat

def crS (b : Int) (n : Nat) : Nat → Int
  | 0 => 1
  | s + 1 => crN b n s (crS b n s)

/-- The model: d is taken in; v is left to divide by. -/
def byG (d v : Nat) : Nat := if v % d = 0 then 1 else d

def lvG (d v : Nat) : Nat := if v % d = 0 then v / d else v

def gdG (d v : Nat) : Nat := Nat.gcd (byG d v) (lvG d v)

def stG (d : Nat) : Option (Nat × Nat) → Option (Nat × Nat)
  | none => none
  | some (c, v) => if 1000000000000000 / (byG d v / gdG d v) < c then none else some (c * (byG d v / gdG d v), lvG d v / gdG d v)

/-- The digits' numbers 2, 3, .. k + 1. -/
def inG (x : Option (Nat × Nat)) : Nat → Option (Nat × Nat)
  | 0 => x
  | k + 1 => stG (k + 2) (inG x k)

def ouG (b : Int) (all : Nat) : Nat → Option (Nat × Nat)
  | 0 => some (1, all)
  | s + 1 => inG (ouG b all s) (b.toNat - 1)

def okC (b : Int) (n : Nat) : Bool :=
  match ouG b (pw b n).toNat (pw b n / b).toNat with
  | none => decide (1000000000000000 < crS b n (pw b n / b).toNat)
  | some (c, _) => decide (crS b n (pw b n / b).toNat = (c : Int)) && decide (crS b n (pw b n / b).toNat ≤ 1000000000000000)

set_option maxRecDepth 1000000 in
theorem okC_all : ((List.range 9).all fun i => (List.range 7).all fun k => k == 0 || decide (1000 < pw ((i : Int) + 2) k) || okC ((i : Int) + 2) k) = true := by decide +kernel

theorem okC_of {n : Nat} {b : Int} (h : riB n b = true) : okC b n = true := by
  have hg := riB_good h
  have hp := riB_pw h
  obtain ⟨h1, h6, b2, b10⟩ := good_yes hg
  have h := okC_all
  rw [List.all_eq_true] at h
  have h1 := h (b - 2).toNat (by rw [List.mem_range]; omega)
  rw [List.all_eq_true] at h1
  have h2 := h1 n (by rw [List.mem_range]; omega)
  rw [show (((b - 2).toNat : Nat) : Int) + 2 = b by omega, Bool.or_eq_true, Bool.or_eq_true] at h2
  rcases h2 with (h2 | h2) | h2
  · have := eq_of_beq h2; omega
  · have := of_decide_eq_true h2; omega
  · exact h2

/-- There are few codes and not too many rings. -/
def crB (a b : Int) : Bool := riB a b && decide (crS b a.toNat (pw b a.toNat / b).toNat ≤ 1000000000000000)

def crZ (a b : Int) : Int := if crB a b then crS b a.toNat (pw b a.toNat / b).toNat else 0

theorem crD_bd {x : Int} (h0 : 0 ≤ x) (h1 : x ≤ T0) : ∀ k, 0 ≤ crD x k ∧ crD x k ≤ T0
  | 0 => ⟨h0, h1⟩
  | k + 1 => by
    have h := (crD_bd h0 h1 k).1
    have := Int.mul_nonneg h (show (0 : Int) ≤ (k : Int) + 1 by omega)
    have ht : (0 : Int) ≤ T0 := by decide
    rw [crD]
    omega

theorem crS_bd (b : Int) (hb : 0 ≤ b) (n : Nat) : ∀ s, 0 ≤ crS b n s ∧ crS b n s ≤ T0
  | 0 => by rw [crS]; decide
  | s + 1 => by
    obtain ⟨h0, h1⟩ := crS_bd b hb n s
    obtain ⟨d0, d1⟩ := crD_bd h0 h1 (b - 1).toNat
    rw [crS, crN]
    have := Int.mul_nonneg d0 hb
    have ht : (0 : Int) ≤ T0 := by decide
    split <;> omega

theorem cr_yes {a b : Int} (h : riB a b = true) (hx : crS b a.toNat (pw b a.toNat / b).toNat ≤ 1000000000000000) : crB a b = true ∧ crZ a b = crS b a.toNat (pw b a.toNat / b).toNat := by
  have : crB a b = true := by unfold crB; rw [h, decide_eq_true hx]; rfl
  exact ⟨this, by unfold crZ; rw [this]; rfl⟩

theorem cr_not {a b : Int} (hx : 1000000000000000 < crS b a.toNat (pw b a.toNat / b).toNat) : crB a b = false ∧ crZ a b = 0 := by
  have : crB a b = false := by unfold crB; rw [decide_eq_false (by omega), Bool.and_false]
  exact ⟨this, by unfold crZ; rw [this]; rfl⟩

theorem cr_no {a b : Int} (h : riB a b = false) : crB a b = false ∧ crZ a b = 0 := by
  have : crB a b = false := by unfold crB; rw [h]; rfl
  exact ⟨this, by unfold crZ; rw [this]; rfl⟩

set_option maxHeartbeats 2000000 in
theorem countRings_any (a b : Int) (w : World) :
    Calls Try.prog 28 #[.agg #[.int .i64 a, .int .i64 b]] w fun e w' => e = .returned (.tuple #[.int .i64 (crZ a b), .bool (crB a b)]) ∧ Below w.heap.size w w' := by
  by_cases hg : riB a b = true
  · have HG := Lib.hid hg
    obtain ⟨n, rfl⟩ : ∃ n : Nat, a = n := ⟨a.toNat, by have := good_yes (riB_good hg); omega⟩
    obtain ⟨h1, h6, h2, h10⟩ := good_yes (riB_good hg)
    have hp := riB_pw hg
    have hr := rlZ_yes hg
    obtain ⟨p1, _⟩ := pw_bd6 h2 h10 (k := n) (by omega)
    have HE : Hid (∀ x, crS b n (pw b n / b).toNat = x → (x ≤ 1000000000000000 → crB n b = true ∧ crZ n b = x) ∧ (1000000000000000 < x → crB n b = false ∧ crZ n b = 0)) := Lib.hid (fun x hx => by
      subst hx
      exact ⟨fun h => cr_yes (a := (n : Int)) HG.out h, fun h => cr_not (a := (n : Int)) h⟩)
    have s0 := Int.ediv_nonneg (show 0 ≤ pw b n by omega) (show 0 ≤ b by omega)
    have s1 := Int.ediv_le_self b (show 0 ≤ pw b n by omega)
    obtain ⟨S, hS⟩ : ∃ S : Nat, pw b n / b = S := ⟨(pw b n / b).toNat, by omega⟩
    rw [hS] at s0 s1 HE
    rw [Int.toNat_natCast] at HE
    have HS := Lib.hid hS
    clear hg hS
    go_enter Try.func28, Try.ntmps28
    go_wp2_with (go_at_call 39; refine (ringLength_any _ _ _).mono ?_; rw [HG.out, hr]; rintro e w1 ⟨rfl, hb⟩; obtain ⟨hc, hf, hz⟩ := bcell hb; have hz0 : w.heap.size < w1.heap.size := by (try simp at hz); omega)
    have m0 : w1.cell? ⟨w.heap.size, 0, none⟩ = some (.int .i64 n) := by rw [hc _ _ (by simp)]; simp
    have m1 : w1.cell? ⟨w.heap.size, 1, none⟩ = some (.int .i64 b) := by rw [hc _ _ (by simp)]; simp
    have hB : Below w.heap.size w w1 := by (repeat (first | assumption | exact Below.refl _ _ | (refine Below.alloc ?_ (by first | omega | (simp; done) | (simp; omega)) _) | (refine Below.setCell ?_ (by first | omega | (simp; done) | (simp; omega)) _) | refine bel_drewN ?_ _ | refine bel_drew ?_ | (refine bel_call ?_ (by assumption))))
    have hSS := HS.out
    clear hc hf hz hb hz0
    go_wp2
    have HB := Lib.hid hB
    clear hB
    obtain ⟨c, hcb⟩ : ∃ c : Nat, b = (c : Int) + 1 := ⟨(b - 1).toNat, by omega⟩
    have HC : Hid ((b - 1).toNat = c) := Lib.hid (by omega)
    have HCB := Lib.hid hcb
    have c9 : c ≤ 9 := by omega
    clear hcb
    go_loopw [6, 8, 9, 22] (fun v i u j wr => ∃ s : Nat, s ≤ S ∧ j = .int .i64 s ∧ v = .int .i64 (crS b n s) ∧ wr.cell? ⟨w.heap.size, 0, none⟩ = some (.int .i64 n) ∧ wr.cell? ⟨w.heap.size, 1, none⟩ = some (.int .i64 b) ∧ Below w.heap.size w wr) (fun _ _ _ j _ => S - (intOf j).toNat)
    case atStart => exact ⟨0, by omega, rfl, rfl, m0, m1, HB.out⟩
    case round =>
      clear m0 m1
      obtain ⟨s, hs, rfl, rfl, c0, c1, hB⟩ := hrel
      obtain ⟨t0, t1⟩ := crS_bd b (by omega) n s
      by_cases hlt : s < S
      · have HN : Hid (crS b n (s + 1) = if n ≤ s then min (crD (crS b n s) c * b) T0 else crD (crS b n s) c) := Lib.hid (by rw [crS, crN, HC.out])
        have HX := Lib.hid (fun k => crD_bd t0 t1 k)
        generalize crS b n s = x at HN HX
        go_wp2
        go_loopw [6, 9] (fun v u wr => ∃ k : Nat, k ≤ c ∧ u = .int .i64 ((k : Int) + 1) ∧ v = .int .i64 (crD x k) ∧ wr.cell? ⟨w.heap.size, 0, none⟩ = some (.int .i64 n) ∧ wr.cell? ⟨w.heap.size, 1, none⟩ = some (.int .i64 b) ∧ Below w.heap.size w wr) (fun _ u _ => c - (intOf u - 1).toNat)
        case atStart => exact ⟨0, by omega, rfl, rfl, c0, c1, hB⟩
        case round =>
          clear c0 c1 hB
          obtain ⟨k, hk, rfl, rfl, c0, c1, hB⟩ := hrel
          obtain ⟨d0, d1⟩ := HX.out k
          unfold T0 at d1
          by_cases hlk : k < c
          · have HD : Hid (crD x (k + 1) = min (crD x k * ((k : Int) + 1)) 1000000000000001) := Lib.hid rfl
            have q0 := Int.mul_nonneg d0 (show (0 : Int) ≤ (k : Int) + 1 by omega)
            have k1 : (k : Int) + 1 < b := by have := HCB.out; omega
            have q1 : crD x k * ((k : Int) + 1) ≤ 1000000000000001 * 10 := Int.mul_le_mul d1 (by omega) (by omega) (by omega)
            generalize crD x k = d at d0 d1 HD q0 q1
            go_wp2
            go_roundw
            case rel => exact ⟨k + 1, by omega, by go_num, by rw [HD.out]; congr 1; split <;> omega, c0, c1, hB⟩
            case measure => simp [intOf]; omega
          · obtain rfl : k = c := by omega
            have k1 : ¬ (k : Int) + 1 < b := by have := HCB.out; omega
            have q0 := Int.mul_nonneg d0 (show (0 : Int) ≤ b by omega)
            have q1 : crD x k * b ≤ 1000000000000001 * 10 := Int.mul_le_mul d1 (by omega) (by omega) (by omega)
            generalize crD x k = d at d0 d1 HN q0 q1
            by_cases hns : n ≤ s
            · have HM : Hid (crS b n (s + 1) = min (d * b) 1000000000000001) := Lib.hid (by rw [HN.out, if_pos hns]; rfl)
              by_cases hmin : 1000000000000001 < d * b
              · go_wp2
                go_roundw
                case rel => exact ⟨s + 1, by omega, by go_num, by rw [HM.out]; congr 1; omega, c0, c1, hB⟩
                case measure => simp [intOf]; omega
              · go_wp2
                go_roundw
                case rel => exact ⟨s + 1, by omega, by go_num, by rw [HM.out]; congr 1; omega, c0, c1, hB⟩
                case measure => simp [intOf]; omega
            · have HM : Hid (crS b n (s + 1) = d) := Lib.hid (by rw [HN.out, if_neg hns])
              go_wp2
              go_roundw
              case rel => exact ⟨s + 1, by omega, by go_num, by rw [HM.out], c0, c1, hB⟩
              case measure => simp [intOf]; omega
      · obtain rfl : s = S := by omega
        have HF := Lib.hid (HE.out _ rfl)
        generalize crS b n s = x at HF t0 t1
        by_cases hx : x ≤ 1000000000000000
        · go_wp2
          go_ret2
          exact ⟨by rw [(HF.out.1 hx).1, (HF.out.1 hx).2]; rfl, hB⟩
        · go_wp2
          go_ret2
          exact ⟨by rw [(HF.out.2 (by omega)).1, (HF.out.2 (by omega)).2]; rfl, hB⟩
  · have HG := Lib.hid (Bool.eq_false_iff.2 hg)
    have HN := Lib.hid (cr_no HG.out)
    clear hg
    go_enter Try.func28, Try.ntmps28
    go_wp2_with (go_at_call 39; refine (ringLength_any _ _ _).mono ?_; rw [HG.out]; rintro e w1 ⟨rfl, hb⟩; obtain ⟨hc, hf, hz⟩ := bcell hb; have hz0 : w.heap.size < w1.heap.size := by (try simp at hz); omega)
    go_ret2
    refine ⟨by rw [HN.out.1, HN.out.2]; rfl, ?_⟩
    (repeat (first | assumption | exact Below.refl _ _ | (refine Below.alloc ?_ (by first | omega | (simp; done) | (simp; omega)) _) | (refine Below.setCell ?_ (by first | omega | (simp; done) | (simp; omega)) _) | refine bel_drewN ?_ _ | refine bel_drew ?_ | (refine bel_call ?_ (by assumption))))

theorem inG_none : ∀ k, inG none k = none
  | 0 => rfl
  | k + 1 => by rw [inG, inG_none k]; rfl

theorem inG_mono {x : Option (Nat × Nat)} {i : Nat} (h : inG x i = none) : ∀ k, i ≤ k → inG x k = none
  | 0, hk => by obtain rfl : i = 0 := by omega
                exact h
  | k + 1, hk => by
    by_cases e : i = k + 1
    · subst e; exact h
    · rw [inG, inG_mono h k (by omega)]; rfl

theorem ouG_mono {b : Int} {all i : Nat} (h : ouG b all i = none) : ∀ k, i ≤ k → ouG b all k = none
  | 0, hk => by obtain rfl : i = 0 := by omega
                exact h
  | k + 1, hk => by
    by_cases e : i = k + 1
    · subst e; exact h
    · rw [ouG, ouG_mono h k (by omega), inG_none]

structure StG (d c v : Nat) : Prop where
  g1 : 1 ≤ gdG d v
  b1 : 1 ≤ byG d v / gdG d v
  l1 : 1 ≤ lvG d v / gdG d v
  l2 : lvG d v / gdG d v ≤ v
  b2 : byG d v ≤ d
  l0 : 1 ≤ lvG d v
  l3 : lvG d v ≤ v
  y1 : 1 ≤ byG d v

theorem stG_facts {d v : Nat} (hd : 2 ≤ d) (hv : 1 ≤ v) (c : Nat) : StG d c v := by
  have y1 : 1 ≤ byG d v := by unfold byG; split <;> omega
  have l0 : 1 ≤ lvG d v := by
    unfold lvG
    split
    · rename_i h
      have := Nat.div_add_mod v d
      rcases Nat.eq_zero_or_pos (v / d) with e | e
      · rw [e, h] at this; omega
      · exact e
    · exact hv
  have g1 : 1 ≤ gdG d v := Nat.gcd_pos_of_pos_left _ y1
  have l3 : lvG d v ≤ v := by
    unfold lvG
    split
    · exact Nat.div_le_self _ _
    · exact Nat.le_refl _
  exact ⟨g1, Nat.div_pos (Nat.gcd_le_left _ y1) g1, Nat.div_pos (Nat.gcd_le_right _ l0) g1, Nat.le_trans (Nat.div_le_self _ _) l3, by unfold byG; split <;> omega, l0, l3, y1⟩

theorem stG_no {d c v : Nat} (h : 1000000000000000 / (byG d v / gdG d v) < c) : stG d (some (c, v)) = none := by
  rw [stG, if_pos h]

theorem stG_yes {d c v : Nat} (h : ¬ 1000000000000000 / (byG d v / gdG d v) < c) : stG d (some (c, v)) = some (c * (byG d v / gdG d v), lvG d v / gdG d v) := by
  rw [stG, if_neg h]

theorem ring_counts {n : Nat} {b : Int} (h : riB n b = true) :
    (ouG b (pw b n).toNat (pw b n / b).toNat = none → crB n b = false ∧ crZ n b = 0) ∧
    (∀ c v, ouG b (pw b n).toNat (pw b n / b).toNat = some (c, v) → crB n b = true ∧ crZ n b = (c : Int)) := by
  have hk := okC_of h
  unfold okC at hk
  refine ⟨fun e => ?_, fun c v e => ?_⟩
  · rw [e] at hk
    exact cr_not (a := (n : Int)) (of_decide_eq_true hk)
  · rw [e] at hk
    rw [Bool.and_eq_true, decide_eq_true_eq, decide_eq_true_eq] at hk
    have := cr_yes (a := (n : Int)) h hk.2
    exact ⟨this.1, this.2.trans hk.1⟩

set_option maxHeartbeats 4000000 in
theorem specCountRings_any (a b : Int) (w : World) :
    Calls Try.prog 27 #[.agg #[.int .i64 a, .int .i64 b]] w fun e w' => e = .returned (.tuple #[.int .i64 (crZ a b), .bool (crB a b)]) ∧ Below w.heap.size w w' := by
  by_cases hg : riB a b = true
  · have HG := Lib.hid hg
    obtain ⟨n, rfl⟩ : ∃ n : Nat, a = n := ⟨a.toNat, by have := good_yes (riB_good hg); omega⟩
    obtain ⟨h1, h6, h2, h10⟩ := good_yes (riB_good hg)
    have hp := riB_pw hg
    obtain ⟨p1, _⟩ := pw_bd6 h2 h10 (k := n) (by omega)
    have HE := Lib.hid (ring_counts hg)
    have s0 := Int.ediv_nonneg (show 0 ≤ pw b n by omega) (show 0 ≤ b by omega)
    have s1 := Int.ediv_le_self b (show 0 ≤ pw b n by omega)
    obtain ⟨S, hS⟩ : ∃ S : Nat, pw b n / b = S := ⟨(pw b n / b).toNat, by omega⟩
    obtain ⟨V, hV⟩ : ∃ V : Nat, pw b n = V := ⟨(pw b n).toNat, by omega⟩
    rw [hS] at s0 s1 HE
    rw [Int.toNat_natCast] at HE
    rw [hV] at hS p1 hp s1 HE
    rw [Int.toNat_natCast] at HE
    have HS := Lib.hid hS
    have HV := Lib.hid hV
    have HG1 := Lib.hid (riB_good hg)
    obtain ⟨c, hcb⟩ : ∃ c : Nat, b = (c : Int) + 1 := ⟨(b - 1).toNat, by omega⟩
    have HO : Hid (∀ s, ouG b V (s + 1) = inG (ouG b V s) c) := Lib.hid (fun s => by rw [ouG, show b.toNat - 1 = c by omega])
    have HCB := Lib.hid hcb
    have c9 : c ≤ 9 := by omega
    clear hg hS hcb hV
    go_enter Try.func27, Try.ntmps27
    have hSS := HS.out
    go_wp2_with (first | (go_at_call 37; refine (riGood_any _ _ _).mono ?_; rw [HG.out]; rintro e w1 ⟨rfl, hb⟩; obtain ⟨hc, hf, hz⟩ := bcell hb; have hz0 : w.heap.size < w1.heap.size := by (try simp at hz); omega) | (go_at_call 53; refine (whCount_any _ _ _ HG1.out).mono ?_; rw [HV.out]; rintro e w2 ⟨rfl, hb2⟩; have m0 : w2.cell? ⟨w.heap.size, 0, none⟩ = some (.int .i64 n) := (by rw [hb2.cell (p := ⟨w.heap.size, 0, none⟩) hz0, hc _ _ (by simp)]; simp); have m1 : w2.cell? ⟨w.heap.size, 1, none⟩ = some (.int .i64 b) := (by rw [hb2.cell (p := ⟨w.heap.size, 1, none⟩) hz0, hc _ _ (by simp)]; simp); have HB := Lib.hid (show Below w.heap.size w w2 by (repeat (first | assumption | exact Below.refl _ _ | (refine Below.alloc ?_ (by first | omega | (simp; done) | (simp; omega)) _) | (refine Below.setCell ?_ (by first | omega | (simp; done) | (simp; omega)) _) | refine bel_drewN ?_ _ | refine bel_drew ?_ | (refine bel_call ?_ (by assumption))))); clear hc hf hz hb hb2 hz0))
    clear hSS
    go_loopw [5, 6, 7, 8, 9, 10, 11] (fun u5 u6 u7 u8 u9 u10 u11 wr => ∃ s c v : Nat, s ≤ S ∧ u7 = .int .i64 ((S : Int) - s) ∧ u5 = .int .i64 c ∧ u6 = .int .i64 v ∧ ouG b V s = some (c, v) ∧ c ≤ 1000000000000000 ∧ 1 ≤ v ∧ v ≤ 1000 ∧ wr.cell? ⟨w.heap.size, 0, none⟩ = some (.int .i64 n) ∧ wr.cell? ⟨w.heap.size, 1, none⟩ = some (.int .i64 b) ∧ Below w.heap.size w wr) (fun _ _ u7 _ _ _ _ _ => (intOf u7).toNat)
    case atStart => exact ⟨0, 1, V, by omega, by go_num, rfl, rfl, rfl, by omega, by omega, by omega, m0, m1, HB.out⟩
    case round =>
      clear m0 m1 HB
      obtain ⟨s, x, v, hs, rfl, rfl, rfl, ho, hx, hv1, hv2, c0, c1, hB⟩ := hrel
      have HOS := Lib.hid ho
      clear ho
      by_cases hlt : s < S
      · go_wp2
        go_loopw [5, 6, 8, 9, 10, 11] (fun u5 u6 u8 u9 u10 u11 wr => ∃ d x v : Nat, 2 ≤ d ∧ d ≤ c + 2 ∧ u8 = .int .i64 d ∧ u5 = .int .i64 x ∧ u6 = .int .i64 v ∧ inG (ouG b V s) (d - 2) = some (x, v) ∧ x ≤ 1000000000000000 ∧ 1 ≤ v ∧ v ≤ 1000 ∧ wr.cell? ⟨w.heap.size, 0, none⟩ = some (.int .i64 n) ∧ wr.cell? ⟨w.heap.size, 1, none⟩ = some (.int .i64 b) ∧ Below w.heap.size w wr) (fun _ _ u8 _ _ _ _ => c + 2 - (intOf u8).toNat)
        case atStart => exact ⟨2, x, v, by omega, by omega, by go_num, rfl, rfl, HOS.out, hx, hv1, hv2, c0, c1, hB⟩
        case round =>
          clear c0 c1 hB hx hv1 hv2 HOS
          obtain ⟨d, x, v, hd2, hdc, rfl, rfl, rfl, hi, hx, hv1, hv2, c0, c1, hB⟩ := hrel
          have HI := Lib.hid hi
          clear hi
          by_cases hld : d < c + 2
          · have hdb : (d : Int) ≤ b := by have := HCB.out; omega
            have hd10 : d ≤ 10 := by omega
            have HF := Lib.hid (stG_facts hd2 hv1 x)
            have HSTEP : Hid (inG (ouG b V s) (d - 2 + 1) = stG d (some (x, v))) := Lib.hid (by rw [inG, HI.out, show d - 2 + 2 = d by omega])
            go_wp2
            go_loopw [6, 9] (fun u6 u9 wr => ∃ y l : Nat, u9 = .int .i64 y ∧ u6 = .int .i64 l ∧ ((y = d ∧ l = v) ∨ (y = 1 ∧ l = v / d ∧ v % d = 0)) ∧ wr.cell? ⟨w.heap.size, 0, none⟩ = some (.int .i64 n) ∧ wr.cell? ⟨w.heap.size, 1, none⟩ = some (.int .i64 b) ∧ Below w.heap.size w wr) (fun _ u9 _ => (intOf u9).toNat)
            case atStart => exact ⟨d, v, rfl, rfl, .inl ⟨rfl, rfl⟩, c0, c1, hB⟩
            case round =>
              clear c0 c1 hB
              obtain ⟨y, l, rfl, rfl, hyl, c0, c1, hB⟩ := hrel
              have HYL := Lib.hid hyl
              have hy10 : 1 ≤ y ∧ y ≤ 10 := by omega
              have hl1 : l ≤ 1000 := by
                have := Nat.div_le_self v d
                omega
              clear hyl
              by_cases hgo : 1 < y ∧ l % y = 0
              · obtain ⟨g1, g2⟩ := hgo
                have hdi : (l : Int) % (y : Int) = 0 := by omega
                obtain ⟨q, HQ⟩ : ∃ q : Nat, Hid (l / y = q) := ⟨_, Lib.hid rfl⟩
                have hdq : (l : Int) / (y : Int) = (q : Int) := by rw [← HQ.out]; exact (Int.natCast_ediv l y).symm
                have hql : q ≤ 1000 := by
                  have := Nat.div_le_self l y
                  rw [HQ.out] at this
                  omega
                go_wp2
                go_roundw
                case rel =>
                  refine ⟨1, q, rfl, rfl, .inr ⟨rfl, ?_, ?_⟩, c0, c1, hB⟩
                  · rcases HYL.out with ⟨e1, e2⟩ | ⟨e1, _⟩
                    · rw [← HQ.out, e1, e2]
                    · omega
                  · rcases HYL.out with ⟨e1, e2⟩ | ⟨e1, _⟩
                    · rw [← e1, ← e2]; exact g2
                    · omega
                case measure => simp [intOf]; omega
              · have hyb : y = byG d v ∧ l = lvG d v := by
                  unfold byG lvG
                  rcases HYL.out with ⟨e1, e2⟩ | ⟨e1, e2, e3⟩
                  · have : ¬ v % d = 0 := fun h => hgo ⟨by omega, by rw [e1, e2]; exact h⟩
                    rw [if_neg this, if_neg this]
                    exact ⟨e1, e2⟩
                  · rw [if_pos e3, if_pos e3]
                    exact ⟨e1, e2⟩
                obtain ⟨hy, hl⟩ := hyb
                have HY := Lib.hid hy
                have HL := Lib.hid hl
                have hdi : ¬ 1 < (y : Int) ∨ (1 < (y : Int) ∧ ¬ (l : Int) % (y : Int) = 0) := by omega
                have HG2 : Hid (Nat.gcd y l = gdG d v) := Lib.hid (by rw [HY.out, HL.out]; rfl)
                clear hgo hy hl HYL
                rcases hdi with hdi | ⟨hdi1, hdi2⟩
                all_goals
                  go_wp2
                  go_loopw [10, 11] (fun u10 u11 wr => ∃ p q : Nat, u10 = .int .i64 p ∧ u11 = .int .i64 q ∧ Nat.gcd p q = gdG d v ∧ p ≤ 1000 ∧ q ≤ 1000 ∧ wr.cell? ⟨w.heap.size, 0, none⟩ = some (.int .i64 n) ∧ wr.cell? ⟨w.heap.size, 1, none⟩ = some (.int .i64 b) ∧ Below w.heap.size w wr) (fun _ u11 _ => (intOf u11).toNat)
                  case atStart => exact ⟨y, l, rfl, rfl, HG2.out, by omega, hl1, c0, c1, hB⟩
                  case round =>
                    clear c0 c1 hB
                    obtain ⟨p, q, rfl, rfl, hgc, hp10, hq10, c0, c1, hB⟩ := hrel
                    have HGC := Lib.hid hgc
                    clear hgc
                    by_cases hq0 : 0 < q
                    · obtain ⟨r, HR⟩ : ∃ r : Nat, Hid (p % q = r) := ⟨_, Lib.hid rfl⟩
                      have hrq : (p : Int) % (q : Int) = (r : Int) := by rw [← HR.out]; exact (Int.natCast_emod p q).symm
                      have hr0 : r < q := by rw [← HR.out]; exact Nat.mod_lt _ hq0
                      have HGG : Hid (Nat.gcd q r = gdG d v) := Lib.hid (by rw [← HGC.out, ← HR.out, Nat.gcd_comm p q, Nat.gcd_rec q p, Nat.gcd_comm])
                      go_wp2
                      go_quiet (fail)
                      go_wp2
                      go_roundw
                      case rel => exact ⟨q, r, rfl, congrArg (Value.int .i64) hrq, HGG.out, by omega, by omega, c0, c1, bel_drewN hB _⟩
                      case measure => simp [intOf]; omega
                    · obtain rfl : q = 0 := by omega
                      have HP : Hid (p = gdG d v) := Lib.hid (by rw [← HGC.out, Nat.gcd_zero_right])
                      have hp1 : 1 ≤ p := by rw [HP.out]; exact HF.out.g1
                      obtain ⟨y2, HY2⟩ : ∃ y2 : Nat, Hid (y / p = y2) := ⟨_, Lib.hid rfl⟩
                      obtain ⟨l2, HL2⟩ : ∃ l2 : Nat, Hid (l / p = l2) := ⟨_, Lib.hid rfl⟩
                      have hy2 : (y : Int) / (p : Int) = (y2 : Int) := by rw [← HY2.out]; exact (Int.natCast_ediv y p).symm
                      have hl2 : (l : Int) / (p : Int) = (l2 : Int) := by rw [← HL2.out]; exact (Int.natCast_ediv l p).symm
                      have hy21 : 1 ≤ y2 := by rw [← HY2.out, HP.out, HY.out]; exact HF.out.b1
                      have hy22 : y2 ≤ 10 := by
                        have := Nat.div_le_self y p
                        rw [HY2.out] at this
                        omega
                      have hl21 : 1 ≤ l2 := by rw [← HL2.out, HP.out, HL.out]; exact HF.out.l1
                      have hl22 : l2 ≤ 1000 := by
                        have := Nat.div_le_self l p
                        rw [HL2.out] at this
                        omega
                      obtain ⟨M, HM⟩ : ∃ M : Nat, Hid (1000000000000000 / y2 = M) := ⟨_, Lib.hid rfl⟩
                      have hM : (1000000000000000 : Int) / (y2 : Int) = (M : Int) := by rw [← HM.out]; exact (Int.natCast_ediv 1000000000000000 y2).symm
                      have hM1 : M ≤ 1000000000000000 := by rw [← HM.out]; exact Nat.div_le_self _ _
                      have HYD : Hid (byG d v / gdG d v = y2) := Lib.hid (by rw [← HY2.out, HP.out, HY.out])
                      have HLD : Hid (lvG d v / gdG d v = l2) := Lib.hid (by rw [← HL2.out, HP.out, HL.out])
                      by_cases hbig : M < x
                      · have HN : Hid (ouG b V S = none) := Lib.hid (by
                          have e1 : inG (ouG b V s) (d - 2 + 1) = none := by rw [HSTEP.out]; exact stG_no (by rw [HYD.out, HM.out]; exact hbig)
                          have e2 := inG_mono e1 c (by omega)
                          rw [← HO.out] at e2
                          exact ouG_mono e2 S (by omega))
                        go_wp2
                        go_ret2
                        exact ⟨by rw [(HE.out.1 HN.out).1, (HE.out.1 HN.out).2]; rfl, hB⟩
                      · have hxm : x * y2 ≤ 1000000000000000 := by
                          have := (Nat.le_div_iff_mul_le (x := x) (y := 1000000000000000) hy21).1 (by rw [HM.out]; omega)
                          exact this
                        obtain ⟨z, HZ⟩ : ∃ z : Nat, Hid (x * y2 = z) := ⟨_, Lib.hid rfl⟩
                        have hz2 : (x : Int) * (y2 : Int) = (z : Int) := by rw [← HZ.out]; exact (Int.natCast_mul x y2).symm
                        rw [HZ.out] at hxm
                        have HN : Hid (inG (ouG b V s) (d + 1 - 2) = some (z, l2)) := Lib.hid (by
                          rw [show d + 1 - 2 = d - 2 + 1 by omega, HSTEP.out, stG_yes (by rw [HYD.out, HM.out]; exact hbig), HYD.out, HLD.out, HZ.out])
                        go_wp2
                        go_roundw
                        case rel => exact ⟨d + 1, z, l2, by omega, by omega, by go_num, rfl, rfl, HN.out, hxm, hl21, hl22, c0, c1, hB⟩
                        case measure => simp [intOf]; omega
          · obtain rfl : d = c + 2 := by omega
            have hdb : ¬ ((c + 2 : Nat) : Int) ≤ b := by have := HCB.out; omega
            have HN : Hid (ouG b V (s + 1) = some (x, v)) := Lib.hid (by rw [HO.out, ← HI.out, show c + 2 - 2 = c by omega])
            go_wp2
            go_roundw
            case rel => exact ⟨s + 1, x, v, by omega, by go_num, rfl, rfl, HN.out, hx, hv1, hv2, c0, c1, hB⟩
            case measure => simp [intOf]; omega
      · obtain rfl : s = S := by omega
        have HF := Lib.hid (HE.out.2 _ _ HOS.out)
        go_wp2
        go_ret2
        exact ⟨by rw [HF.out.1, HF.out.2]; rfl, hB⟩
  · have HG := Lib.hid (Bool.eq_false_iff.2 hg)
    have HN := Lib.hid (cr_no HG.out)
    clear hg
    go_enter Try.func27, Try.ntmps27
    go_wp2_with (first | (go_at_call 37; refine (riGood_any _ _ _).mono ?_; rw [HG.out]; rintro e w1 ⟨rfl, hb⟩; obtain ⟨hc, hf, hz⟩ := bcell hb; have hz0 : w.heap.size < w1.heap.size := by (try simp at hz); omega))
    go_ret2
    refine ⟨by rw [HN.out.1, HN.out.2]; rfl, ?_⟩
    (repeat (first | assumption | exact Below.refl _ _ | (refine Below.alloc ?_ (by first | omega | (simp; done) | (simp; omega)) _) | (refine Below.setCell ?_ (by first | omega | (simp; done) | (simp; omega)) _) | refine bel_drewN ?_ _ | refine bel_drew ?_ | (refine bel_call ?_ (by assumption))))

end Go.Proofs.Yteolmplbgmfhmaa
