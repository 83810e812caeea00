/- Knobs that are not needed: without one, the same codes are reached, or at most half of them; how the model and the program find them. For at most 1000 codes. -/
import Derived.Test.YtejpcbkhlnjlfaaFarL
import Derived.Test.YtejpcbkhlnjlfaaDropI
import Derived.Test.YtejpcbkhlnjlfaaClasses
namespace Go.Proofs.Ytejpcbkhlnjlfaa
set_option maxRecDepth 100000
open Go.ChangeShapes Go.WideShapes Go.ChangeAt Go.RowKit Go.Joins

theorem nodup_sub {α : Type} [DecidableEq α] : ∀ (l m : List α), l.Nodup → (∀ x, x ∈ l → x ∈ m) → l.length ≤ m.length
  | [], _, _, _ => Nat.zero_le _
  | x :: l, m, hn, hs => by
    rw [List.nodup_cons] at hn
    have h1 := nodup_sub l (m.erase x) hn.2 fun y hy => (List.mem_erase_of_ne (fun e => hn.1 (by rw [← e]; exact hy))).2 (hs y (List.mem_cons_of_mem _ hy))
    have h2 := List.length_erase_of_mem (hs x (List.mem_cons_self ..))
    have h3 := List.length_pos_of_mem (hs x (List.mem_cons_self ..))
    rw [List.length_cons]
    omega

/-- Gears without the knob at a place. -/
def woK (ks : List (List Int)) (k : Nat) : List (List Int) := ks.take k ++ ks.drop (k + 1)

theorem woK_length {ks : List (List Int)} {k : Nat} (hk : k < ks.length) : (woK ks k).length + 1 = ks.length := by
  unfold woK
  rw [List.length_append, List.length_take, List.length_drop]
  omega

theorem woK_at {ks : List (List Int)} {k i : Nat} (hk : k < ks.length) : (woK ks k).getD i [] = ks.getD (if i < k then i else i + 1) [] := by
  unfold woK
  have hl : (ks.take k).length = k := by rw [List.length_take]; omega
  by_cases h : i < k
  · rw [if_pos h]
    simp only [List.getD, List.getElem?_append_left (show i < (ks.take k).length by omega), List.getElem?_take, if_pos h]
  · rw [if_neg h]
    simp only [List.getD, List.getElem?_append_right (show (ks.take k).length ≤ i by omega), hl, List.getElem?_drop]
    rw [show k + 1 + (i - k) = i + 1 by omega]

def upJ (k j : Nat) : Nat := if j / 2 < k then j else j + 2

theorem mvK_up {b : Int} {ks : List (List Int)} {k j : Nat} {x : ByteArray} (hk : k < ks.length) : mvK b (woK ks k) x j = mvK b ks x (upJ k j) := by
  unfold mvK upJ
  rw [woK_at hk]
  by_cases h : j / 2 < k
  · rw [if_pos h, if_pos h]
  · rw [if_neg h, if_neg h]
    have e1 : byJ (j + 2) = byJ j := by unfold byJ; rw [show (j + 2) % 2 = j % 2 by omega]
    rw [e1, show (j + 2) / 2 = j / 2 + 1 by omega]

theorem knobs_wo {a b : Int} {ks : List (List Int)} {k : Nat} (hk : k < ks.length) (h : KnobsB a b ks) : KnobsB a b (woK ks k) := fun i hi => by
  rw [woK_at hk]
  have := woK_length hk
  exact h _ (by split <;> omega)

theorem walk_up {b : Int} {ks : List (List Int)} {k : Nat} {x : ByteArray} (hk : k < ks.length) : ∀ u : List Nat, walkR (mvK b (woK ks k)) x u = walkR (mvK b ks) x (u.map (upJ k))
  | [] => rfl
  | j :: u => by rw [List.map_cons, walkR, walkR, walk_up hk u, mvK_up hk]

theorem reach_up {b : Int} {ks : List (List Int)} {k : Nat} {x y : ByteArray} (hk : k < ks.length) (h : ReachK b (woK ks k) x y) : ReachK b ks x y := by
  obtain ⟨u, hu, rfl⟩ := h
  refine ⟨u.map (upJ k), fun j hj => ?_, (walk_up hk u).symm⟩
  obtain ⟨i, hi, rfl⟩ := List.mem_map.1 hj
  have h1 := hu i hi
  have h2 := woK_length hk
  unfold upJ
  split <;> omega

theorem reach_trans {b : Int} {ks : List (List Int)} {x y z : ByteArray} (h1 : ReachK b ks x y) (h2 : ReachK b ks y z) : ReachK b ks x z := by
  obtain ⟨u, hu, rfl⟩ := h1
  obtain ⟨v, hv, rfl⟩ := h2
  exact ⟨v ++ u, fun j hj => (List.mem_append.1 hj).elim (hv j) (hu j), by rw [walkR_append]⟩

/-- Turns of some knobs and of others may be told in any order. -/
theorem walks_comm {a b : Int} {ks zs : List (List Int)} (hk : KnobsB a b ks) (hz : KnobsB a b zs) {s : ByteArray} (hs : askB a b s = true) {u : List Nat} (hu : ∀ j, j ∈ u → j < 2 * zs.length) :
    ∀ p : List Nat, (∀ j, j ∈ p → j < 2 * ks.length) → walkR (mvK b ks) (walkR (mvK b zs) s u) p = walkR (mvK b zs) (walkR (mvK b ks) s p) u
  | [], _ => rfl
  | j :: p, hp => by
    have hp' : ∀ i, i ∈ p → i < 2 * ks.length := fun i hi => hp i (List.mem_cons_of_mem _ hi)
    have hj := hp j (List.mem_cons_self ..)
    rw [walkR, walks_comm hk hz hs hu p hp', walkR]
    exact walk_comm hz (hk _ (by omega)) (walkR_keep (backK hk) hs p hp') u hu

theorem walk_inj {a b : Int} {ks : List (List Int)} (hk : KnobsB a b ks) {x y : ByteArray} (hx : askB a b x = true) (hy : askB a b y = true) : ∀ p : List Nat, (∀ j, j ∈ p → j < 2 * ks.length) → walkR (mvK b ks) x p = walkR (mvK b ks) y p → x = y
  | [], _, h => h
  | j :: p, hp, h => by
    have hp' : ∀ i, i ∈ p → i < 2 * ks.length := fun i hi => hp i (List.mem_cons_of_mem _ hi)
    have hj := hp j (List.mem_cons_self ..)
    have hb := backK hk
    rw [walkR, walkR] at h
    have h1 : mvK b ks (mvK b ks (walkR (mvK b ks) x p) j) (invJ j) = mvK b ks (mvK b ks (walkR (mvK b ks) y p) j) (invJ j) := by rw [h]
    rw [hb.back _ j (walkR_keep hb hx p hp') hj, hb.back _ j (walkR_keep hb hy p hp') hj] at h1
    exact walk_inj hk hx hy p hp' h1

theorem half_reach {a b : Int} {ks : List (List Int)} {k : Nat} {z : ByteArray} (hkn : k < ks.length) (hk : KnobsB a b ks) (hz : askB a b z = true) :
    (allL a b (woK ks k) z).length = (allL a b ks z).length ∨ 2 * (allL a b (woK ks k) z).length ≤ (allL a b ks z).length := by
  have hw := knobs_wo hkn hk
  have hA := allL_all hk hz
  have hB := allL_all hw hz
  have rA : ∀ t, t ∈ keysE (allL a b ks z) ↔ ReachK b ks z t := fun t => hA.reach rfl
  have rB : ∀ t, t ∈ keysE (allL a b (woK ks k) z) ↔ ReachK b (woK ks k) z t := fun t => hB.reach rfl
  have lA : (keysE (allL a b ks z)).length = (allL a b ks z).length := by unfold keysE; rw [List.length_map]
  have lB : (keysE (allL a b (woK ks k) z)).length = (allL a b (woK ks k) z).length := by unfold keysE; rw [List.length_map]
  rw [← lA, ← lB]
  have sub : ∀ x, x ∈ keysE (allL a b (woK ks k) z) → x ∈ keysE (allL a b ks z) := fun x hx => (rA x).2 (reach_up hkn ((rB x).1 hx))
  by_cases hall : ∀ x, x ∈ keysE (allL a b ks z) → x ∈ keysE (allL a b (woK ks k) z)
  · left
    have h1 := nodup_sub _ _ hA.nodup hall
    have h2 := nodup_sub _ _ hB.nodup sub
    omega
  · right
    obtain ⟨h, hh⟩ := Classical.not_forall.1 hall
    obtain ⟨h1, h2⟩ := Classical.not_imp.1 hh
    obtain ⟨p, hp, hpe⟩ := (rA h).1 h1
    have askR : ∀ x, ReachK b (woK ks k) z x → askB a b x = true := fun x hx => by
      obtain ⟨u, hu, rfl⟩ := hx
      exact walkR_keep (backK hw) hz u hu
    have hn : (keysE (allL a b (woK ks k) z) ++ (keysE (allL a b (woK ks k) z)).map (fun x => walkR (mvK b ks) x p)).Nodup := by
      rw [List.nodup_append]
      refine ⟨hB.nodup, ?_, ?_⟩
      · rw [List.Nodup, List.pairwise_map]
        refine List.Pairwise.imp_of_mem (fun {x y} hx hy hne e => hne ?_) hB.nodup
        exact walk_inj hk (askR x ((rB x).1 hx)) (askR y ((rB y).1 hy)) p hp e
      · intro x hx y hy e
        obtain ⟨x', hx', rfl⟩ := List.mem_map.1 hy
        subst e
        obtain ⟨u, hu, rfl⟩ := (rB x').1 hx'
        have h3 : ReachK b (woK ks k) z (walkR (mvK b ks) (walkR (mvK b (woK ks k)) z u) p) := (rB _).1 hx
        rw [walks_comm hk hw hz hu p hp, hpe] at h3
        have ha : askB a b h = true := by rw [← hpe]; exact walkR_keep (backK hk) hz p hp
        have h4 : ReachK b (woK ks k) (walkR (mvK b (woK ks k)) h u) h := ReachK.back hw ha ⟨u, hu, rfl⟩
        exact h2 ((rB h).2 (reach_trans h3 h4))
    have h3 := nodup_sub _ (keysE (allL a b ks z)) hn fun x hx => by
      rcases List.mem_append.1 hx with hx | hx
      · exact sub x hx
      · obtain ⟨x', hx', rfl⟩ := List.mem_map.1 hx
        exact (rA _).2 (reach_trans (reach_up hkn ((rB x').1 hx')) ⟨p, hp, rfl⟩)
    rw [List.length_append, List.length_map] at h3
    omega

/-- So there are as many classes only where the same codes are reached. -/
theorem classes_eq {M R S : Nat} (hS : 1 ≤ S) (hR : R ≤ M) (h1 : 1 ≤ R) (h : S = R ∨ 2 * S ≤ R) : M / S = M / R ↔ S = R := by
  refine ⟨fun e => ?_, fun e => by rw [e]⟩
  rcases h with h | h
  · exact h
  · exfalso
    have h2 : 1 ≤ M / R := (Nat.le_div_iff_mul_le (by omega)).2 (by omega)
    have h3 : 2 * (M / R) ≤ M / S := by
      rw [Nat.le_div_iff_mul_le (by omega)]
      calc 2 * (M / R) * S = (M / R) * (2 * S) := by rw [Nat.mul_comm 2 (M / R), Nat.mul_assoc]
        _ ≤ (M / R) * R := Nat.mul_le_mul_left _ h
        _ ≤ M := Nat.div_mul_le_self M R
    omega


def zeroS (a : Int) : ByteArray := textOf (List.replicate a.toNat 0)

/-- Whether the same codes are reached without a knob. -/
def ndP (a b : Int) (ks : List (List Int)) (k : Nat) : Bool := decide (2 ≤ ks.length) && decide ((allL a b (woK ks k) (zeroS a)).length = (allL a b ks (zeroS a)).length)

def ndL (a b : Int) (ks : List (List Int)) : Nat → List Int
  | 0 => []
  | k + 1 => if ndP a b ks k then ndL a b ks k ++ [(k : Int)] else ndL a b ks k

theorem ndL_length (a b : Int) (ks : List (List Int)) (k : Nat) : (ndL a b ks k).length ≤ k := by
  induction k with
  | zero => exact Nat.le_refl _
  | succ k ih =>
    rw [ndL]
    split
    · rw [List.length_append, List.length_singleton]; omega
    · omega

def ndZ (a b : Int) (ks : List (List Int)) : List Int := if gearsB a b ks then ndL a b ks ks.length else []

theorem gears_wo {a b : Int} {ks : List (List Int)} {k : Nat} (h : gearsB a b ks = true) (h2 : 2 ≤ ks.length) (hk : k < ks.length) : gearsB a b (woK ks k) = true := by
  have hy := gearsB_yes h
  have hl := woK_length hk
  have hw := knobs_wo hk (gears_knobs h)
  unfold gearsB
  rw [hy.1, decide_eq_true hy.2.1, Bool.true_and, Bool.true_and, Bool.and_eq_true]
  refine ⟨by unfold inB; rw [decide_eq_true_eq]; omega, ?_⟩
  rw [List.all_eq_true]
  intro x hx
  obtain ⟨i, hi, rfl⟩ := List.getElem_of_mem hx
  have := hw i hi
  simp only [List.getD, List.getElem?_eq_getElem hi, Option.getD_some] at this
  exact this

theorem wrap64_low {x : Int} (h0 : 0 ≤ x) (h1 : x ≤ 1000) : wrap64 x = x := by
  unfold wrap64
  omega

theorem cc_eq {a b : Int} {ks : List (List Int)} {k : Nat} (h : gearsB a b ks = true) (h2 : 2 ≤ ks.length) (hk : k < ks.length) : (ccZ a b (woK ks k) == ccZ a b ks) = ndP a b ks k := by
  have hw := gears_wo h h2 hk
  have hy := gearsB_yes h
  have hK := gears_knobs h
  have hc := (gears_cnt h).1
  obtain ⟨an, rfl⟩ : ∃ an : Nat, a = an := ⟨a.toNat, by have := good_yes hy.1; omega⟩
  have hz : askB an b (zeroS an) = true := zero_ask hy.1
  have hR := ask_length (allL_all hK hz).nodup (allL_ask hK hz)
  have hR1 := allL_pos an b hK hz
  have hS := ask_length (allL_all (knobs_wo hk hK) hz).nodup (allL_ask (knobs_wo hk hK) hz)
  have hS1 := allL_pos an b (knobs_wo hk hK) hz
  have hq := classes_eq hS1 hR hR1 (half_reach hk hK hz)
  unfold ndP ccZ
  rw [if_pos hw, if_pos h, decide_eq_true h2, Bool.true_and]
  change (wrap64 ((cntN an b : Int) / ((allL an b (woK ks k) (zeroS an)).length : Int)) == wrap64 ((cntN an b : Int) / ((allL an b ks (zeroS an)).length : Int))) = _
  generalize (allL (an : Int) b (woK ks k) (zeroS an)).length = S at *
  generalize (allL (an : Int) b ks (zeroS an)).length = R at *
  generalize cntN an b = M at *
  have e1 : (M : Int) / (S : Int) = ((M / S : Nat) : Int) := rfl
  have e2 : (M : Int) / (R : Int) = ((M / R : Nat) : Int) := rfl
  have d1 := Nat.div_le_self M S
  have d2 := Nat.div_le_self M R
  rw [e1, e2]
  generalize M / S = x at *
  generalize M / R = y at *
  rw [wrap64_low (by omega) (by omega), wrap64_low (by omega) (by omega), Bool.eq_iff_iff, beq_iff_eq, decide_eq_true_eq, ← hq]
  omega

theorem woAt_woK {ks : List (List Int)} {k n : Nat} (hn : ks.length = n) (hk : k < n) : woAt ks k n = woK ks k := by
  subst hn
  rw [woAt_split ks hk ks.length (Nat.le_refl _) hk, List.take_of_length_le (by rw [List.length_drop]; exact Nat.le_refl _ : (ks.drop (k + 1)).length ≤ ks.length - (k + 1))]
  rfl

theorem RowG.knobsC {w : World} {B n c : Nat} {A : Option Addr} {ks : List (List Int)} {G Cp : Nat → Nat} (h : RowG w B (.slice A n c) ks G Cp) (hl : ks.length = n) : KnobsC w A n ks := by
  subst hl
  refine ⟨rfl, ?_⟩
  rcases Nat.eq_zero_or_pos ks.length with h0 | h0
  · exact .inl h0
  · right
    obtain ⟨g, c', e, hb, hlt⟩ := h.own.form h0
    cases e
    refine ⟨g, 0, rfl, hlt, fun k hk => ⟨G k, Cp k, ?_, (h.row k hk).2.2⟩⟩
    rw [Nat.zero_add, h.own.cellAt k (by omega)]
    simp [rowV, hk]

/-- A list of numbers in a block between two bounds, or an empty one. -/
def LI (w : World) (lo hi : Nat) (A : Option Addr) (xs : List Int) : Prop :=
  xs.length ≤ 1000 ∧ (xs.length = 0 ∨ ∃ g, A = some ⟨g, 0, none⟩ ∧ lo ≤ g ∧ g < hi ∧ Cells w g xs.length (digF xs))

/-- Its marks. -/
def LIM (w : World) (lo hi : Nat) (A : Option Addr) (xs : List Int) : Prop :=
  xs.length ≤ 1000 ∧ (xs.length = 0 ∨ ∃ g, A = some ⟨g, 0, none⟩ ∧ lo ≤ g ∧ g < hi ∧ Cells w g xs.length (upF 1))

theorem LI.ints {w : World} {lo hi : Nat} {A : Option Addr} {xs : List Int} (h : LI w lo hi A xs) : IntsA w A xs.length xs := by
  rcases h.2 with h0 | ⟨g, rfl, _, _, hC⟩
  · exact ⟨rfl, .inl h0⟩
  · exact IntsA.of_cells rfl hC

theorem LI.wide {w : World} {lo hi lo2 hi2 : Nat} {A : Option Addr} {xs : List Int} (h : LI w lo hi A xs) (h1 : lo2 ≤ lo) (h2 : hi ≤ hi2) : LI w lo2 hi2 A xs :=
  ⟨h.1, h.2.imp id fun ⟨g, e, a1, a2, hC⟩ => ⟨g, e, by omega, by omega, hC⟩⟩

theorem LI.call {w w' : World} {lo hi : Nat} {A : Option Addr} {xs : List Int} (h : LI w lo hi A xs) (hb : Below w.heap.size w w') : LI w' lo hi A xs :=
  ⟨h.1, h.2.imp id fun ⟨g, e, h1, h2, hC⟩ => ⟨g, e, h1, h2, hC.call hb⟩⟩

theorem LIM.call {w w' : World} {lo hi : Nat} {A : Option Addr} {xs : List Int} (h : LIM w lo hi A xs) (hb : Below w.heap.size w w') : LIM w' lo hi A xs :=
  ⟨h.1, h.2.imp id fun ⟨g, e, h1, h2, hC⟩ => ⟨g, e, h1, h2, hC.call hb⟩⟩

theorem LI.below {w w' : World} {lo hi B : Nat} {A : Option Addr} {xs : List Int} (h : LI w lo hi A xs) (hb : Below B w w') (hB : hi ≤ B) : LI w' lo hi A xs :=
  ⟨h.1, h.2.imp id fun ⟨g, e, h1, h2, hC⟩ => ⟨g, e, h1, h2, hC.below hb (by omega)⟩⟩

theorem LI.keep {w w' : World} {lo hi lo2 hi2 : Nat} {A : Option Addr} {xs : List Int} (h : LI w lo hi A xs) (hd : hi ≤ lo2 ∨ hi2 ≤ lo) (hk : ∀ g' m f', ¬ (lo2 ≤ g' ∧ g' < hi2) → Cells w g' m f' → Cells w' g' m f') : LI w' lo hi A xs :=
  ⟨h.1, h.2.imp id fun ⟨g, e, h1, h2, hC⟩ => ⟨g, e, h1, h2, hk _ _ _ (by omega) hC⟩⟩

theorem markI_zero (A : Option Addr) (c : Nat) (w : World) :
    Calls Try.prog 49 #[.slice A 0 c, .int .i64 1] w fun e w' => e = .returned (.int .i64 1) ∧ w = w' := by
  go_enter Try.func49, Try.ntmps49
  go_wp2_with fail
  go_loop [1, 5] (fun m i => m = .int .i64 1 ∧ i = .int .i64 0) (fun _ _ => 0)
  case atStart => exact ⟨rfl, rfl⟩
  case round =>
    obtain ⟨rfl, rfl⟩ := hrel
    go_wp2_with fail
    go_ret
    exact ⟨rfl, rfl⟩

theorem heldI_zero (A : Option Addr) (c : Nat) (w : World) :
    Calls Try.prog 50 #[.slice A 0 c, .int .i64 1] w fun e w' => e = .returned (.int .i64 1) ∧ w = w' := by
  go_enter Try.func50, Try.ntmps50
  go_wp2_with fail
  go_loop [1, 5] (fun m i => m = .int .i64 1 ∧ i = .int .i64 0) (fun _ _ => 0)
  case atStart => exact ⟨rfl, rfl⟩
  case round =>
    obtain ⟨rfl, rfl⟩ := hrel
    go_wp2_with fail
    go_ret
    exact ⟨rfl, rfl⟩

theorem eqLI_any (A1 A2 : Option Addr) (c1 c2 lo1 hi1 lo2 hi2 : Nat) (xs : List Int) (w : World) (h1 : LI w lo1 hi1 A1 xs) (h2 : LI w lo2 hi2 A2 xs) :
    Calls Try.prog 33 #[.slice A1 xs.length c1, .slice A2 xs.length c2] w fun e w' => e = .returned (.bool true) ∧ Below w.heap.size w w' :=
  eqIntS_any A1 A2 xs.length c1 c2 xs w (by have := h1.1; omega) h1.ints h2.ints

theorem markLI_any (A : Option Addr) (c lo hi : Nat) (xs : List Int) (w : World) (h : LI w lo hi A xs) :
    Calls Try.prog 49 #[.slice A xs.length c, .int .i64 1] w fun e w' => e = .returned (.int .i64 ((1 + xs.length : Nat) : Int)) ∧ LIM w' lo hi A xs ∧ w.heap.size ≤ w'.heap.size ∧ ∀ B, B ≤ lo → Below B w w' := by
  rcases h with ⟨h0, h | ⟨g, rfl, h1, h2, hC⟩⟩
  · rw [h]
    refine (markI_zero A c w).mono ?_
    rintro e w' ⟨rfl, rfl⟩
    exact ⟨rfl, ⟨h0, .inl h⟩, Nat.le_refl _, fun B _ => Below.refl _ _⟩
  · refine (markIntS_any g xs.length c 1 _ w (by omega) hC).mono ?_
    rintro e w' ⟨rfl, hM, hz, hB, _⟩
    exact ⟨rfl, ⟨h0, .inr ⟨g, rfl, h1, h2, hM⟩⟩, hz, fun B hB' => hB B (by omega)⟩

theorem heldLI_any (A : Option Addr) (c lo hi : Nat) (xs : List Int) (w : World) (h : LIM w lo hi A xs) :
    Calls Try.prog 50 #[.slice A xs.length c, .int .i64 1] w fun e w' => e = .returned (.int .i64 ((1 + xs.length : Nat) : Int)) ∧ Below w.heap.size w w' := by
  rcases h with ⟨h0, h | ⟨g, rfl, h1, h2, hC⟩⟩
  · rw [h]
    refine (heldI_zero A c w).mono ?_
    rintro e w' ⟨rfl, rfl⟩
    exact ⟨rfl, Below.refl _ _⟩
  · refine (heldIntS_any g xs.length c 1 w (by omega) hC).mono ?_
    rintro e w' ⟨rfl, rfl⟩
    exact ⟨rfl, Below.refl _ _⟩

/-- A list of numbers handed back, and whether it has been found. -/
def IntsL (w : World) (xs : List Int) (ok : Bool) (e : Ending) (w' : World) : Prop :=
  ∃ A c, e = .returned (.tuple #[.slice A xs.length c, .bool ok]) ∧ LI w' w.heap.size w'.heap.size A xs ∧ Below w.heap.size w w'

theorem IntsL.li {w w' : World} {xs : List Int} {ok : Bool} {e : Ending} (h : IntsL w xs ok e w') :
    ∃ A c, e = .returned (.tuple #[.slice A xs.length c, .bool ok]) ∧ LI w' w.heap.size w'.heap.size A xs ∧ Below w.heap.size w w' := h

theorem ints_none {w w' : World} (hb : Below w.heap.size w w') : IntsL w [] false (.returned (.tuple #[.slice none 0 0, .bool false])) w' :=
  ⟨none, 0, rfl, ⟨by decide, .inl rfl⟩, hb⟩

theorem LI.of_row {w : World} {B : Nat} {v : Value} {xs : List Int} (h : w.ownsRow B 3 1 v xs.length (iv xs)) (hl : xs.length ≤ 1000) : ∃ A c, v = .slice A xs.length c ∧ LI w B w.heap.size A xs := by
  rcases Nat.eq_zero_or_pos xs.length with h0 | h0
  · rcases h.2 with ⟨rfl, _⟩ | ⟨g, cap, cur, rfl, _⟩
    · exact ⟨none, 0, by rw [h0], hl, .inl h0⟩
    · exact ⟨_, cap, rfl, hl, .inl h0⟩
  · obtain ⟨g, c, rfl, hb, hC⟩ := own_ints (xs := xs) (n := xs.length) h (by
      rintro rfl
      rcases h.2 with ⟨_, h1⟩ | ⟨g, cap, cur, e, _⟩
      · omega
      · cases e)
    exact ⟨_, c, rfl, hl, .inr ⟨g, rfl, hb, hC.lt, hC⟩⟩


set_option maxHeartbeats 4000000 in
theorem specNeedless_any (a b : Int) (A : Option Addr) (n c : Nat) (ks : List (List Int)) (w : World) (hm : n + lensAt ks n ≤ 1048576) (hA : KnobsC w A n ks) :
    Calls Try.prog 53 #[.agg #[.int .i64 a, .int .i64 b, .slice A n c]] w (IntsL w (ndZ a b ks) (gearsB a b ks)) := by
  obtain ⟨i0, hi, hy0, hy1, hy2⟩ := info_parts info_int
  have HA := Lib.hid hA
  have HN := Lib.hid hA.len
  have G0 := gs_new w a b A n c
  clear hA
  by_cases hg : gearsB a b ks = true
  · have HG := Lib.hid hg
    have HK := Lib.hid (gears_knobs hg)
    have HGB := Lib.hid (gearsB_yes hg).1
    obtain ⟨hc1, hc2⟩ := gears_cnt hg
    have hn5 : n ≤ 5 := by have := (gearsB_yes hg).2.2.2.1; have := HN.out; omega
    have hn1 : 1 ≤ n := by have := (gearsB_yes hg).2.2.1; have := HN.out; omega
    obtain ⟨an, rfl⟩ : ∃ an : Nat, a = an := ⟨a.toNat, by have := good_yes HGB.out; omega⟩
    have HZA := Lib.hid (zero_ask HGB.out)
    obtain ⟨z, hz⟩ : ∃ z, textOf (List.replicate an 0) = z := ⟨_, rfl⟩
    have HOF : Hid (textOf (digL b 0 an) = z) := Lib.hid (by rw [digL_zeroN]; exact hz)
    have HZZ : Hid (zeroS (an : Int) = z) := Lib.hid (by unfold zeroS; rw [Int.toNat_natCast]; exact hz)
    rw [hz] at HZA
    obtain ⟨M, hMe⟩ : ∃ M, cntN an b = M := ⟨_, rfl⟩
    have HM := Lib.hid hMe
    rw [hMe] at hc1
    have hM0 : 0 < M := by
      have h1 := nmN_lt HZA.out
      rw [hMe] at h1
      omega
    obtain ⟨Q, hQe⟩ : ∃ Q, (allL an b ks z).length = Q := ⟨_, rfl⟩
    have HQ := Lib.hid hQe
    have HR : Hid (cntF (farV an b (allL an b ks z)) M = Q) := Lib.hid (by rw [← hMe, cntF_allL HK.out HZA.out]; exact hQe)
    have HZ : Hid (ndZ an b ks = ndL an b ks n) := Lib.hid (by unfold ndZ; rw [if_pos hg, HN.out])
    clear hg hc2 hz hMe hQe
    go_enter Try.func53, Try.ntmps53
    go_wp2_with (first
      | (go_at_call 62; refine (joGood_any _ _ _ _ _ ks _ hm ((HA.out.knobs hm).below G0.out.bel)).mono ?_; rw [HG.out]; rintro e w1 ⟨rfl, hb1⟩
         have G1 := gs_call G0 hb1
         have l0 := gs_0 G1
         have l1 := gs_1 G1
         have l2 := gs_2 G1
         clear hb1)
      | (go_at_call 88; refine (whOf_any _ _ _ _ HGB.out (by omega) (by omega)).mono ?_; rw [HOF.out]; rintro e w3 ⟨rfl, hb3⟩
         have G3 := gs_call G1 hb3
         have p0 := gs_0 G3
         have p1 := gs_1 G3
         have p2 := gs_2 G3
         clear hb3)
      | (go_at_call 82; refine (joFar_any _ _ _ _ _ _ ks _ (by omega) (HA.out.below G3.out.bel) HZA.out HK.out (by rw [HM.out]; exact hc1)).mono ?_; rw [HM.out]; rintro e w4 ⟨g4, rfl, hg4, hC4, hb4⟩
         have G4 := gs_call G3 hb4
         have q0 := gs_0 G4
         have q1 := gs_1 G4
         have q2 := gs_2 G4
         have HC4 := Lib.hid hC4
         clear hC4 hb4)
      | (go_at_call 86; refine (joReached_any _ _ _ _ _ hc1 HC4.out).mono ?_; rw [HR.out]; rintro e w5 ⟨rfl, rfl⟩))
    have hwR : w.heap.size < w5.heap.size := by have := G4.out.box.lt; omega
    obtain ⟨R, hRe⟩ : ∃ R, w5.heap.size = R := ⟨_, rfl⟩
    rw [hRe] at hwR
    have hRle : R ≤ w5.heap.size := by omega
    clear hg4 HC4 HR l0 l1 l2 p0 p1 p2 q0 q1 q2 G0 G1 G3 hRe
    go_loopw [4, 21] (fun v i wr => ∃ k : Nat, k ≤ n ∧ i = .int .i64 k ∧ wr.ownsRow R 3 1 v (ndL an b ks k).length (iv (ndL an b ks k)) ∧ GS w wr an b A n c ∧ R ≤ wr.heap.size) (fun _ i _ => n - (intOf i).toNat)
    case atStart => exact ⟨0, by omega, rfl, World.ownsRow_nil _ _ _ _, G4.out, hRle⟩
    case round =>
      clear hRle G4
      obtain ⟨k, hk, rfl, hO, hG, hRl⟩ := hrel
      have HO := Lib.hid hO
      have G := Lib.hid hG
      have l0 := gs_0 G
      have l1 := gs_1 G
      have l2 := gs_2 G
      clear hO hG
      by_cases hlt : k < n
      · have hlen := ndL_length an b ks k
        have HND : Hid (ndL an b ks (k + 1) = if ndP an b ks k then ndL an b ks k ++ [(k : Int)] else ndL an b ks k) := Lib.hid rfl
        have hkl : k < ks.length := by rw [HN.out]; exact hlt
        by_cases h1 : n = 1
        · have HP : Hid (ndP an b ks k = false) := Lib.hid (by unfold ndP; rw [HN.out, decide_eq_false (by omega)]; rfl)
          subst h1
          go_wp2_with fail
          go_roundw
          case rel => exact ⟨k + 1, by omega, by go_num, by rw [HND.out, HP.out]; exact HO.out, G.out, hRl⟩
          case measure => simp [intOf] <;> omega
        · have h2 : 1 < n := by omega
          have h2' : (1 : Int) < (n : Int) := by omega
          have HKW := Lib.hid (knobs_wo hkl HK.out)
          have HWL := Lib.hid (show (woK ks k).length = n - 1 by have := woK_length hkl; rw [HN.out] at this; omega)
          obtain ⟨S, hSe⟩ : ∃ S, (allL an b (woK ks k) z).length = S := ⟨_, rfl⟩
          have HS : Hid (cntF (farV an b (allL an b (woK ks k) z)) M = S) := Lib.hid (by rw [← HM.out, cntF_allL HKW.out HZA.out]; exact hSe)
          have HP : Hid (ndP an b ks k = decide (S = Q)) := Lib.hid (by unfold ndP; rw [HN.out, decide_eq_true (by omega), HZZ.out, hSe, HQ.out]; rfl)
          have HWO := Lib.hid (woAt_woK HN.out hlt)
          clear hSe hkl h1
          by_cases hSQ : S = Q
          · have HP1 : Hid (ndL an b ks (k + 1) = ndL an b ks k ++ [(k : Int)]) := Lib.hid (by rw [HND.out, HP.out, decide_eq_true hSQ]; rfl)
            have hb1 : ((S : Int) == (Q : Int)) = true := by rw [hSQ]; exact beq_self_eq_true _
            clear hSQ
            generalize ndL an b ks k = L0 at HO hlen HP1 HND
            go_wp2_with (first
              | (go_at_call 92; refine (joWithout_any _ _ _ _ _ _ ks _ hm ((HA.out.knobs hm).below G.out.bel)).mono ?_; rw [HWO.out]; rintro e w6 ⟨v6, Gr, Cp, rfl, hR6, hz6, hb6⟩
                 obtain ⟨A6, c6, hv6⟩ := hR6.slice
                 rw [HWL.out] at hv6
                 subst hv6
                 have K6 := Lib.hid (hR6.knobsC HWL.out)
                 have G6 := gs_call G hb6
                 have O6 := Lib.hid (own_below HO.out hb6)
                 have R6 : R ≤ w6.heap.size := Nat.le_trans hRl hb6.size
                 clear hR6 hz6 hb6)
              | (go_at_call 82; refine (joFar_any _ _ _ _ _ _ (woK ks k) _ (by omega) K6.out HZA.out HKW.out (by rw [HM.out]; exact hc1)).mono ?_; rw [HM.out]; rintro e w7 ⟨g7, rfl, hg7, hC7, hb7⟩
                 have G7 := gs_call G6 hb7
                 have O7 := Lib.hid (own_below O6.out hb7)
                 have R7 : R ≤ w7.heap.size := Nat.le_trans R6 hb7.size
                 have HC7 := Lib.hid hC7
                 clear hC7 hb7 hg7)
              | (go_at_call 86; refine (joReached_any _ _ _ _ _ hc1 HC7.out).mono ?_; rw [HS.out]; rintro e w8 ⟨rfl, rfl⟩)
              | (at_builtin; refine wpList_append_own _ rfl _ _ 43 rfl R 3 i0 (.int .i64 0) 1 8 Try.underlying43 hi hy0 hy1 hy2 rfl (by decide) _ _ _ rfl (O7.out.alloc _) ⟨w8.heap.size, 0, none⟩ 1 1 [.int .i64 (k : Int)] rfl rfl (news_one rfl) (by simp [Value.oneCell']) (by unfold maxLen; omega) (by omega) (by simp; omega) ?_; intro v9 w9 hown9 hgrow9 hiff9; clear hiff9))
            have hOb := (O7.out.alloc (.cells #[.int .i64 (k : Int)] 3)).lt
            have G9 := gs_grown (gs_alloc G7 (.cells #[.int .i64 (k : Int)] 3)) hgrow9 (fun e => by have := (hOb _ e.symm).1; omega) (fun g e => by have := (hOb g e).1; omega)
            have R9 : R ≤ w9.heap.size := by have := hgrow9.size; rw [World.size_alloc] at this; omega
            have O9 := Lib.hid hown9
            clear hown9 hgrow9 hOb
            go_roundw
            case rel => exact ⟨k + 1, by omega, by go_num, by rw [HP1.out, List.length_append, List.length_singleton, iv, List.map_append]; exact O9.out, G9.out, R9⟩
            case measure => simp [intOf] <;> omega
          · have HP1 : Hid (ndL an b ks (k + 1) = ndL an b ks k) := Lib.hid (by rw [HND.out, HP.out, decide_eq_false hSQ]; rfl)
            have hb1 : ((S : Int) == (Q : Int)) = false := by rw [beq_eq_false_iff_ne]; omega
            have hb2 : (S : Int) ≠ (Q : Int) := by omega
            clear hSQ
            generalize ndL an b ks k = L0 at HO hlen HP1 HND
            go_wp2_with (first
              | (go_at_call 92; refine (joWithout_any _ _ _ _ _ _ ks _ hm ((HA.out.knobs hm).below G.out.bel)).mono ?_; rw [HWO.out]; rintro e w6 ⟨v6, Gr, Cp, rfl, hR6, hz6, hb6⟩
                 obtain ⟨A6, c6, hv6⟩ := hR6.slice
                 rw [HWL.out] at hv6
                 subst hv6
                 have K6 := Lib.hid (hR6.knobsC HWL.out)
                 have G6 := gs_call G hb6
                 have O6 := Lib.hid (own_below HO.out hb6)
                 have R6 : R ≤ w6.heap.size := Nat.le_trans hRl hb6.size
                 clear hR6 hz6 hb6)
              | (go_at_call 82; refine (joFar_any _ _ _ _ _ _ (woK ks k) _ (by omega) K6.out HZA.out HKW.out (by rw [HM.out]; exact hc1)).mono ?_; rw [HM.out]; rintro e w7 ⟨g7, rfl, hg7, hC7, hb7⟩
                 have G7 := gs_call G6 hb7
                 have O7 := Lib.hid (own_below O6.out hb7)
                 have R7 : R ≤ w7.heap.size := Nat.le_trans R6 hb7.size
                 have HC7 := Lib.hid hC7
                 clear hC7 hb7 hg7)
              | (go_at_call 86; refine (joReached_any _ _ _ _ _ hc1 HC7.out).mono ?_; rw [HS.out]; rintro e w8 ⟨rfl, rfl⟩))
            go_roundw
            case rel => exact ⟨k + 1, by omega, by go_num, by rw [HP1.out]; exact O7.out, G7.out, R7⟩
            case measure => simp [intOf] <;> omega
      · obtain rfl : k = n := by omega
        have hlen := ndL_length an b ks k
        obtain ⟨A9, c9, hv, hL⟩ := LI.of_row HO.out (by omega)
        subst hv
        go_wp2_with fail
        go_ret2
        rw [HG.out, HZ.out]
        exact ⟨A9, c9, rfl, hL.wide (lo2 := w.heap.size) (by omega) (Nat.le_refl _), G.out.bel⟩
  · have HG := Lib.hid (Bool.eq_false_iff.2 hg)
    have HZ : Hid (ndZ a b ks = []) := Lib.hid (by unfold ndZ; rw [HG.out]; rfl)
    clear hg
    go_enter Try.func53, Try.ntmps53
    go_wp2_with (go_at_call 62; refine (joGood_any _ _ _ _ _ ks _ hm ((HA.out.knobs hm).below G0.out.bel)).mono ?_; rw [HG.out]; rintro e w1 ⟨rfl, hb1⟩)
    go_ret2
    rw [HG.out, HZ.out]
    exact ints_none (bel_call G0.out.bel hb1)


set_option maxHeartbeats 4000000 in
theorem needless_any (a b : Int) (A : Option Addr) (n c : Nat) (hcap : n ≤ c) (ks : List (List Int)) (w : World) (hm : n + lensAt ks n ≤ 1048576) (hA : KnobsC w A n ks) :
    Calls Try.prog 54 #[.agg #[.int .i64 a, .int .i64 b, .slice A n c]] w (IntsL w (ndZ a b ks) (gearsB a b ks)) := by
  obtain ⟨i0, hi, hy0, hy1, hy2⟩ := info_parts info_int
  have HA := Lib.hid hA
  have HN := Lib.hid hA.len
  have G0 := gs_new w a b A n c
  have l0 := gs_0 G0
  have l1 := gs_1 G0
  have l2 := gs_2 G0
  clear hA
  obtain ⟨cA, hcA⟩ : ∃ cA, ccZ a b ks = cA := ⟨_, rfl⟩
  have HCA := Lib.hid hcA
  clear hcA
  by_cases hg : gearsB a b ks = true
  · have HG := Lib.hid hg
    have hn5 : n ≤ 5 := by have := (gearsB_yes hg).2.2.2.1; have := HN.out; omega
    have hn1 : 1 ≤ n := by have := (gearsB_yes hg).2.2.1; have := HN.out; omega
    have HZ : Hid (ndZ a b ks = ndL a b ks n) := Lib.hid (by unfold ndZ; rw [if_pos hg, HN.out])
    clear hg
    go_enter Try.func54, Try.ntmps54
    go_wp2_with (first
      | (go_at_call 44; refine (countClasses_any _ _ _ _ _ ks _ hm (HA.out.below G0.out.bel)).mono ?_; rw [HG.out, HCA.out]; rintro e w1 ⟨rfl, hb1⟩
         have G1 := gs_call G0 hb1
         clear l0 l1 l2
         have l0 := gs_0 G1
         have l1 := gs_1 G1
         have l2 := gs_2 G1
         clear hb1))
    have hwR : w.heap.size < w1.heap.size := G1.out.box.lt
    obtain ⟨R, hRe⟩ : ∃ R, w1.heap.size = R := ⟨_, rfl⟩
    rw [hRe] at hwR
    have hRle : R ≤ w1.heap.size := by omega
    clear l0 l1 l2 G0 hRe
    go_loopw [6, 22] (fun v i wr => ∃ k : Nat, k ≤ n ∧ i = .int .i64 k ∧ wr.ownsRow R 3 1 v (ndL a b ks k).length (iv (ndL a b ks k)) ∧ GS w wr a b A n c ∧ R ≤ wr.heap.size) (fun _ i _ => n - (intOf i).toNat)
    case atStart => exact ⟨0, by omega, rfl, World.ownsRow_nil _ _ _ _, G1.out, hRle⟩
    case round =>
      clear hRle G1
      obtain ⟨k, hk, rfl, hO, hG, hRl⟩ := hrel
      have HO := Lib.hid hO
      have G := Lib.hid hG
      have l0 := gs_0 G
      have l1 := gs_1 G
      have l2 := gs_2 G
      clear hO hG
      by_cases hlt : k < n
      · have hlen := ndL_length a b ks k
        have HND : Hid (ndL a b ks (k + 1) = if ndP a b ks k then ndL a b ks k ++ [(k : Int)] else ndL a b ks k) := Lib.hid rfl
        have hkl : k < ks.length := by rw [HN.out]; exact hlt
        by_cases h1 : n = 1
        · have HP1 : Hid (ndL a b ks (k + 1) = ndL a b ks k) := Lib.hid (by rw [HND.out]; unfold ndP; rw [HN.out, decide_eq_false (by omega)]; rfl)
          have HD : Hid (dkB a b ks k = false) := Lib.hid (by unfold dkB; rw [HN.out, decide_eq_true h1]; simp)
          have HDV : Hid (dkA a b ks k a = 0 ∧ dkA a b ks k b = 0 ∧ dkZ a b ks k = []) := Lib.hid (by unfold dkA dkZ; rw [HD.out]; exact ⟨rfl, rfl, rfl⟩)
          have HE : Hid (gearsB 0 0 [] = false) := Lib.hid rfl
          obtain ⟨cW, HCW⟩ : ∃ cW, Hid (ccZ 0 0 [] = cW) := ⟨_, Lib.hid rfl⟩
          clear h1
          go_wp2_with (first
            | (go_at_call 58; refine (dropKnob_any _ _ _ _ _ _ hcap ks _ hm ((HA.out.knobs hm).below G.out.bel)).mono ?_; rw [HDV.out.1, HDV.out.2.1, HDV.out.2.2, HD.out]; rintro e w6 ⟨v6, B6, Gr, Cp, rfl, hB6, hR6, hb6⟩
               obtain ⟨A6, c6, hv6⟩ := hR6.slice
               replace hv6 : v6 = .slice A6 0 c6 := hv6
               subst hv6
               have G6 := gs_alloc (gs_call G hb6) (.cells #[.int .i64 0, .int .i64 0, .slice A6 0 c6] 31)
               have O6 := Lib.hid ((own_below HO.out hb6).alloc (.cells #[.int .i64 0, .int .i64 0, .slice A6 0 c6] 31))
               have R6 : R ≤ w6.heap.size := Nat.le_trans hRl hb6.size
               clear hR6 hB6 hb6)
            | (go_at_call 44; refine (countClasses_any _ _ _ _ _ [] _ (by decide) ⟨rfl, .inl rfl⟩).mono ?_; rw [HE.out, HCW.out]; rintro e w7 ⟨rfl, hb7⟩
               have G7 := gs_call G6 hb7
               have O7 := Lib.hid (own_below O6.out hb7)
               have R7 : R ≤ w7.heap.size := by have := hb7.size; rw [World.size_alloc] at this; omega
               clear hb7))
          go_roundw
          case rel => exact ⟨k + 1, by omega, by go_num, by rw [HP1.out]; exact O7.out, G7.out, R7⟩
          case measure => simp [intOf] <;> omega
        · have h2 : 2 ≤ ks.length := by rw [HN.out]; omega
          have HGW := Lib.hid (gears_wo HG.out h2 hkl)
          have HWL := Lib.hid (show (woK ks k).length = n - 1 by have := woK_length hkl; rw [HN.out] at this; omega)
          have HD : Hid (dkB a b ks k = true) := Lib.hid (by unfold dkB; rw [HG.out, HN.out, decide_eq_false h1]; unfold inB; rw [decide_eq_true (by omega)]; rfl)
          have HDV : Hid (dkA a b ks k a = a ∧ dkA a b ks k b = b ∧ dkZ a b ks k = woK ks k) := Lib.hid (by unfold dkA dkZ; rw [HD.out, HN.out]; exact ⟨rfl, rfl, woAt_woK HN.out hlt⟩)
          have HSZ : Hid ((n - 1) + lensAt (woK ks k) (n - 1) ≤ 1048576) := Lib.hid (by
            have h3 := dkZ_size a b ks k
            rw [HDV.out.2.2, HWL.out, HN.out] at h3
            omega)
          have hcc := cc_eq HG.out h2 hkl
          obtain ⟨cW, HCW⟩ : ∃ cW, Hid (ccZ a b (woK ks k) = cW) := ⟨_, Lib.hid rfl⟩
          rw [HCA.out, HCW.out] at hcc
          clear h1 h2 hkl
          obtain ⟨u, hu⟩ : ∃ u, ndP a b ks k = u := ⟨_, rfl⟩
          rw [hu] at hcc
          have HU := Lib.hid hu
          clear hu
          rcases u with _ | _
          · have HP1 : Hid (ndL a b ks (k + 1) = ndL a b ks k) := Lib.hid (by rw [HND.out, HU.out]; rfl)
            have hcc2 : cW ≠ cA := by rw [← beq_eq_false_iff_ne]; exact hcc
            go_wp2_with (first
              | (go_at_call 58; refine (dropKnob_any _ _ _ _ _ _ hcap ks _ hm ((HA.out.knobs hm).below G.out.bel)).mono ?_; rw [HDV.out.1, HDV.out.2.1, HDV.out.2.2, HD.out]; rintro e w6 ⟨v6, B6, Gr, Cp, rfl, hB6, hR6, hb6⟩
                 obtain ⟨A6, c6, hv6⟩ := hR6.slice
                 rw [HWL.out] at hv6
                 subst hv6
                 have K6 := Lib.hid ((hR6.knobsC HWL.out).below ((Below.refl _ _).alloc (Nat.le_refl _) (.cells #[.int .i64 a, .int .i64 b, .slice A6 (n - 1) c6] 31)))
                 have G6 := gs_alloc (gs_call G hb6) (.cells #[.int .i64 a, .int .i64 b, .slice A6 (n - 1) c6] 31)
                 have O6 := Lib.hid ((own_below HO.out hb6).alloc (.cells #[.int .i64 a, .int .i64 b, .slice A6 (n - 1) c6] 31))
                 have R6 : R ≤ w6.heap.size := Nat.le_trans hRl hb6.size
                 clear hR6 hB6 hb6)
              | (go_at_call 44; refine (countClasses_any _ _ _ _ _ (woK ks k) _ HSZ.out K6.out).mono ?_; rw [HGW.out, HCW.out]; rintro e w7 ⟨rfl, hb7⟩
                 have G7 := gs_call G6 hb7
                 have O7 := Lib.hid (own_below O6.out hb7)
                 have R7 : R ≤ w7.heap.size := by have := hb7.size; rw [World.size_alloc] at this; omega
                 clear hb7))
            go_roundw
            case rel => exact ⟨k + 1, by omega, by go_num, by rw [HP1.out]; exact O7.out, G7.out, R7⟩
            case measure => simp [intOf] <;> omega
          · have HP1 : Hid (ndL a b ks (k + 1) = ndL a b ks k ++ [(k : Int)]) := Lib.hid (by rw [HND.out, HU.out]; rfl)
            obtain rfl : cW = cA := by rw [← beq_iff_eq]; exact hcc
            generalize ndL a b ks k = L0 at HO hlen HP1 HND
            go_wp2_with (first
              | (go_at_call 58; refine (dropKnob_any _ _ _ _ _ _ hcap ks _ hm ((HA.out.knobs hm).below G.out.bel)).mono ?_; rw [HDV.out.1, HDV.out.2.1, HDV.out.2.2, HD.out]; rintro e w6 ⟨v6, B6, Gr, Cp, rfl, hB6, hR6, hb6⟩
                 obtain ⟨A6, c6, hv6⟩ := hR6.slice
                 rw [HWL.out] at hv6
                 subst hv6
                 have K6 := Lib.hid ((hR6.knobsC HWL.out).below ((Below.refl _ _).alloc (Nat.le_refl _) (.cells #[.int .i64 a, .int .i64 b, .slice A6 (n - 1) c6] 31)))
                 have G6 := gs_alloc (gs_call G hb6) (.cells #[.int .i64 a, .int .i64 b, .slice A6 (n - 1) c6] 31)
                 have O6 := Lib.hid ((own_below HO.out hb6).alloc (.cells #[.int .i64 a, .int .i64 b, .slice A6 (n - 1) c6] 31))
                 have R6 : R ≤ w6.heap.size := Nat.le_trans hRl hb6.size
                 clear hR6 hB6 hb6)
              | (go_at_call 44; refine (countClasses_any _ _ _ _ _ (woK ks k) _ HSZ.out K6.out).mono ?_; rw [HGW.out, HCW.out]; rintro e w7 ⟨rfl, hb7⟩
                 have G7 := gs_call G6 hb7
                 have O7 := Lib.hid (own_below O6.out hb7)
                 have R7 : R ≤ w7.heap.size := by have := hb7.size; rw [World.size_alloc] at this; omega
                 clear hb7)
              | (at_builtin; refine wpList_append_own _ rfl _ _ 43 rfl R 3 i0 (.int .i64 0) 1 8 Try.underlying43 hi hy0 hy1 hy2 rfl (by decide) _ _ _ rfl (O7.out.alloc _) ⟨w7.heap.size, 0, none⟩ 1 1 [.int .i64 (k : Int)] rfl rfl (news_one rfl) (by simp [Value.oneCell']) (by unfold maxLen; omega) (by omega) (by simp; omega) ?_; intro v9 w9 hown9 hgrow9 hiff9; clear hiff9))
            have hOb := (O7.out.alloc (.cells #[.int .i64 (k : Int)] 3)).lt
            have G9 := gs_grown (gs_alloc G7 (.cells #[.int .i64 (k : Int)] 3)) hgrow9 (fun e => by have := (hOb _ e.symm).1; omega) (fun g e => by have := (hOb g e).1; omega)
            have R9 : R ≤ w9.heap.size := by have := hgrow9.size; rw [World.size_alloc] at this; omega
            have O9 := Lib.hid hown9
            clear hown9 hgrow9 hOb
            go_roundw
            case rel => exact ⟨k + 1, by omega, by go_num, by rw [HP1.out, List.length_append, List.length_singleton, iv, List.map_append]; exact O9.out, G9.out, R9⟩
            case measure => simp [intOf] <;> omega
      · obtain rfl : k = n := by omega
        have hlen := ndL_length a b ks k
        obtain ⟨A9, c9, hv, hL⟩ := LI.of_row HO.out (by omega)
        subst hv
        go_wp2_with fail
        go_ret2
        rw [HG.out, HZ.out]
        exact ⟨A9, c9, rfl, hL.wide (lo2 := w.heap.size) (by omega) (Nat.le_refl _), G.out.bel⟩
  · have HG := Lib.hid (Bool.eq_false_iff.2 hg)
    have HZ : Hid (ndZ a b ks = []) := Lib.hid (by unfold ndZ; rw [HG.out]; rfl)
    clear hg
    go_enter Try.func54, Try.ntmps54
    go_wp2_with (go_at_call 44; refine (countClasses_any _ _ _ _ _ ks _ hm (HA.out.below G0.out.bel)).mono ?_; rw [HG.out, HCA.out]; rintro e w1 ⟨rfl, hb1⟩)
    go_ret2
    rw [HG.out, HZ.out]
    exact ints_none (bel_call G0.out.bel hb1)

end Go.Proofs.Ytejpcbkhlnjlfaa
