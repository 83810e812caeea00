/- How many smooth keys there are: the program's and the model's answer. No conditions. -/
import Derived.Test.YtaajklkldfgppaaWz0
import Derived.Test.YtaajklkldfgppaaVu
namespace Go.Proofs.Ytaajklkldfgppaa
open Go.ChangeShapes Go.WideShapes Go.ChangeAt Go.RowKit Go.Joins

/-- How many smooth keys of k + 1 places begin with e. -/
def gwN (m : Int) (dn : Nat) : Nat → Nat → Nat
  | 0, _ => 1
  | k + 1, e => scS m e (gwN m dn k) dn

theorem gwN_le {m : Int} {dn : Nat} (hd : dn ≤ 9) (k e : Nat) : gwN m dn k e ≤ 9 ^ k := by
  induction k generalizing e with
  | zero => simp [gwN]
  | succ k ih =>
    rw [gwN, Nat.pow_succ, Nat.mul_comm]
    exact Nat.le_trans (scS_le (fun j => ih j) dn) (Nat.mul_le_mul_right _ hd)

theorem scS_congr {m : Int} {e n : Nat} {f g : Nat → Nat} (h : ∀ j, j < n → f j = g j) : scS m e f n = scS m e g n := by
  induction n with
  | zero => rfl
  | succ n ih => rw [scS, scS, ih (fun j hj => h j (by omega)), h n (by omega)]

theorem toS_congr {n : Nat} {f g : Nat → Nat} (h : ∀ j, j < n → f j = g j) : toS f 0 n = toS g 0 n := by
  induction n with
  | zero => rfl
  | succ n ih => rw [toS, toS, ih (fun j hj => h j (by omega)), Nat.zero_add, h n (by omega)]

theorem upL_has {n e : Nat} (h : e < n) : hasB (upL n) e = true := lsN_has h

theorem wholeL_at {d n i : Nat} (h : i < n) : (wholeL d n).getD i [] = upL d := rwL_at h

theorem wholeL_length (d n : Nat) : (wholeL d n).length = n := rwL_length _ _

theorem rwL_all {f : Nat → List Int} {p : List Int → Bool} {n : Nat} (h : ∀ i, i < n → p (f i) = true) : (rwL f n).all p = true := by
  induction n with
  | zero => rfl
  | succ n ih => rw [rwL, List.all_append, ih (fun i hi => h i (by omega))]; simp [h n (by omega)]

theorem wholeL_pins {d n : Int} (h : wpB d n = true) : pinsB d (wholeL d.toNat n.toNat) = true := by
  have hh := h
  unfold wpB inB at hh
  rw [Bool.and_eq_true, decide_eq_true_eq, decide_eq_true_eq] at hh
  obtain ⟨⟨h1, h2⟩, h3, h4⟩ := hh
  unfold pinsB
  rw [wholeL_length, Bool.and_eq_true, Bool.and_eq_true]
  refine ⟨⟨decide_eq_true ⟨h1, h2⟩, decide_eq_true ⟨by omega, by omega⟩⟩, rwL_all fun i _ => ?_⟩
  unfold depB
  rw [upL_length, Bool.and_eq_true]
  refine ⟨decide_eq_true (by omega), ?_⟩
  have := lsN_rise (fun _ => true) d.toNat
  rw [show ((d.toNat : Nat) : Int) = d by omega] at this
  exact this

theorem fwN_whole {m : Int} {dn n : Nat} (hd : dn ≤ 9) {k : Nat} (hk : k < n) : ∀ e, e < dn → fwN m (wholeL dn n) k e = gwN m dn k e := by
  induction k with
  | zero =>
    intro e he
    rw [fwN, wholeL_at hk, upL_has he]
    rfl
  | succ k ih =>
    intro e he
    have hout : ∀ j, dn ≤ j → fwN m (wholeL dn n) k j = 0 := fun j hj => by
      have hr : riseB (dn : Int) 0 (upL dn) = true := lsN_rise _ _
      cases k with
      | zero => rw [fwN, wholeL_at (by omega), hasB_out hr (by omega)]; rfl
      | succ k => rw [fwN, wholeL_at (by omega), hasB_out hr (by omega)]; rfl
    rw [fwN, wholeL_at hk, upL_has he, if_pos rfl, scS_cut hd hout, gwN, scS_congr (fun j hj => ih (by omega) j hj)]

/-- There are depths, places and a difference. -/
def cmB (d n m : Int) : Bool := wpB d n && inB m 0 9

/-- How many smooth keys there are. -/
def cmZ (d n m : Int) : Int := if cmB d n m then (toS (gwN m d.toNat (n.toNat - 1)) 0 d.toNat : Int) else 0

theorem cs_smooth (d n m : Int) : smB (wpD d n) m (wpK d n) = cmB d n m ∧ smZ (wpD d n) m (wpK d n) = cmZ d n m := by
  by_cases hw : wpB d n = true
  · have e1 : smB (wpD d n) m (wpK d n) = cmB d n m := by
      unfold smB cmB wpD wpK
      rw [hw, if_pos rfl, if_pos rfl, wholeL_pins hw]
    refine ⟨e1, ?_⟩
    unfold smZ cmZ
    rw [e1]
    by_cases hc : cmB d n m = true
    · rw [if_pos hc, if_pos hc]
      have hh := hw
      unfold wpB inB at hh
      rw [Bool.and_eq_true, decide_eq_true_eq, decide_eq_true_eq] at hh
      obtain ⟨⟨h1, h2⟩, h3, h4⟩ := hh
      have hk : wpK d n = wholeL d.toNat n.toNat := by unfold wpK; rw [hw, if_pos rfl]
      have hd9 : d.toNat ≤ 9 := by omega
      rw [hk, wholeL_length]
      congr 1
      have hr : riseB ((d.toNat : Nat) : Int) 0 (upL d.toNat) = true := lsN_rise _ _
      rw [toS_cut hd9 (fun j hj => fwN_out (d := d) (wholeL_pins hw) (by rw [wholeL_length]; omega) (by omega))]
      exact toS_congr fun j hj => fwN_whole hd9 (by omega) j hj
    · rw [if_neg hc, if_neg hc]
  · rw [Bool.not_eq_true] at hw
    have e1 : smB (wpD d n) m (wpK d n) = cmB d n m := by
      unfold smB cmB wpD wpK
      rw [hw]
      rfl
    have e2 : cmB d n m = false := by unfold cmB; rw [hw]; rfl
    refine ⟨e1, ?_⟩
    unfold smZ cmZ
    rw [e1, e2]
    rfl

theorem RowP.cap {w : World} {B : Nat} {v : Value} {ks : List (List Int)} (h : RowP w B v ks) : ∃ A c, v = .slice A ks.length c ∧ ks.length ≤ c := by
  obtain ⟨G, vs, h1, h2, h3, h4⟩ := h.own
  rcases h2.2 with ⟨rfl, e⟩ | ⟨g, cap, cur, rfl, _, _, hc, _⟩
  · exact ⟨none, 0, by rw [e], by omega⟩
  · exact ⟨_, cap, rfl, by omega⟩

theorem wpK_nine (d n : Int) : Nine (wpK d n) ∧ (wpK d n).length ≤ 7 := by
  unfold wpK
  by_cases hw : wpB d n = true
  · rw [if_pos hw]
    unfold wpB inB at hw
    rw [Bool.and_eq_true, decide_eq_true_eq, decide_eq_true_eq] at hw
    refine ⟨fun k => ?_, by rw [wholeL_length]; omega⟩
    by_cases hk : k < n.toNat
    · rw [wholeL_at hk, upL_length]; omega
    · rw [List.getD, List.getElem?_eq_none (by rw [wholeL_length]; omega)]; simp
  · rw [if_neg hw]
    exact ⟨fun k => by simp, by simp⟩

set_option maxHeartbeats 2000000 in
theorem countSmoothF_any (d n m : Int) (w : World) :
    Calls Try.prog 49 #[.int .i64 d, .int .i64 n, .int .i64 m] w fun e w' => e = .returned (.tuple #[.int .i64 (cmZ d n m), .bool (cmB d n m)]) ∧ Below w.heap.size w w' := by
  have HCS := Lib.hid (cs_smooth d n m)
  have HK9 := Lib.hid (wpK_nine d n)
  have HWP := Lib.hid (wholePins_any d n)
  generalize wpK d n = ks at HCS HK9 HWP
  generalize wpD d n = dd at HCS HWP
  go_enter Try.func49, Try.ntmps49
  go_wp2_with (first
    | (go_at_call 50; refine (HWP.out _).mono ?_; rintro e w1 ⟨v, rfl, hR, hb1⟩
       obtain ⟨A, c, rfl, hcap⟩ := hR.cap
       have HR := Lib.hid hR
       have HB1 := Lib.hid hb1
       clear hR hb1)
    | (go_at_call 56; refine (smoothKeys_any _ _ _ _ _ ks _ (by have h1 := lens_nine HK9.out.1 ks.length; have h2 := HK9.out.2; omega) hcap ((HR.out.alloc _).knobs (fun i _ => by have := HK9.out.1 i; unfold maxLen; omega))).mono ?_; rw [HCS.out.1, HCS.out.2]; rintro e w3 ⟨rfl, hb3⟩))
  go_ret2
  exact ⟨rfl, bel_call (HB1.out.alloc HB1.out.size _) hb3⟩

end Go.Proofs.Ytaajklkldfgppaa
