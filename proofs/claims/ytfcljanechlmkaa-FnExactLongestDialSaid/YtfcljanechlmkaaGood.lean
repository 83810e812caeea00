/- Which gears there are, as the model asks it. No conditions. -/
import Derived.Test.YtfcljanechlmkaaGears3
namespace Go.Proofs.Ytfcljanechlmkaa
open Go.ChangeShapes Go.WideShapes Go.ChangeAt Go.RowKit Go.Joins

theorem lall_snoc {α : Type} {xs : List α} {d : α} {p : α → Bool} {k : Nat} (h : k < xs.length) (ha : (xs.take k).all p = true) (hd : p (xs.getD k d) = true) : (xs.take (k + 1)).all p = true := by
  rw [List.take_succ_eq_append_getElem h, List.all_append, ha]
  simpa [List.getD, List.getElem?_eq_getElem h] using hd

theorem lall_not {α : Type} {xs : List α} {d : α} {p : α → Bool} {k : Nat} (h : k < xs.length) (hd : p (xs.getD k d) = false) : xs.all p = false := by
  rw [List.all_eq_false]
  refine ⟨xs[k], List.getElem_mem _, ?_⟩
  simpa [List.getD, List.getElem?_eq_getElem h] using hd

theorem l1All_any (A : Option Addr) (n c : Nat) (xs : List Int) (lo hi : Int) (w : World) (hm : n ≤ 1048576) (hA : IntsA w A n xs) :
    Calls Try.prog 99 #[.slice A n c, .int .i64 lo, .int .i64 hi] w fun e w' => e = .returned (.bool (xs.all fun x => inB x lo hi)) ∧ w' = w := by
  have HL := Lib.hid hA.len
  have HA := Lib.hid hA
  clear hA
  go_enter Try.func99, Try.ntmps99
  go_wp2_with fail
  go_loop [11] (fun i => ∃ k : Nat, k ≤ n ∧ i = .int .i64 k ∧ (xs.take k).all (fun x => inB x lo hi) = true) (fun i => n - (intOf i).toNat)
  case atStart => exact ⟨0, by omega, rfl, by simp⟩
  case round =>
    obtain ⟨k, hk, rfl, hall⟩ := hrel
    have HAL := Lib.hid hall
    clear hall
    by_cases hlt : k < n
    · obtain ⟨b, off, rfl, hb, hc⟩ := HA.out.at_.resolve_left (by omega)
      have o1 := hc k hlt
      clear hc
      obtain ⟨v, HV⟩ : ∃ v, Hid (inB (xs.getD k 0) lo hi = v) := ⟨_, Lib.hid rfl⟩
      obtain ⟨x, hx⟩ : ∃ x, xs.getD k 0 = x := ⟨_, rfl⟩
      have HX : Hid (inB x lo hi = v) := Lib.hid (by rw [← hx]; exact HV.out)
      rw [hx] at o1
      clear hx
      rcases v with _ | _
      · go_wp2_with (go_at_call 63; refine (l1In_any _ _ _ _).mono ?_; rw [HX.out]; rintro e w3 ⟨rfl, rfl⟩)
        go_ret
        exact ⟨ret_bool (lall_not (d := 0) (p := fun x => inB x lo hi) (by rw [HL.out]; exact hlt) HV.out).symm, rfl⟩
      · go_wp2_with (go_at_call 63; refine (l1In_any _ _ _ _).mono ?_; rw [HX.out]; rintro e w3 ⟨rfl, rfl⟩)
        go_round
        case rel => exact ⟨k + 1, by omega, by go_num, lall_snoc (d := 0) (p := fun x => inB x lo hi) (by rw [HL.out]; exact hlt) HAL.out HV.out⟩
        case measure => simp [intOf]; omega
    · obtain rfl : k = n := by omega
      go_wp2_with fail
      go_ret
      have h := HAL.out
      rw [List.take_of_length_le (by rw [HL.out]; exact Nat.le_refl _)] at h
      exact ⟨ret_bool h.symm, rfl⟩

/-- A knob of a lock. -/
def knobB (a b : Int) (xs : List Int) : Bool := decide (a = (xs.length : Int)) && xs.all fun x => inB x 0 (b - 1)

/-- Gears. -/
def gearsB (a b : Int) (ks : List (List Int)) : Bool := goodB a b && decide (pw b a.toNat ≤ 1000) && inB (ks.length : Int) 1 5 && ks.all (knobB a b)

theorem gearsB_yes {a b : Int} {ks : List (List Int)} (h : gearsB a b ks = true) : goodB a b = true ∧ pw b a.toNat ≤ 1000 ∧ 1 ≤ ks.length ∧ ks.length ≤ 5 ∧ ∀ k, k < ks.length → knobB a b (ks.getD k []) = true := by
  unfold gearsB at h
  simp only [Bool.and_eq_true, decide_eq_true_eq] at h
  obtain ⟨⟨⟨h1, h2⟩, h3⟩, h4⟩ := h
  unfold inB at h3
  rw [decide_eq_true_eq] at h3
  refine ⟨h1, h2, by omega, by omega, fun k hk => ?_⟩
  have := List.all_eq_true.1 h4 ks[k] (List.getElem_mem _)
  simpa [List.getD, List.getElem?_eq_getElem hk] using this

end Go.Proofs.Ytfcljanechlmkaa
