/- Smooth keys ranked: whether a key is smooth, by the model. For texts of at most 2^20 bytes. -/
import Derived.Test.YtaajklkldfgppaaZe
import Derived.Deep.RegionLaw
namespace Go.Proofs.Ytaajklkldfgppaa
set_option maxRecDepth 100000
open Go.ChangeShapes Go.WideShapes Go.ChangeAt Go.RowKit Go.Joins

/-- The bytes of a text by their places. -/
def byN (s : ByteArray) (i : Nat) : Nat := (s.data.toList.getD i 0).toNat

theorem byN_at {s : ByteArray} {k : Nat} (hk : k < s.size) : byN s k = s[k].toNat := by
  unfold byN
  have : k < s.data.toList.length := by simpa using hk
  rw [List.getD, List.getElem?_eq_getElem this]
  simp
  rfl

/-- A smooth text: neighbours differ by at most m. -/
def smS (m : Int) (s : ByteArray) : Bool := (List.range (s.size - 1)).all fun i => closeB m (byN s (i + 1)) (byN s i)

theorem smS_yes {m : Int} {s : ByteArray} : smS m s = true ↔ ∀ i, i + 1 < s.size → closeB m (byN s (i + 1)) (byN s i) = true := by
  unfold smS
  rw [List.all_eq_true]
  exact ⟨fun h i hi => h i (List.mem_range.2 (by omega)), fun h i hi => h i (by have := List.mem_range.1 hi; omega)⟩

theorem smS_no {m : Int} {s : ByteArray} {i : Nat} (hi : i + 1 < s.size) (h : closeB m (byN s (i + 1)) (byN s i) = false) : smS m s = false := by
  cases e : smS m s with
  | false => rfl
  | true => rw [smS_yes.1 e i hi] at h; cases h

set_option maxHeartbeats 2000000 in
theorem keIsSmooth_any (s : ByteArray) (m : Int) (w : World) (hs : s.size ≤ 1048576) :
    Calls Try.prog 54 #[.string s, .int .i64 m] w fun e w' => e = .returned (.bool (smS m s)) ∧ w'.heap = w.heap ∧ Below w.heap.size w w' := by
  go_enter Try.func54, Try.ntmps54
  go_wp2_with fail
  go_loopw [5] (fun i wr => ∃ k q : Nat, q = k + 1 ∧ (q ≤ s.size ∨ k = 0) ∧ i = .int .i64 (q : Int) ∧ (∀ j, j + 1 < q → closeB m (byN s (j + 1)) (byN s j) = true) ∧ wr.heap = w.heap ∧ Below w.heap.size w wr) (fun i _ => s.size - (intOf i).toNat)
  case atStart => exact ⟨0, 1, rfl, .inr rfl, rfl, fun j hj => by omega, rfl, Below.refl _ _⟩
  case round =>
    obtain ⟨k, q, hq, hk, rfl, hno, hh, hB⟩ := hrel
    have HNO := Lib.hid hno
    have HB := Lib.hid hB
    have HH := Lib.hid hh
    clear hno hB hh
    by_cases hlt : q < s.size
    · have hk0 : k < s.size := by omega
      have hqk : (q : Int) - 1 = (k : Int) := by omega
      have hqw : IntKind.i64.wrap ((q : Int) - 1) = (k : Int) := by rw [IntKind.wrap_i64]; omega
      have hkw : IntKind.i64.wrap (k : Int) = (k : Int) := by rw [IntKind.wrap_i64]; omega
      have HQ := Lib.hid hq
      have ha : ((s[q]'hlt).toNat : Int) ≤ 255 := by have := (s[q]'hlt).toNat_lt; omega
      have hb : ((s[k]'hk0).toNat : Int) ≤ 255 := by have := (s[k]'hk0).toNat_lt; omega
      have hw1 : IntKind.i64.wrap ((s[q]'hlt).toNat : Int) = ((s[q]'hlt).toNat : Int) := by rw [IntKind.wrap_i64]; omega
      have hw2 : IntKind.i64.wrap ((s[k]'hk0).toNat : Int) = ((s[k]'hk0).toNat : Int) := by rw [IntKind.wrap_i64]; omega
      have hw3 : IntKind.i64.wrap (((s[q]'hlt).toNat : Int) - ((s[k]'hk0).toNat : Int)) = ((s[q]'hlt).toNat : Int) - ((s[k]'hk0).toNat : Int) := by rw [IntKind.wrap_i64]; omega
      have HC : Hid (closeB m (byN s q) (byN s k) = decide (((s[q].toNat : Int) - (s[k].toNat : Int)) ≤ m ∧ ((s[k].toNat : Int) - (s[q].toNat : Int)) ≤ m)) := Lib.hid (by rw [byN_at hlt, byN_at hk0]; rfl)
      cases hc : closeB m (byN s q) (byN s k) with
      | false =>
        have HS : Hid (smS m s = false) := Lib.hid (smS_no (i := k) (by omega) (by rw [← hq]; exact hc))
        have hg : m < max ((s[q].toNat : Int) - (s[k].toNat : Int)) (-((s[q].toNat : Int) - (s[k].toNat : Int))) := by
          rw [HC.out] at hc
          have := of_decide_eq_false hc
          omega
        clear hc hq
        go_wp2_with fail
        go_region_law (first
          | (go_simp; go_at_call 47; refine (l1Abs_any _ _ (by omega)).mono ?_; rintro e wq ⟨rfl, hwq⟩; have hwz := hwq.symm; clear hwq; subst hwz))
        all_goals go_wp2_with fail
        all_goals go_ret
        all_goals exact ⟨ret_bool HS.out.symm, HH.out, bel_drew HB.out⟩
      | true =>
        have HCT := Lib.hid hc
        have hg : ¬ m < max ((s[q].toNat : Int) - (s[k].toNat : Int)) (-((s[q].toNat : Int) - (s[k].toNat : Int))) := by
          rw [HC.out] at hc
          have := of_decide_eq_true hc
          omega
        clear hc hq
        go_wp2_with fail
        go_region_law (first
          | (go_simp; go_at_call 47; refine (l1Abs_any _ _ (by omega)).mono ?_; rintro e wq ⟨rfl, hwq⟩; have hwz := hwq.symm; clear hwq; subst hwz))
        all_goals go_wp2_with fail
        all_goals go_roundw
        all_goals first
          | exact ⟨q, q + 1, rfl, .inl (by omega), by go_num, fun j hj => (by
              by_cases h : j = k
              · subst h; rw [← HQ.out]; exact HCT.out
              · exact HNO.out j (by have := HQ.out; omega)), HH.out, bel_drew HB.out⟩
          | (simp [intOf]; omega)
    · have HS : Hid (smS m s = true) := Lib.hid (smS_yes.2 fun i hi => HNO.out i (by omega))
      go_wp2_with fail
      go_ret
      exact ⟨ret_bool HS.out.symm, HH.out, HB.out⟩

end Go.Proofs.Ytaajklkldfgppaa
