/- Rings told from another place on, backwards and raised: both programs' answers. No conditions, whatever the library's own variable holds. -/
import Derived.Test.YteolmplbgmfhmaaRa
import Derived.Test.YteolmplbgmfhmaaRv
import Derived.Test.YteolmplbgmfhmaaRt
import Derived.Laws.IdiomCopy
import Derived.Lib.SlBuf
namespace Go.Proofs.Yteolmplbgmfhmaa
open Go.ChangeShapes Go.WideShapes Go.ChangeAt Go.RowKit Go.Joins

theorem allD_low {b : Int} {s : ByteArray} (h : allD b s = true) : Low b (dg s) := fun j hj => by
  rw [dg_length] at hj
  unfold allD at h
  rw [List.all_eq_true] at h
  have e : s[j] = s.data.toList[j]'(by simpa using hj) := rfl
  have := h s[j] (by rw [e]; exact List.getElem_mem _)
  unfold digitB at this
  rw [decide_eq_true_eq] at this
  rw [dg_at hj]
  omega

theorem ring_nat {a b : Int} {s : ByteArray} (h : ringB a b s = true) : ∃ n : Nat, a = n := by
  unfold ringB at h
  rw [Bool.and_eq_true, Bool.and_eq_true] at h
  exact ⟨a.toNat, by have := good_yes (riB_good h.1.1); omega⟩

theorem ring_ri {a b : Int} {s : ByteArray} (h : ringB a b s = true) : riB a b = true := by
  unfold ringB at h
  rw [Bool.and_eq_true, Bool.and_eq_true] at h
  exact h.1.1

/-- A ring, and a place of it. -/
def tuB (a b : Int) (s : ByteArray) (x : Int) : Bool := ringB a b s && inB x 0 ((s.size : Int) - 1)

def tuT (a b : Int) (s : ByteArray) (x : Int) : ByteArray := if tuB a b s x then s.extract x.toNat s.size ++ s.extract 0 x.toNat else ⟨#[]⟩

theorem tu_no {a b x : Int} {s : ByteArray} (h : tuB a b s x = false) : tuT a b s x = ⟨#[]⟩ := by unfold tuT; rw [h]; rfl

theorem tu_yes {a b : Int} {x : Nat} {s : ByteArray} (h : tuB a b s x = true) : tuT a b s x = s.extract x s.size ++ s.extract 0 x := by unfold tuT; rw [h]; rfl

set_option maxRecDepth 100000 in
set_option maxHeartbeats 4000000 in
theorem turnedRing_any (a b : Int) (s : ByteArray) (x : Int) (w : World) (hs : s.size ≤ maxLen) (hm : Mx w) :
    Calls Try.prog 22 #[.agg #[.int .i64 a, .int .i64 b], .string s, .int .i64 x] w fun e w' => e = .returned (.tuple #[.string (tuT a b s x), .bool (tuB a b s x)]) ∧ Below w.heap.size w w' := by
  have HS := Lib.hid hs
  have hml := hm.lt
  have HM := Lib.hid hm
  unfold maxLen at hs
  clear hm
  by_cases hr : ringB a b s = true
  · have HR := Lib.hid hr
    by_cases hx : 0 ≤ x ∧ x ≤ (s.size : Int) - 1
    · have HT : Hid (tuB a b s x = true) := Lib.hid (by unfold tuB inB; rw [hr, decide_eq_true hx]; rfl)
      obtain ⟨hx0, hx1⟩ := hx
      obtain ⟨k, rfl⟩ : ∃ k : Nat, x = k := ⟨x.toNat, by omega⟩
      have hsz : s.size ≤ 1000 := by
        obtain ⟨n, rfl⟩ := ring_nat hr
        have := (ring_of hr).size
        have := cn_le (ring_ri hr)
        omega
      have hadd : ∀ W : World, (Op.stringOp .add (s.extract k s.size) (s.extract 0 k)).run Try.prog W = .ok (.string (tuT a b s k)) W := fun W => by
        rw [run_string_add_sum _ _ _ (by rw [ByteArray.size_extract, ByteArray.size_extract]; omega), tu_yes HT.out]
      clear hr
      go_enter Try.func22, Try.ntmps22
      go_wp2_with (go_at_call 40; refine (hasRing_any _ _ _ _ HS.out (HM.out.below ((Below.refl _ _).alloc (Nat.le_refl _) _) hml)).mono ?_; rw [HR.out]; rintro e w1 ⟨rfl, hb⟩; obtain ⟨hc, hf, hz⟩ := bcell hb; have hz0 : w.heap.size < w1.heap.size := by (try simp at hz); omega)
      go_quiet (fail)
      go_wp2
      go_ret2
      refine ⟨by rw [HT.out]; rfl, ?_⟩
      (repeat (first | assumption | exact Below.refl _ _ | (refine Below.alloc ?_ (by first | omega | (simp; done) | (simp; omega)) _) | (refine Below.setCell ?_ (by first | omega | (simp; done) | (simp; omega)) _) | refine bel_drewN ?_ _ | refine bel_drew ?_ | (refine bel_call ?_ (by assumption))))
    · have HT : Hid (tuB a b s x = false) := Lib.hid (by unfold tuB inB; rw [decide_eq_false hx, Bool.and_false])
      have hx' : x < 0 ∨ (0 ≤ x ∧ (s.size : Int) ≤ x) := by omega
      clear hr
      rcases hx' with hx' | ⟨hx1, hx2⟩
      all_goals
        go_enter Try.func22, Try.ntmps22
        go_wp2_with (go_at_call 40; refine (hasRing_any _ _ _ _ HS.out (HM.out.below ((Below.refl _ _).alloc (Nat.le_refl _) _) hml)).mono ?_; rw [HR.out]; rintro e w1 ⟨rfl, hb⟩; obtain ⟨hc, hf, hz⟩ := bcell hb; have hz0 : w.heap.size < w1.heap.size := by (try simp at hz); omega)
        go_ret2
        refine ⟨by rw [tu_no HT.out, HT.out]; rfl, ?_⟩
        (repeat (first | assumption | exact Below.refl _ _ | (refine Below.alloc ?_ (by first | omega | (simp; done) | (simp; omega)) _) | (refine Below.setCell ?_ (by first | omega | (simp; done) | (simp; omega)) _) | refine bel_drewN ?_ _ | refine bel_drew ?_ | (refine bel_call ?_ (by assumption))))
  · have HR := Lib.hid (Bool.eq_false_iff.2 hr)
    have HT : Hid (tuB a b s x = false) := Lib.hid (by unfold tuB; rw [HR.out]; rfl)
    clear hr
    go_enter Try.func22, Try.ntmps22
    go_wp2_with (go_at_call 40; refine (hasRing_any _ _ _ _ HS.out (HM.out.below ((Below.refl _ _).alloc (Nat.le_refl _) _) hml)).mono ?_; rw [HR.out]; rintro e w1 ⟨rfl, hb⟩; obtain ⟨hc, hf, hz⟩ := bcell hb; have hz0 : w.heap.size < w1.heap.size := by (try simp at hz); omega)
    go_ret2
    refine ⟨by rw [tu_no HT.out, HT.out]; rfl, ?_⟩
    (repeat (first | assumption | exact Below.refl _ _ | (refine Below.alloc ?_ (by first | omega | (simp; done) | (simp; omega)) _) | (refine Below.setCell ?_ (by first | omega | (simp; done) | (simp; omega)) _) | refine bel_drewN ?_ _ | refine bel_drew ?_ | (refine bel_call ?_ (by assumption))))

set_option maxRecDepth 100000 in
set_option maxHeartbeats 4000000 in
theorem specTurnedRing_any (a b : Int) (s : ByteArray) (x : Int) (w : World) (hs : s.size ≤ maxLen) :
    Calls Try.prog 21 #[.agg #[.int .i64 a, .int .i64 b], .string s, .int .i64 x] w fun e w' => e = .returned (.tuple #[.string (tuT a b s x), .bool (tuB a b s x)]) ∧ Below w.heap.size w w' := by
  have HS := Lib.hid hs
  unfold maxLen at hs
  by_cases hg : riB a b = true
  · have HG := Lib.hid hg
    obtain ⟨n, rfl⟩ : ∃ n : Nat, a = n := ⟨a.toNat, by have := good_yes (riB_good hg); omega⟩
    clear hg
    by_cases hr : ringB n b s = true
    · have HR := Lib.hid hr
      have hsz : s.size ≤ 1000 := by
        have := (ring_of hr).size
        have := cn_le (ring_ri hr)
        omega
      by_cases hx : inB x 0 ((s.size : Int) - 1) = true
      · have HT : Hid (tuB n b s x = true) := Lib.hid (by unfold tuB; rw [hr, hx]; rfl)
        have HX := Lib.hid hx
        obtain ⟨hx0, hx1⟩ := of_decide_eq_true hx
        obtain ⟨k, rfl⟩ : ∃ k : Nat, x = k := ⟨x.toNat, by omega⟩
        have hadd : ∀ W : World, (Op.stringOp .add (s.extract k s.size) (s.extract 0 k)).run Try.prog W = .ok (.string (tuT n b s k)) W := fun W => by
          rw [run_string_add_sum _ _ _ (by rw [ByteArray.size_extract, ByteArray.size_extract]; omega), tu_yes HT.out]
        clear hr hx
        go_enter Try.func21, Try.ntmps21
        go_wp2_with (first | (go_at_call 37; refine (riGood_any _ _ _).mono ?_; rw [HG.out]; rintro e w1 ⟨rfl, hb⟩; obtain ⟨hc, hf, hz⟩ := bcell hb; have hz0 : w.heap.size < w1.heap.size := by (try simp at hz); omega) | (go_at_call 38; refine (riRing_any _ _ _ _ HS.out HG.out).mono ?_; rw [HR.out]; rintro e w1 ⟨rfl, hb⟩; obtain ⟨hc, hf, hz⟩ := bcell hb; have hz0 : w.heap.size < w1.heap.size := by (try simp at hz); omega) | (go_at_call 44; refine (l1In_any _ _ _ _).mono ?_; rw [HX.out]; rintro e w1 ⟨rfl, rfl⟩))
        go_quiet (fail)
        go_wp2
        go_ret2
        refine ⟨by rw [HT.out]; rfl, ?_⟩
        (repeat (first | assumption | exact Below.refl _ _ | (refine Below.alloc ?_ (by first | omega | (simp; done) | (simp; omega)) _) | (refine Below.setCell ?_ (by first | omega | (simp; done) | (simp; omega)) _) | refine bel_drewN ?_ _ | refine bel_drew ?_ | (refine bel_call ?_ (by assumption))))
      · have HX := Lib.hid (Bool.eq_false_iff.2 hx)
        have HT : Hid (tuB n b s x = false) := Lib.hid (by unfold tuB; rw [HX.out, Bool.and_false])
        clear hr hx
        go_enter Try.func21, Try.ntmps21
        go_wp2_with (first | (go_at_call 37; refine (riGood_any _ _ _).mono ?_; rw [HG.out]; rintro e w1 ⟨rfl, hb⟩; obtain ⟨hc, hf, hz⟩ := bcell hb; have hz0 : w.heap.size < w1.heap.size := by (try simp at hz); omega) | (go_at_call 38; refine (riRing_any _ _ _ _ HS.out HG.out).mono ?_; rw [HR.out]; rintro e w1 ⟨rfl, hb⟩; obtain ⟨hc, hf, hz⟩ := bcell hb; have hz0 : w.heap.size < w1.heap.size := by (try simp at hz); omega) | (go_at_call 44; refine (l1In_any _ _ _ _).mono ?_; rw [HX.out]; rintro e w1 ⟨rfl, rfl⟩))
        go_ret2
        refine ⟨by rw [tu_no HT.out, HT.out]; rfl, ?_⟩
        (repeat (first | assumption | exact Below.refl _ _ | (refine Below.alloc ?_ (by first | omega | (simp; done) | (simp; omega)) _) | (refine Below.setCell ?_ (by first | omega | (simp; done) | (simp; omega)) _) | refine bel_drewN ?_ _ | refine bel_drew ?_ | (refine bel_call ?_ (by assumption))))
    · have HR := Lib.hid (Bool.eq_false_iff.2 hr)
      have HT : Hid (tuB n b s x = false) := Lib.hid (by unfold tuB; rw [HR.out]; rfl)
      clear hr
      go_enter Try.func21, Try.ntmps21
      go_wp2_with (first | (go_at_call 37; refine (riGood_any _ _ _).mono ?_; rw [HG.out]; rintro e w1 ⟨rfl, hb⟩; obtain ⟨hc, hf, hz⟩ := bcell hb; have hz0 : w.heap.size < w1.heap.size := by (try simp at hz); omega) | (go_at_call 38; refine (riRing_any _ _ _ _ HS.out HG.out).mono ?_; rw [HR.out]; rintro e w1 ⟨rfl, hb⟩; obtain ⟨hc, hf, hz⟩ := bcell hb; have hz0 : w.heap.size < w1.heap.size := by (try simp at hz); omega))
      go_ret2
      refine ⟨by rw [tu_no HT.out, HT.out]; rfl, ?_⟩
      (repeat (first | assumption | exact Below.refl _ _ | (refine Below.alloc ?_ (by first | omega | (simp; done) | (simp; omega)) _) | (refine Below.setCell ?_ (by first | omega | (simp; done) | (simp; omega)) _) | refine bel_drewN ?_ _ | refine bel_drew ?_ | (refine bel_call ?_ (by assumption))))
  · have HG := Lib.hid (Bool.eq_false_iff.2 hg)
    have HT : Hid (tuB a b s x = false) := Lib.hid (by unfold tuB; rw [ringB_no HG.out]; rfl)
    clear hg
    go_enter Try.func21, Try.ntmps21
    go_wp2_with (go_at_call 37; refine (riGood_any _ _ _).mono ?_; rw [HG.out]; rintro e w1 ⟨rfl, hb⟩; obtain ⟨hc, hf, hz⟩ := bcell hb; have hz0 : w.heap.size < w1.heap.size := by (try simp at hz); omega)
    go_ret2
    refine ⟨by rw [tu_no HT.out, HT.out]; rfl, ?_⟩
    (repeat (first | assumption | exact Below.refl _ _ | (refine Below.alloc ?_ (by first | omega | (simp; done) | (simp; omega)) _) | (refine Below.setCell ?_ (by first | omega | (simp; done) | (simp; omega)) _) | refine bel_drewN ?_ _ | refine bel_drew ?_ | (refine bel_call ?_ (by assumption))))

end Go.Proofs.Yteolmplbgmfhmaa
