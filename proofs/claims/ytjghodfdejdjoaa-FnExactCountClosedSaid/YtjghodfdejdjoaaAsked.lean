/- A lock and a code of it: what both programs ask first, and what follows from a yes. No conditions. -/
import Derived.Test.YtjghodfdejdjoaaDigits
import Derived.Test.YtjghodfdejdjoaaIsCode
namespace Go.Proofs.Ytjghodfdejdjoaa
open Go.ChangeShapes Go.WideShapes Go.ChangeAt Go.RowKit Go.Joins

/-- There are a lock and a code of it. -/
def askB (a b : Int) (s : ByteArray) : Bool := goodB a b && isCodeB a b s

theorem ask_eq (a b : Int) (s : ByteArray) : (goodB a b && isCodeB a b s) = askB a b s := rfl

structure Asked (a b : Int) (s : ByteArray) : Prop where
  good : goodB a b = true
  code : isCodeB a b s = true
  size : a = (s.size : Int)
  n1 : 1 ≤ s.size
  n6 : s.size ≤ 6
  b2 : 2 ≤ b
  b10 : b ≤ 10
  low : ∀ j, j < s.size → 0 ≤ (dg s).getD j 0 ∧ (dg s).getD j 0 < b
  digits : Digits (dg s)

theorem asked {a b : Int} {s : ByteArray} (h : askB a b s = true) : Asked a b s := by
  unfold askB at h
  rw [Bool.and_eq_true] at h
  obtain ⟨hg, hc⟩ := h
  have hg' := good_yes hg
  have hc' := hc
  unfold isCodeB at hc'
  rw [Bool.and_eq_true, decide_eq_true_eq, List.all_eq_true] at hc'
  obtain ⟨hs, ha⟩ := hc'
  have hlow : ∀ j, j < s.size → 0 ≤ (dg s).getD j 0 ∧ (dg s).getD j 0 < b := fun j hj => by
    have e : s[j] = s.data.toList[j]'(by simpa using hj) := rfl
    have := ha s[j] (by rw [e]; exact List.getElem_mem _)
    unfold digitB at this
    rw [decide_eq_true_eq] at this
    rw [dg_at hj]
    omega
  exact ⟨hg, hc, hs.symm, by omega, by omega, by omega, by omega, hlow, fun j hj => by
    have := hlow j (by rw [dg_length] at hj; exact hj)
    omega⟩

theorem whAsked_any (a b : Int) (s : ByteArray) (w : World) (hs : s.size ≤ maxLen) :
    Calls Try.prog 38 #[.agg #[.int .i64 a, .int .i64 b], .string s] w fun e w' => e = .returned (.bool (askB a b s)) ∧ Below w.heap.size w w' := by
  by_cases hg : goodB a b = true
  · have HG := Lib.hid hg
    have HS := Lib.hid hs
    clear hg hs
    go_enter Try.func38, Try.ntmps38
    go_wp2_with (first | (go_at_call 22; refine (whGood_any _ _ _).mono ?_; rw [HG.out]; rintro e w1 ⟨rfl, hb⟩; obtain ⟨hc, hf, hz⟩ := bcell hb; have hz0 : w.heap.size < w1.heap.size := by (try simp at hz); omega) | (go_at_call 49; refine (whCode_any _ _ _ _ HS.out HG.out).mono ?_; rintro e w1 ⟨rfl, hb⟩; obtain ⟨hc, hf, hz⟩ := bcell hb; have hz0 : w.heap.size < w1.heap.size := by (try simp at hz); omega))
    go_ret
    refine ⟨ret_bool (by unfold askB; rw [HG.out]; rfl), ?_⟩
    (repeat (first | assumption | exact Below.refl _ _ | (refine Below.alloc ?_ (by first | omega | (simp; done) | (simp; omega)) _) | (refine Below.setCell ?_ (by first | omega | (simp; done) | (simp; omega)) _) | refine bel_drewN ?_ _ | refine bel_drew ?_ | (refine bel_call ?_ (by assumption))))
  · have HG := Lib.hid (Bool.eq_false_iff.2 hg)
    clear hg hs
    go_enter Try.func38, Try.ntmps38
    go_wp2_with (first | (go_at_call 22; refine (whGood_any _ _ _).mono ?_; rw [HG.out]; rintro e w1 ⟨rfl, hb⟩; obtain ⟨hc, hf, hz⟩ := bcell hb; have hz0 : w.heap.size < w1.heap.size := by (try simp at hz); omega))
    go_ret
    refine ⟨ret_bool (by unfold askB; rw [HG.out]; rfl), ?_⟩
    (repeat (first | assumption | exact Below.refl _ _ | (refine Below.alloc ?_ (by first | omega | (simp; done) | (simp; omega)) _) | (refine Below.setCell ?_ (by first | omega | (simp; done) | (simp; omega)) _) | refine bel_drewN ?_ _ | refine bel_drew ?_ | (refine bel_call ?_ (by assumption))))

end Go.Proofs.Ytjghodfdejdjoaa
