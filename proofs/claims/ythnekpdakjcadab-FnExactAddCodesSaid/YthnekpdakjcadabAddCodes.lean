/- Sums of codes and opposite codes, as both programs make them. No conditions. -/
import Derived.Test.YthnekpdakjcadabAdd
namespace Go.Proofs.Ythnekpdakjcadab
open Go.ChangeShapes Go.WideShapes Go.ChangeAt Go.RowKit Go.Joins

def addZ (a b : Int) (s t : ByteArray) : ByteArray := if twoB a b s t then textOf ((dg s).zipWith (addI b) (dg t)) else ⟨#[]⟩
theorem addZ_yes {a b : Int} {s t : ByteArray} (h : twoB a b s t = true) : addZ a b s t = textOf ((dg s).zipWith (addI b) (dg t)) := by unfold addZ; rw [h]; rfl
theorem addZ_no {a b : Int} {s t : ByteArray} (h : twoB a b s t = false) : addZ a b s t = ⟨#[]⟩ := by unfold addZ; rw [h]; rfl
theorem zip_digits {a b : Int} {s t : ByteArray} (h : Asked a b s) (ht : Asked a b t) (f : Int → Int → Int) (hf : ∀ x y, 0 ≤ f x y ∧ f x y < b) : Digits ((dg s).zipWith f (dg t)) ∧ ((dg s).zipWith f (dg t)).length = s.size := by
  have hl : ((dg s).zipWith f (dg t)).length = s.size := by
    have h1 := h.size
    have h2 := ht.size
    rw [List.length_zipWith, dg_length, dg_length]; omega
  refine ⟨fun j hj => ?_, hl⟩
  have h1 := h.size
  have h2 := ht.size
  rw [hl] at hj
  rw [zip_at _ _ _ (by rw [dg_length]; exact hj) (by rw [dg_length]; omega)]
  have := hf ((dg s).getD j 0) ((dg t).getD j 0)
  have := h.b10
  omega

theorem specAdd_any (a b : Int) (s t : ByteArray) (w : World) (hs : s.size ≤ maxLen) (ht : t.size ≤ maxLen) :
    Calls Try.prog 23 #[.agg #[.int .i64 a, .int .i64 b], .string s, .string t] w fun e w' => e = .returned (.tuple #[.string (addZ a b s t), .bool (twoB a b s t)]) ∧ Below w.heap.size w w' := by
  have HS := Lib.hid hs
  have HT := Lib.hid ht
  clear hs ht
  by_cases hg : twoB a b s t = true
  · have HG := Lib.hid hg
    clear hg
    go_enter Try.func23, Try.ntmps23
    go_wp2_with (first | (go_at_call 56; refine (whTwo_any _ _ _ _ _ HS.out HT.out).mono ?_; rw [HG.out]; rintro e w1 ⟨rfl, hb⟩; obtain ⟨hc, hf, hz⟩ := bcell hb; have hz0 : w.heap.size < w1.heap.size := by (try simp at hz); omega) | (go_at_call 57; refine (whAddPlus_any _ _ _ _ _ (two_yes HG.out).1 (two_yes HG.out).2).mono ?_; rintro e w1 ⟨rfl, hb⟩; obtain ⟨hc, hf, hz⟩ := bcell hb; have hz0 : w.heap.size < w1.heap.size := by (try simp at hz); omega))
    go_ret2
    refine ⟨by rw [HG.out, addZ_yes HG.out]; rfl, ?_⟩
    (repeat (first | assumption | exact Below.refl _ _ | (refine Below.alloc ?_ (by first | omega | (simp; done) | (simp; omega)) _) | (refine Below.setCell ?_ (by first | omega | (simp; done) | (simp; omega)) _) | refine bel_drewN ?_ _ | refine bel_drew ?_ | (refine bel_call ?_ (by assumption))))
  · have HG := Lib.hid (Bool.eq_false_iff.2 hg)
    clear hg
    go_enter Try.func23, Try.ntmps23
    go_wp2_with (first | (go_at_call 56; refine (whTwo_any _ _ _ _ _ HS.out HT.out).mono ?_; rw [HG.out]; rintro e w1 ⟨rfl, hb⟩; obtain ⟨hc, hf, hz⟩ := bcell hb; have hz0 : w.heap.size < w1.heap.size := by (try simp at hz); omega))
    go_ret2
    refine ⟨by rw [HG.out, addZ_no HG.out]; rfl, ?_⟩
    (repeat (first | assumption | exact Below.refl _ _ | (refine Below.alloc ?_ (by first | omega | (simp; done) | (simp; omega)) _) | (refine Below.setCell ?_ (by first | omega | (simp; done) | (simp; omega)) _) | refine bel_drewN ?_ _ | refine bel_drew ?_ | (refine bel_call ?_ (by assumption))))

theorem add_any (a b : Int) (s t : ByteArray) (w : World) (hs : s.size ≤ maxLen) (ht : t.size ≤ maxLen) :
    Calls Try.prog 24 #[.agg #[.int .i64 a, .int .i64 b], .string s, .string t] w fun e w' => e = .returned (.tuple #[.string (addZ a b s t), .bool (twoB a b s t)]) ∧ Below w.heap.size w w' := by
  have HS := Lib.hid hs
  have HT := Lib.hid ht
  clear hs ht
  by_cases h1 : askB a b s = true
  · have H1 := Lib.hid h1
    by_cases h2 : askB a b t = true
    · have H2 := Lib.hid h2
      have HG : Hid (twoB a b s t = true) := Lib.hid (by unfold twoB; rw [h1, h2]; rfl)
      have HZ := Lib.hid (zip_digits (asked h1) (asked h2) (addI b) (addI_bd (asked h1).b2))
      have n6 := (asked h1).n6
      clear h1 h2
      go_enter Try.func24, Try.ntmps24
      go_wp2_with (first | (go_at_call_of 41 s; refine (hasCode_any _ _ _ _ HS.out).mono ?_; rw [ask_eq, H1.out]; rintro e w1 ⟨rfl, hb⟩; obtain ⟨hc, hf, hz⟩ := bcell hb; have hz0 : w.heap.size < w1.heap.size := by (try simp at hz); omega) | (go_at_call_of 41 t; refine (hasCode_any _ _ _ _ HT.out).mono ?_; rw [ask_eq, H2.out]; rintro e w1 ⟨rfl, hb⟩; obtain ⟨hc, hf, hz⟩ := bcell hb; have hz0 : w.heap.size < w1.heap.size := by (try simp at hz); omega) | (go_at_call 58; refine (pairSum_any _ _ _ _ _ H1.out H2.out).mono ?_; rintro e w2 ⟨g, c, rfl, hgg, hC, hb2⟩) | (go_at_call 55; refine (codeOf_n _ _ _ HZ.out.2 _ hC HZ.out.1 (by omega)).mono ?_; rintro e w3 ⟨rfl, hb3⟩))
      go_ret2
      refine ⟨by rw [HG.out, addZ_yes HG.out]; rfl, ?_⟩
      (repeat (first | assumption | exact Below.refl _ _ | (refine Below.alloc ?_ (by first | omega | (simp; done) | (simp; omega)) _) | (refine Below.setCell ?_ (by first | omega | (simp; done) | (simp; omega)) _) | refine bel_drewN ?_ _ | refine bel_drew ?_ | (refine bel_call ?_ (by assumption))))
    · have H2 := Lib.hid (Bool.eq_false_iff.2 h2)
      have HG : Hid (twoB a b s t = false) := Lib.hid (by unfold twoB; rw [h1, H2.out]; rfl)
      clear h1 h2
      go_enter Try.func24, Try.ntmps24
      go_wp2_with (first | (go_at_call_of 41 s; refine (hasCode_any _ _ _ _ HS.out).mono ?_; rw [ask_eq, H1.out]; rintro e w1 ⟨rfl, hb⟩; obtain ⟨hc, hf, hz⟩ := bcell hb; have hz0 : w.heap.size < w1.heap.size := by (try simp at hz); omega) | (go_at_call_of 41 t; refine (hasCode_any _ _ _ _ HT.out).mono ?_; rw [ask_eq, H2.out]; rintro e w1 ⟨rfl, hb⟩; obtain ⟨hc, hf, hz⟩ := bcell hb; have hz0 : w.heap.size < w1.heap.size := by (try simp at hz); omega))
      go_ret2
      refine ⟨by rw [HG.out, addZ_no HG.out]; rfl, ?_⟩
      (repeat (first | assumption | exact Below.refl _ _ | (refine Below.alloc ?_ (by first | omega | (simp; done) | (simp; omega)) _) | (refine Below.setCell ?_ (by first | omega | (simp; done) | (simp; omega)) _) | refine bel_drewN ?_ _ | refine bel_drew ?_ | (refine bel_call ?_ (by assumption))))
  · have H1 := Lib.hid (Bool.eq_false_iff.2 h1)
    have HG : Hid (twoB a b s t = false) := Lib.hid (by unfold twoB; rw [H1.out]; rfl)
    clear h1
    go_enter Try.func24, Try.ntmps24
    go_wp2_with (go_at_call_of 41 s; refine (hasCode_any _ _ _ _ HS.out).mono ?_; rw [ask_eq, H1.out]; rintro e w1 ⟨rfl, hb⟩; obtain ⟨hc, hf, hz⟩ := bcell hb; have hz0 : w.heap.size < w1.heap.size := by (try simp at hz); omega)
    go_ret2
    refine ⟨by rw [HG.out, addZ_no HG.out]; rfl, ?_⟩
    (repeat (first | assumption | exact Below.refl _ _ | (refine Below.alloc ?_ (by first | omega | (simp; done) | (simp; omega)) _) | (refine Below.setCell ?_ (by first | omega | (simp; done) | (simp; omega)) _) | refine bel_drewN ?_ _ | refine bel_drew ?_ | (refine bel_call ?_ (by assumption))))

end Go.Proofs.Ythnekpdakjcadab
