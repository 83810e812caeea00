/- Opposite codes, as both programs make them. No conditions. -/
import Derived.Test.YthnekpdakjcadabAddCodes
namespace Go.Proofs.Ythnekpdakjcadab
open Go.ChangeShapes Go.WideShapes Go.ChangeAt Go.RowKit Go.Joins

theorem ask_zero {n : Nat} {b : Int} (h : goodB n b = true) : askB n b (textOf (List.replicate n 0)) = true := by
  have hg := good_yes h
  unfold askB isCodeB
  rw [h, textOf_size]
  simp only [List.length_replicate, Bool.true_and, Bool.and_eq_true, decide_eq_true_eq, List.all_eq_true, true_and]
  intro c hc
  unfold textOf at hc
  rw [strOfNums_data] at hc
  simp at hc
  obtain ⟨_, rfl⟩ := hc
  unfold digitB
  simp
  omega

def oppZ (a b : Int) (s : ByteArray) : ByteArray := if askB a b s then textOf ((dg (zerosT a b)).zipWith (subI b) (dg s)) else ⟨#[]⟩
theorem oppZ_yes {n : Nat} {b : Int} {s : ByteArray} (h : askB n b s = true) : oppZ n b s = textOf ((dg (textOf (List.replicate n 0))).zipWith (subI b) (dg s)) := by
  unfold oppZ
  rw [h, zerosT_yes (asked h).good]
  rfl
theorem oppZ_no {a b : Int} {s : ByteArray} (h : askB a b s = false) : oppZ a b s = ⟨#[]⟩ := by unfold oppZ; rw [h]; rfl

set_option maxHeartbeats 4000000 in
theorem specOpposite_any (a b : Int) (s : ByteArray) (w : World) (hs : s.size ≤ maxLen) :
    Calls Try.prog 25 #[.agg #[.int .i64 a, .int .i64 b], .string s] w fun e w' => e = .returned (.tuple #[.string (oppZ a b s), .bool (askB a b s)]) ∧ Below w.heap.size w w' := by
  have HS := Lib.hid hs
  clear hs
  by_cases hg : askB a b s = true
  · have HG := Lib.hid hg
    obtain ⟨n, rfl⟩ : ∃ n : Nat, a = n := ⟨s.size, (asked hg).size⟩
    have hz := ask_zero (asked hg).good
    have HZ := Lib.hid hz
    have hn : n ≤ 6 := by have h1 := (asked hg).size; have h2 := (asked hg).n6; omega
    have hmk := make_ints n (by omega)
    clear hg hz
    go_enter Try.func25, Try.ntmps25
    go_wp2_with (go_at_call 36; refine (whAsked_any _ _ _ _ HS.out).mono ?_; rw [HG.out]; rintro e w1 ⟨rfl, hb⟩; obtain ⟨hc, hf, hz⟩ := bcell hb; have hz0 : w.heap.size < w1.heap.size := by (try simp at hz); omega)
    have l0 : w1.cell? ⟨w.heap.size, 0, none⟩ = some (.int .i64 n) := by rw [hc _ _ (by simp)]; simp
    have l1 : w1.cell? ⟨w.heap.size, 1, none⟩ = some (.int .i64 b) := by rw [hc _ _ (by simp)]; simp
    have hB : Below w.heap.size w w1 := by (repeat (first | assumption | exact Below.refl _ _ | (refine Below.alloc ?_ (by first | omega | (simp; done) | (simp; omega)) _) | (refine Below.setCell ?_ (by first | omega | (simp; done) | (simp; omega)) _) | refine bel_drewN ?_ _ | refine bel_drew ?_ | (refine bel_call ?_ (by assumption))))
    clear hc hf hz hb
    go_region_with (first
      | (go_at_call 60; refine (whText_n _ _ (List.replicate n 0) (by simp) _ (zeros_cells _ _).drew (digits_zeros _) (by omega)).mono ?_; rintro e w2 ⟨rfl, hb2⟩; have m0 : w2.cell? ⟨w.heap.size, 0, none⟩ = some (.int .i64 n) := (hb2.cell (p := ⟨w.heap.size, 0, none⟩) (by simp; omega)).trans (by rw [World.cell?_drew, World.cell?_alloc_lt _ _ _ hz0]; exact l0); have m1 : w2.cell? ⟨w.heap.size, 1, none⟩ = some (.int .i64 b) := (hb2.cell (p := ⟨w.heap.size, 1, none⟩) (by simp; omega)).trans (by rw [World.cell?_drew, World.cell?_alloc_lt _ _ _ hz0]; exact l1))
      | (go_at_call 57; refine (whAddMinus_any _ _ _ _ _ HZ.out HG.out).mono ?_; rintro e w3 ⟨rfl, hb3⟩))
    all_goals go_wp2
    all_goals go_ret2
    all_goals refine ⟨by rw [HG.out, oppZ_yes HG.out]; rfl, ?_⟩
    all_goals (repeat (first | assumption | exact Below.refl _ _ | (refine Below.alloc ?_ (by first | omega | (simp; done) | (simp; omega)) _) | (refine Below.setCell ?_ (by first | omega | (simp; done) | (simp; omega)) _) | refine bel_drewN ?_ _ | refine bel_drew ?_ | (refine bel_call ?_ (by assumption))))
  · have HG := Lib.hid (Bool.eq_false_iff.2 hg)
    clear hg
    go_enter Try.func25, Try.ntmps25
    go_wp2_with (go_at_call 36; refine (whAsked_any _ _ _ _ HS.out).mono ?_; rw [HG.out]; rintro e w1 ⟨rfl, hb⟩; obtain ⟨hc, hf, hz⟩ := bcell hb; have hz0 : w.heap.size < w1.heap.size := by (try simp at hz); omega)
    go_ret2
    refine ⟨by rw [HG.out, oppZ_no HG.out]; rfl, ?_⟩
    (repeat (first | assumption | exact Below.refl _ _ | (refine Below.alloc ?_ (by first | omega | (simp; done) | (simp; omega)) _) | (refine Below.setCell ?_ (by first | omega | (simp; done) | (simp; omega)) _) | refine bel_drewN ?_ _ | refine bel_drew ?_ | (refine bel_call ?_ (by assumption))))

theorem opposite_any (a b : Int) (s : ByteArray) (w : World) (hs : s.size ≤ maxLen) :
    Calls Try.prog 26 #[.agg #[.int .i64 a, .int .i64 b], .string s] w fun e w' => e = .returned (.tuple #[.string (oppZ a b s), .bool (askB a b s)]) ∧ Below w.heap.size w w' := by
  have HS := Lib.hid hs
  clear hs
  by_cases hg : askB a b s = true
  · have HG := Lib.hid hg
    obtain ⟨n, rfl⟩ : ∃ n : Nat, a = n := ⟨s.size, (asked hg).size⟩
    have HZ := Lib.hid (ask_zero (asked hg).good)
    have hn : n ≤ 6 := by have h1 := (asked hg).size; have h2 := (asked hg).n6; omega
    have HO := Lib.hid (asked hg).good
    have HD := Lib.hid (zip_digits (asked HZ.out) (asked hg) (subI b) (subI_bd (asked hg).b2))
    have hl : (textOf (List.replicate n 0)).size ≤ 6 := by rw [textOf_size]; simpa using hn
    clear hg
    go_enter Try.func26, Try.ntmps26
    go_wp2_with (first | (go_at_call 61; refine (zero_any _ _ _).mono ?_; rw [HO.out, zerosT_yes HO.out]; rintro e w1 ⟨rfl, hb⟩; obtain ⟨hc, hf, hz⟩ := bcell hb; have hz0 : w.heap.size < w1.heap.size := by (try simp at hz); omega) | (go_at_call 41; refine (hasCode_any _ _ _ _ HS.out).mono ?_; rw [ask_eq, HG.out]; rintro e w1 ⟨rfl, hb⟩; obtain ⟨hc, hf, hz⟩ := bcell hb; have hz0 : w.heap.size < w1.heap.size := by (try simp at hz); omega) | (go_at_call 58; refine (pairDiff_any _ _ _ _ _ HZ.out HG.out).mono ?_; rintro e w2 ⟨g, c, rfl, hgg, hC, hb2⟩) | (go_at_call 55; refine (codeOf_n _ _ _ HD.out.2 _ hC HD.out.1 (by omega)).mono ?_; rintro e w3 ⟨rfl, hb3⟩))
    go_ret2
    refine ⟨by rw [HG.out, oppZ_yes HG.out]; rfl, ?_⟩
    (repeat (first | assumption | exact Below.refl _ _ | (refine Below.alloc ?_ (by first | omega | (simp; done) | (simp; omega)) _) | (refine Below.setCell ?_ (by first | omega | (simp; done) | (simp; omega)) _) | refine bel_drewN ?_ _ | refine bel_drew ?_ | (refine bel_call ?_ (by assumption))))
  · have HG := Lib.hid (Bool.eq_false_iff.2 hg)
    clear hg
    by_cases hg : goodB a b = true
    · have HO := Lib.hid hg
      clear hg
      go_enter Try.func26, Try.ntmps26
      go_wp2_with (first | (go_at_call 61; refine (zero_any _ _ _).mono ?_; rw [HO.out]; rintro e w1 ⟨rfl, hb⟩; obtain ⟨hc, hf, hz⟩ := bcell hb; have hz0 : w.heap.size < w1.heap.size := by (try simp at hz); omega) | (go_at_call 41; refine (hasCode_any _ _ _ _ HS.out).mono ?_; rw [ask_eq, HG.out]; rintro e w1 ⟨rfl, hb⟩; obtain ⟨hc, hf, hz⟩ := bcell hb; have hz0 : w.heap.size < w1.heap.size := by (try simp at hz); omega))
      go_ret2
      refine ⟨by rw [HG.out, oppZ_no HG.out]; rfl, ?_⟩
      (repeat (first | assumption | exact Below.refl _ _ | (refine Below.alloc ?_ (by first | omega | (simp; done) | (simp; omega)) _) | (refine Below.setCell ?_ (by first | omega | (simp; done) | (simp; omega)) _) | refine bel_drewN ?_ _ | refine bel_drew ?_ | (refine bel_call ?_ (by assumption))))
    · have HO := Lib.hid (Bool.eq_false_iff.2 hg)
      clear hg
      go_enter Try.func26, Try.ntmps26
      go_wp2_with (first | (go_at_call 61; refine (zero_any _ _ _).mono ?_; rw [HO.out]; rintro e w1 ⟨rfl, hb⟩; obtain ⟨hc, hf, hz⟩ := bcell hb; have hz0 : w.heap.size < w1.heap.size := by (try simp at hz); omega))
      go_ret2
      refine ⟨by rw [HG.out, oppZ_no HG.out]; rfl, ?_⟩
      (repeat (first | assumption | exact Below.refl _ _ | (refine Below.alloc ?_ (by first | omega | (simp; done) | (simp; omega)) _) | (refine Below.setCell ?_ (by first | omega | (simp; done) | (simp; omega)) _) | refine bel_drewN ?_ _ | refine bel_drew ?_ | (refine bel_call ?_ (by assumption))))

end Go.Proofs.Ythnekpdakjcadab
