/- Places and other digits of a guess for a code: what both programs answer. No conditions. -/
import Derived.Test.YtfgogiafimiibaaHk
import Derived.Test.YtfgogiafimiibaaDead
import Derived.OwnWalk
namespace Go.Proofs.Ytfgogiafimiibaa
open Go.ChangeShapes Go.WideShapes Go.ChangeAt Go.RowKit Go.Joins

/-- There is a lock with at most m codes. -/
def limB (m a b : Int) : Bool := goodB a b && decide (countZ a b ≤ m)

theorem limB_search (a b : Int) : limB 1000 a b = searchB a b := rfl

theorem hiLock_any (a b m : Int) (w : World) :
    Calls Try.prog 63 #[.agg #[.int .i64 a, .int .i64 b], .int .i64 m] w fun e w' => e = .returned (.bool (limB m a b)) ∧ Below w.heap.size w w' := by
  by_cases hg : goodB a b = true
  · have HG := Lib.hid hg
    have hg' := good_yes hg
    obtain ⟨n, rfl⟩ : ∃ n : Nat, a = n := ⟨a.toNat, by omega⟩
    have HV : Hid (limB m n b = decide (pw b n ≤ m)) := Lib.hid (by unfold limB; rw [hg, countZ_yes hg]; rfl)
    clear hg hg'
    go_enter Try.func63, Try.ntmps63
    go_wp2_with (first | (go_at_call 98; refine (whGood_any _ _ _).mono ?_; rw [HG.out]; rintro e w1 ⟨rfl, hb⟩; obtain ⟨hc, hf, hz⟩ := bcell hb; have hz0 : w.heap.size < w1.heap.size := by (try simp at hz); omega) | (go_at_call 99; refine (whCount_any _ _ _ HG.out).mono ?_; rintro e w1 ⟨rfl, hb⟩; obtain ⟨hc, hf, hz⟩ := bcell hb; have hz0 : w.heap.size < w1.heap.size := by (try simp at hz); omega))
    go_ret
    refine ⟨ret_bool HV.out.symm, ?_⟩
    (repeat (first | assumption | exact Below.refl _ _ | (refine Below.alloc ?_ (by first | omega | (simp; done) | (simp; omega)) _) | (refine Below.setCell ?_ (by first | omega | (simp; done) | (simp; omega)) _) | refine bel_drewN ?_ _ | refine bel_drew ?_ | (refine bel_call ?_ (by assumption))))
  · have HG := Lib.hid (Bool.eq_false_iff.2 hg)
    have HV : Hid (limB m a b = false) := Lib.hid (by unfold limB; rw [HG.out]; rfl)
    clear hg
    go_enter Try.func63, Try.ntmps63
    go_wp2_with (first | (go_at_call 98; refine (whGood_any _ _ _).mono ?_; rw [HG.out]; rintro e w1 ⟨rfl, hb⟩; obtain ⟨hc, hf, hz⟩ := bcell hb; have hz0 : w.heap.size < w1.heap.size := by (try simp at hz); omega))
    go_ret
    refine ⟨ret_bool HV.out.symm, ?_⟩
    (repeat (first | assumption | exact Below.refl _ _ | (refine Below.alloc ?_ (by first | omega | (simp; done) | (simp; omega)) _) | (refine Below.setCell ?_ (by first | omega | (simp; done) | (simp; omega)) _) | refine bel_drewN ?_ _ | refine bel_drew ?_ | (refine bel_call ?_ (by assumption))))

/-- There are a lock of few codes and two codes of it. -/
def h2B (a b : Int) (s t : ByteArray) : Bool := searchB a b && isCodeB a b s && isCodeB a b t

theorem h2B_two {a b : Int} {s t : ByteArray} (h : searchB a b = true) (hs : isCodeB a b s = true) (ht : isCodeB a b t = true) : TwoD s t := by
  have hg := (searchB_good h).1
  exact twoD_of (asked (by unfold askB; rw [hg, hs]; rfl)) (asked (by unfold askB; rw [hg, ht]; rfl))

/-- What HintOf answers. -/
def hoP (a b : Int) (s t : ByteArray) : Int := if h2B a b s t then hiP s t else 0
def hoO (a b : Int) (s t : ByteArray) : Int := if h2B a b s t then hiO s t else 0
def hoV (a b : Int) (s t : ByteArray) : Value := .tuple #[.int .i64 (hoP a b s t), .int .i64 (hoO a b s t), .bool (h2B a b s t)]

theorem hoV_no {a b : Int} {s t : ByteArray} (h : h2B a b s t = false) : hoV a b s t = .tuple #[.int .i64 0, .int .i64 0, .bool false] := by
  unfold hoV hoP hoO; rw [h]; rfl

theorem hoV_yes {a b : Int} {s t : ByteArray} (h : h2B a b s t = true) : hoV a b s t = .tuple #[.int .i64 (hiP s t), .int .i64 (hiO s t), .bool true] := by
  unfold hoV hoP hoO; rw [h]; rfl

set_option maxHeartbeats 1000000 in
theorem specHintOf_any (a b : Int) (s t : ByteArray) (w : World) (hs : s.size ≤ maxLen) (ht : t.size ≤ maxLen) :
    Calls Try.prog 18 #[.agg #[.int .i64 a, .int .i64 b], .string s, .string t] w fun e w' => e = .returned (hoV a b s t) ∧ Below w.heap.size w w' := by
  have HS := Lib.hid hs
  have HT := Lib.hid ht
  clear hs ht
  by_cases h1 : searchB a b = true
  · have H1 := Lib.hid h1
    have HG := Lib.hid (searchB_good h1).1
    by_cases h2 : isCodeB a b s = true
    · have H2 := Lib.hid h2
      by_cases h3 : isCodeB a b t = true
      · have H3 := Lib.hid h3
        have HD := Lib.hid (h2B_two h1 h2 h3)
        have HV := Lib.hid (hoV_yes (a := a) (b := b) (s := s) (t := t) (by unfold h2B; rw [h1, h2, h3]; rfl))
        clear h1 h2 h3
        go_enter Try.func18, Try.ntmps18
        go_wp2_with (first | (go_at_call 63; refine (hiLock_any _ _ _ _).mono ?_; rw [limB_search, H1.out]; rintro e w1 ⟨rfl, hb⟩; obtain ⟨hc, hf, hz⟩ := bcell hb; have hz0 : w.heap.size < w1.heap.size := by (try simp at hz); omega) | (go_at_call_of 64 s; refine (whCode_any _ _ _ _ HS.out HG.out).mono ?_; rw [H2.out]; rintro e w1 ⟨rfl, hb⟩; obtain ⟨hc, hf, hz⟩ := bcell hb; have hz0 : w.heap.size < w1.heap.size := by (try simp at hz); omega) | (go_at_call_of 64 t; refine (whCode_any _ _ _ _ HT.out HG.out).mono ?_; rw [H3.out]; rintro e w1 ⟨rfl, hb⟩; obtain ⟨hc, hf, hz⟩ := bcell hb; have hz0 : w.heap.size < w1.heap.size := by (try simp at hz); omega) | (go_at_call 65; refine (hiOf_any _ _ _ HD.out).mono ?_; rintro e w1 ⟨rfl, hb⟩; obtain ⟨hc, hf, hz⟩ := bcell hb; have hz0 : w.heap.size < w1.heap.size := by (try simp at hz); omega))
        go_ret3
        refine ⟨HV.out ▸ rfl, ?_⟩
        (repeat (first | assumption | exact Below.refl _ _ | (refine Below.alloc ?_ (by first | omega | (simp; done) | (simp; omega)) _) | (refine Below.setCell ?_ (by first | omega | (simp; done) | (simp; omega)) _) | refine bel_drewN ?_ _ | refine bel_drew ?_ | (refine bel_call ?_ (by assumption))))
      · have H3 := Lib.hid (Bool.eq_false_iff.2 h3)
        have HV := Lib.hid (hoV_no (a := a) (b := b) (s := s) (t := t) (by unfold h2B; rw [H3.out, Bool.and_false]))
        clear h1 h2 h3
        go_enter Try.func18, Try.ntmps18
        go_wp2_with (first | (go_at_call 63; refine (hiLock_any _ _ _ _).mono ?_; rw [limB_search, H1.out]; rintro e w1 ⟨rfl, hb⟩; obtain ⟨hc, hf, hz⟩ := bcell hb; have hz0 : w.heap.size < w1.heap.size := by (try simp at hz); omega) | (go_at_call_of 64 s; refine (whCode_any _ _ _ _ HS.out HG.out).mono ?_; rw [H2.out]; rintro e w1 ⟨rfl, hb⟩; obtain ⟨hc, hf, hz⟩ := bcell hb; have hz0 : w.heap.size < w1.heap.size := by (try simp at hz); omega) | (go_at_call_of 64 t; refine (whCode_any _ _ _ _ HT.out HG.out).mono ?_; rw [H3.out]; rintro e w1 ⟨rfl, hb⟩; obtain ⟨hc, hf, hz⟩ := bcell hb; have hz0 : w.heap.size < w1.heap.size := by (try simp at hz); omega))
        go_ret3
        refine ⟨HV.out ▸ rfl, ?_⟩
        (repeat (first | assumption | exact Below.refl _ _ | (refine Below.alloc ?_ (by first | omega | (simp; done) | (simp; omega)) _) | (refine Below.setCell ?_ (by first | omega | (simp; done) | (simp; omega)) _) | refine bel_drewN ?_ _ | refine bel_drew ?_ | (refine bel_call ?_ (by assumption))))
    · have H2 := Lib.hid (Bool.eq_false_iff.2 h2)
      have HV := Lib.hid (hoV_no (a := a) (b := b) (s := s) (t := t) (by unfold h2B; rw [H2.out, Bool.and_false]; rfl))
      clear h1 h2
      go_enter Try.func18, Try.ntmps18
      go_wp2_with (first | (go_at_call 63; refine (hiLock_any _ _ _ _).mono ?_; rw [limB_search, H1.out]; rintro e w1 ⟨rfl, hb⟩; obtain ⟨hc, hf, hz⟩ := bcell hb; have hz0 : w.heap.size < w1.heap.size := by (try simp at hz); omega) | (go_at_call_of 64 s; refine (whCode_any _ _ _ _ HS.out HG.out).mono ?_; rw [H2.out]; rintro e w1 ⟨rfl, hb⟩; obtain ⟨hc, hf, hz⟩ := bcell hb; have hz0 : w.heap.size < w1.heap.size := by (try simp at hz); omega))
      go_ret3
      refine ⟨HV.out ▸ rfl, ?_⟩
      (repeat (first | assumption | exact Below.refl _ _ | (refine Below.alloc ?_ (by first | omega | (simp; done) | (simp; omega)) _) | (refine Below.setCell ?_ (by first | omega | (simp; done) | (simp; omega)) _) | refine bel_drewN ?_ _ | refine bel_drew ?_ | (refine bel_call ?_ (by assumption))))
  · have H1 := Lib.hid (Bool.eq_false_iff.2 h1)
    have HV := Lib.hid (hoV_no (a := a) (b := b) (s := s) (t := t) (by unfold h2B; rw [H1.out]; rfl))
    clear h1
    go_enter Try.func18, Try.ntmps18
    go_wp2_with (go_at_call 63; refine (hiLock_any _ _ _ _).mono ?_; rw [limB_search, H1.out]; rintro e w1 ⟨rfl, hb⟩; obtain ⟨hc, hf, hz⟩ := bcell hb; have hz0 : w.heap.size < w1.heap.size := by (try simp at hz); omega)
    go_ret3
    refine ⟨HV.out ▸ rfl, ?_⟩
    (repeat (first | assumption | exact Below.refl _ _ | (refine Below.alloc ?_ (by first | omega | (simp; done) | (simp; omega)) _) | (refine Below.setCell ?_ (by first | omega | (simp; done) | (simp; omega)) _) | refine bel_drewN ?_ _ | refine bel_drew ?_ | (refine bel_call ?_ (by assumption))))

set_option maxHeartbeats 1000000 in
theorem implHintOf_any (a b : Int) (s t : ByteArray) (w : World) (hs : s.size ≤ maxLen) (ht : t.size ≤ maxLen) :
    Calls Try.prog 20 #[.agg #[.int .i64 a, .int .i64 b], .string s, .string t] w fun e w' => e = .returned (hoV a b s t) ∧ Below w.heap.size w w' := by
  have HS := Lib.hid hs
  have HT := Lib.hid ht
  clear hs ht
  by_cases h1 : searchB a b = true
  · have H1 := Lib.hid h1
    have HG := Lib.hid (searchB_good h1).1
    by_cases h2 : isCodeB a b s = true
    · have H2 := Lib.hid h2
      by_cases h3 : isCodeB a b t = true
      · have H3 := Lib.hid h3
        have HD := Lib.hid (h2B_two h1 h2 h3)
        have HV := Lib.hid (hoV_yes (a := a) (b := b) (s := s) (t := t) (by unfold h2B; rw [h1, h2, h3]; rfl))
        clear h1 h2 h3
        go_enter Try.func20, Try.ntmps20
        go_wp2_with (first | (go_at_call 66; refine (isSearched_any _ _ _).mono ?_; rw [H1.out]; rintro e w1 ⟨rfl, hb⟩; obtain ⟨hc, hf, hz⟩ := bcell hb; have hz0 : w.heap.size < w1.heap.size := by (try simp at hz); omega) | (go_at_call_of 67 s; refine (hasCode_any _ _ _ _ HS.out).mono ?_; rw [HG.out, H2.out]; rintro e w1 ⟨rfl, hb⟩; obtain ⟨hc, hf, hz⟩ := bcell hb; have hz0 : w.heap.size < w1.heap.size := by (try simp at hz); omega) | (go_at_call_of 67 t; refine (hasCode_any _ _ _ _ HT.out).mono ?_; rw [HG.out, H3.out]; rintro e w1 ⟨rfl, hb⟩; obtain ⟨hc, hf, hz⟩ := bcell hb; have hz0 : w.heap.size < w1.heap.size := by (try simp at hz); omega) | (go_at_call 68; refine (hintOf_any _ _ _ HD.out).mono ?_; rintro e w1 ⟨rfl, hb⟩; obtain ⟨hc, hf, hz⟩ := bcell hb; have hz0 : w.heap.size < w1.heap.size := by (try simp at hz); omega))
        go_quiet (fail)
        go_wp2
        go_ret3
        refine ⟨HV.out ▸ rfl, ?_⟩
        (repeat (first | assumption | exact Below.refl _ _ | (refine Below.alloc ?_ (by first | omega | (simp; done) | (simp; omega)) _) | (refine Below.setCell ?_ (by first | omega | (simp; done) | (simp; omega)) _) | refine bel_drewN ?_ _ | refine bel_drew ?_ | (refine bel_call ?_ (by assumption))))
      · have H3 := Lib.hid (Bool.eq_false_iff.2 h3)
        have HV := Lib.hid (hoV_no (a := a) (b := b) (s := s) (t := t) (by unfold h2B; rw [H3.out, Bool.and_false]))
        clear h1 h2 h3
        go_enter Try.func20, Try.ntmps20
        go_wp2_with (first | (go_at_call 66; refine (isSearched_any _ _ _).mono ?_; rw [H1.out]; rintro e w1 ⟨rfl, hb⟩; obtain ⟨hc, hf, hz⟩ := bcell hb; have hz0 : w.heap.size < w1.heap.size := by (try simp at hz); omega) | (go_at_call_of 67 s; refine (hasCode_any _ _ _ _ HS.out).mono ?_; rw [HG.out, H2.out]; rintro e w1 ⟨rfl, hb⟩; obtain ⟨hc, hf, hz⟩ := bcell hb; have hz0 : w.heap.size < w1.heap.size := by (try simp at hz); omega) | (go_at_call_of 67 t; refine (hasCode_any _ _ _ _ HT.out).mono ?_; rw [HG.out, H3.out]; rintro e w1 ⟨rfl, hb⟩; obtain ⟨hc, hf, hz⟩ := bcell hb; have hz0 : w.heap.size < w1.heap.size := by (try simp at hz); omega))
        go_ret3
        refine ⟨HV.out ▸ rfl, ?_⟩
        (repeat (first | assumption | exact Below.refl _ _ | (refine Below.alloc ?_ (by first | omega | (simp; done) | (simp; omega)) _) | (refine Below.setCell ?_ (by first | omega | (simp; done) | (simp; omega)) _) | refine bel_drewN ?_ _ | refine bel_drew ?_ | (refine bel_call ?_ (by assumption))))
    · have H2 := Lib.hid (Bool.eq_false_iff.2 h2)
      have HV := Lib.hid (hoV_no (a := a) (b := b) (s := s) (t := t) (by unfold h2B; rw [H2.out, Bool.and_false]; rfl))
      clear h1 h2
      go_enter Try.func20, Try.ntmps20
      go_wp2_with (first | (go_at_call 66; refine (isSearched_any _ _ _).mono ?_; rw [H1.out]; rintro e w1 ⟨rfl, hb⟩; obtain ⟨hc, hf, hz⟩ := bcell hb; have hz0 : w.heap.size < w1.heap.size := by (try simp at hz); omega) | (go_at_call_of 67 s; refine (hasCode_any _ _ _ _ HS.out).mono ?_; rw [HG.out, H2.out]; rintro e w1 ⟨rfl, hb⟩; obtain ⟨hc, hf, hz⟩ := bcell hb; have hz0 : w.heap.size < w1.heap.size := by (try simp at hz); omega))
      go_ret3
      refine ⟨HV.out ▸ rfl, ?_⟩
      (repeat (first | assumption | exact Below.refl _ _ | (refine Below.alloc ?_ (by first | omega | (simp; done) | (simp; omega)) _) | (refine Below.setCell ?_ (by first | omega | (simp; done) | (simp; omega)) _) | refine bel_drewN ?_ _ | refine bel_drew ?_ | (refine bel_call ?_ (by assumption))))
  · have H1 := Lib.hid (Bool.eq_false_iff.2 h1)
    have HV := Lib.hid (hoV_no (a := a) (b := b) (s := s) (t := t) (by unfold h2B; rw [H1.out]; rfl))
    clear h1
    go_enter Try.func20, Try.ntmps20
    go_wp2_with (go_at_call 66; refine (isSearched_any _ _ _).mono ?_; rw [H1.out]; rintro e w1 ⟨rfl, hb⟩; obtain ⟨hc, hf, hz⟩ := bcell hb; have hz0 : w.heap.size < w1.heap.size := by (try simp at hz); omega)
    go_ret3
    refine ⟨HV.out ▸ rfl, ?_⟩
    (repeat (first | assumption | exact Below.refl _ _ | (refine Below.alloc ?_ (by first | omega | (simp; done) | (simp; omega)) _) | (refine Below.setCell ?_ (by first | omega | (simp; done) | (simp; omega)) _) | refine bel_drewN ?_ _ | refine bel_drew ?_ | (refine bel_call ?_ (by assumption))))

theorem specHintOf_t (a b : Int) (s t : ByteArray) (w : World) (hs : s.size ≤ maxLen) (ht : t.size ≤ maxLen) :
    Calls Try.prog 18 #[.agg #[.int .i64 a, .int .i64 b], .string s, .string t] w fun e w' => e = .returned (.tuple #[.int .i64 (hoP a b s t), .int .i64 (hoO a b s t), .bool (h2B a b s t)]) ∧ Below w.heap.size w w' :=
  specHintOf_any a b s t w hs ht

theorem implHintOf_t (a b : Int) (s t : ByteArray) (w : World) (hs : s.size ≤ maxLen) (ht : t.size ≤ maxLen) :
    Calls Try.prog 20 #[.agg #[.int .i64 a, .int .i64 b], .string s, .string t] w fun e w' => e = .returned (.tuple #[.int .i64 (hoP a b s t), .int .i64 (hoO a b s t), .bool (h2B a b s t)]) ∧ Below w.heap.size w w' :=
  implHintOf_any a b s t w hs ht

end Go.Proofs.Ytfgogiafimiibaa
