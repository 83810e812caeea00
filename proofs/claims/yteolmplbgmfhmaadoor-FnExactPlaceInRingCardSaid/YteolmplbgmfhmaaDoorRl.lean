/- A lock of few codes and a text of its digits: what both programs ask first. No conditions. -/
import Derived.Test.YteolmplbgmfhmaaDoorRm
import Derived.Lib.OthersKept
import Derived.LoopTactic
import Derived.Deep.QuietTactic
import Derived.BigQuiet
namespace Go.Proofs.YteolmplbgmfhmaaDoor
open Go.ChangeShapes Go.WideShapes Go.ChangeAt Go.RowKit Go.Joins

/-- How many codes a lock of few codes has. -/
def rlZ (a b : Int) : Int := if riB a b then countZ a b else 0

theorem rlZ_yes {n : Nat} {b : Int} (h : riB n b = true) : rlZ n b = pw b n := by unfold rlZ; rw [h, if_pos rfl, countZ_yes (riB_good h)]

theorem rlZ_no {a b : Int} (h : riB a b = false) : rlZ a b = 0 := by unfold rlZ; rw [h]; rfl

theorem rlZ_cn {n : Nat} {b : Int} (h : riB n b = true) : rlZ n b = (cnN n b : Int) := by
  have := cnN_cast (riB_good h)
  rw [Int.toNat_natCast] at this
  rw [rlZ_yes h, this]

theorem ringLength_any (a b : Int) (w : World) :
    Calls Tryd.prog 38 #[.agg #[.int .i64 a, .int .i64 b]] w fun e w' => e = .returned (.tuple #[.int .i64 (rlZ a b), .bool (riB a b)]) ∧ Below w.heap.size w w' := by
  by_cases hg : goodB a b = true
  · have HG := Lib.hid hg
    obtain ⟨n, rfl⟩ : ∃ n : Nat, a = n := ⟨a.toNat, by have := good_yes hg; omega⟩
    obtain ⟨h1, h2, h3, h4⟩ := good_yes hg
    obtain ⟨p1, p2⟩ := pw_bd6 h3 h4 (k := n) (by omega)
    clear hg
    by_cases hp : pw b n ≤ 1000
    · have HY := Lib.hid (riB_of HG.out hp)
      go_enter Tryd.func38, Tryd.ntmps38
      go_wp2_with (go_at_call 52; refine (count_any _ _ _).mono ?_; rw [HG.out, countZ_yes HG.out]; rintro e w1 ⟨rfl, hb⟩; obtain ⟨hc, hf, hz⟩ := bcell hb; have hz0 : w.heap.size < w1.heap.size := by (try simp at hz); omega)
      go_ret2
      refine ⟨by rw [HY.out, rlZ_yes HY.out]; rfl, ?_⟩
      (repeat (first | assumption | exact Below.refl _ _ | (refine Below.alloc ?_ (by first | omega | (simp; done) | (simp; omega)) _) | (refine Below.setCell ?_ (by first | omega | (simp; done) | (simp; omega)) _) | refine bel_drewN ?_ _ | refine bel_drew ?_ | (refine bel_call ?_ (by assumption))))
    · have HY := Lib.hid (riB_not HG.out (by omega))
      go_enter Tryd.func38, Tryd.ntmps38
      go_wp2_with (go_at_call 52; refine (count_any _ _ _).mono ?_; rw [HG.out, countZ_yes HG.out]; rintro e w1 ⟨rfl, hb⟩; obtain ⟨hc, hf, hz⟩ := bcell hb; have hz0 : w.heap.size < w1.heap.size := by (try simp at hz); omega)
      go_ret2
      refine ⟨by rw [HY.out, rlZ_no HY.out]; rfl, ?_⟩
      (repeat (first | assumption | exact Below.refl _ _ | (refine Below.alloc ?_ (by first | omega | (simp; done) | (simp; omega)) _) | (refine Below.setCell ?_ (by first | omega | (simp; done) | (simp; omega)) _) | refine bel_drewN ?_ _ | refine bel_drew ?_ | (refine bel_call ?_ (by assumption))))
  · have HG := Lib.hid (Bool.eq_false_iff.2 hg)
    have HY := Lib.hid (riB_no HG.out)
    clear hg
    go_enter Tryd.func38, Tryd.ntmps38
    go_wp2_with (go_at_call 52; refine (count_any _ _ _).mono ?_; rw [HG.out]; rintro e w1 ⟨rfl, hb⟩; obtain ⟨hc, hf, hz⟩ := bcell hb; have hz0 : w.heap.size < w1.heap.size := by (try simp at hz); omega)
    go_ret2
    refine ⟨by rw [HY.out, rlZ_no HY.out]; rfl, ?_⟩
    (repeat (first | assumption | exact Below.refl _ _ | (refine Below.alloc ?_ (by first | omega | (simp; done) | (simp; omega)) _) | (refine Below.setCell ?_ (by first | omega | (simp; done) | (simp; omega)) _) | refine bel_drewN ?_ _ | refine bel_drew ?_ | (refine bel_call ?_ (by assumption))))

theorem riGood_any (a b : Int) (w : World) :
    Calls Tryd.prog 25 #[.agg #[.int .i64 a, .int .i64 b]] w fun e w' => e = .returned (.bool (riB a b)) ∧ Below w.heap.size w w' := by
  by_cases hg : goodB a b = true
  · have HG := Lib.hid hg
    obtain ⟨n, rfl⟩ : ∃ n : Nat, a = n := ⟨a.toNat, by have := good_yes hg; omega⟩
    obtain ⟨h1, h2, h3, h4⟩ := good_yes hg
    obtain ⟨p1, p2⟩ := pw_bd6 h3 h4 (k := n) (by omega)
    clear hg
    by_cases hp : pw b n ≤ 1000
    · have HY := Lib.hid (riB_of HG.out hp)
      go_enter Tryd.func25, Tryd.ntmps25
      go_wp2_with (first | (go_at_call 43; refine (whGood_any _ _ _).mono ?_; rw [HG.out]; rintro e w1 ⟨rfl, hb⟩; obtain ⟨hc, hf, hz⟩ := bcell hb; have hz0 : w.heap.size < w1.heap.size := by (try simp at hz); omega) | (go_at_call 37; refine (whCount_any _ _ _ HG.out).mono ?_; rintro e w1 ⟨rfl, hb⟩; obtain ⟨hc, hf, hz⟩ := bcell hb; have hz0 : w.heap.size < w1.heap.size := by (try simp at hz); omega))
      go_ret
      refine ⟨ret_bool (by rw [HY.out]; try simp [hp]), ?_⟩
      (repeat (first | assumption | exact Below.refl _ _ | (refine Below.alloc ?_ (by first | omega | (simp; done) | (simp; omega)) _) | (refine Below.setCell ?_ (by first | omega | (simp; done) | (simp; omega)) _) | refine bel_drewN ?_ _ | refine bel_drew ?_ | (refine bel_call ?_ (by assumption))))
    · have HY := Lib.hid (riB_not HG.out (by omega))
      go_enter Tryd.func25, Tryd.ntmps25
      go_wp2_with (first | (go_at_call 43; refine (whGood_any _ _ _).mono ?_; rw [HG.out]; rintro e w1 ⟨rfl, hb⟩; obtain ⟨hc, hf, hz⟩ := bcell hb; have hz0 : w.heap.size < w1.heap.size := by (try simp at hz); omega) | (go_at_call 37; refine (whCount_any _ _ _ HG.out).mono ?_; rintro e w1 ⟨rfl, hb⟩; obtain ⟨hc, hf, hz⟩ := bcell hb; have hz0 : w.heap.size < w1.heap.size := by (try simp at hz); omega))
      go_ret
      refine ⟨ret_bool (by rw [HY.out]; try (simp; omega)), ?_⟩
      (repeat (first | assumption | exact Below.refl _ _ | (refine Below.alloc ?_ (by first | omega | (simp; done) | (simp; omega)) _) | (refine Below.setCell ?_ (by first | omega | (simp; done) | (simp; omega)) _) | refine bel_drewN ?_ _ | refine bel_drew ?_ | (refine bel_call ?_ (by assumption))))
  · have HG := Lib.hid (Bool.eq_false_iff.2 hg)
    have HY := Lib.hid (riB_no HG.out)
    clear hg
    go_enter Tryd.func25, Tryd.ntmps25
    go_wp2_with (first | (go_at_call 43; refine (whGood_any _ _ _).mono ?_; rw [HG.out]; rintro e w1 ⟨rfl, hb⟩; obtain ⟨hc, hf, hz⟩ := bcell hb; have hz0 : w.heap.size < w1.heap.size := by (try simp at hz); omega))
    go_ret
    refine ⟨ret_bool (by rw [HY.out]), ?_⟩
    (repeat (first | assumption | exact Below.refl _ _ | (refine Below.alloc ?_ (by first | omega | (simp; done) | (simp; omega)) _) | (refine Below.setCell ?_ (by first | omega | (simp; done) | (simp; omega)) _) | refine bel_drewN ?_ _ | refine bel_drew ?_ | (refine bel_call ?_ (by assumption))))

theorem iter_cell {w : World} {k j o : Nat} {s : ByteArray} {pos : Nat} (h : j < k) : (w.iterAt k s pos).cell? ⟨j, o, none⟩ = w.cell? ⟨j, o, none⟩ :=
  (Lib.below_iterAt (Below.refl k w) (Nat.le_refl _) s pos).cell (p := ⟨j, o, none⟩) h

theorem iter_frozen {w : World} {k j o : Nat} {s : ByteArray} {pos : Nat} (h : j < k) : (w.iterAt k s pos).frozen? ⟨j, o, none⟩ = w.frozen? ⟨j, o, none⟩ :=
  (Lib.below_iterAt (Below.refl k w) (Nat.le_refl _) s pos).frozen (p := ⟨j, o, none⟩) h

theorem iterPos_at {w : World} {k pos : Nat} {s : ByteArray} (h : w.heap[k]? = some (.stringIter s pos)) : w.iterPos k = pos := by simp [World.iterPos, h]

theorem digit_ascii {b : Int} {c : UInt8} (hb : b ≤ 10) (h : digitB b c = true) : c.toNat < 128 := by
  unfold digitB at h
  have := of_decide_eq_true h
  omega

theorem high_not {b : Int} {c : UInt8} (hb : b ≤ 10) (h : ¬ c.toNat < 128) : ¬ digitB b c = true := fun h2 => h (digit_ascii hb h2)

/-- There are a lock of few codes and a text of its digits. -/
def txB (a b : Int) (s : ByteArray) : Bool := riB a b && decide (s.size ≤ 1500) && allD b s

theorem txB_no {a b : Int} {s : ByteArray} (h : riB a b = false) : txB a b s = false := by unfold txB; rw [h]; rfl

theorem txB_long {a b : Int} {s : ByteArray} (h : ¬ s.size ≤ 1500) : txB a b s = false := by unfold txB; rw [decide_eq_false h, Bool.and_false]; rfl

theorem txB_yes {a b : Int} {s : ByteArray} (h : riB a b = true) (hs : s.size ≤ 1500) : txB a b s = allD b s := by unfold txB; rw [h, decide_eq_true hs]; rfl

end Go.Proofs.YteolmplbgmfhmaaDoor
