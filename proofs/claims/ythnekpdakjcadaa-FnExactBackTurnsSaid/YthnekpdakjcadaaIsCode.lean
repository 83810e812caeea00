/- The law on IsCode: for every lock and text both programs answer alike. No conditions. -/
import Derived.Test.YthnekpdakjcadaaCode
import Derived.Deep.RegionHeld3
namespace Go.Proofs.Ythnekpdakjcadaa
open Go.ChangeShapes Go.WideShapes Go.ChangeAt Go.RowKit Go.Joins

theorem specIsCode_any (a b : Int) (s : ByteArray) (w : World) (hs : s.size ≤ maxLen) :
    Calls Try.prog 18 #[.agg #[.int .i64 a, .int .i64 b], .string s] w fun e w' => e = .returned (.tuple #[.bool (goodB a b && isCodeB a b s), .bool (goodB a b)]) ∧ Below w.heap.size w w' := by
  by_cases hg : goodB a b = true
  · have HG := Lib.hid hg
    have HS := Lib.hid hs
    clear hg hs
    go_enter Try.func18, Try.ntmps18
    go_wp2_with (first | (go_at_call 49; refine (whGood_any _ _ _).mono ?_; rw [HG.out]; rintro e w1 ⟨rfl, hb⟩; obtain ⟨hc, hf, hz⟩ := bcell hb; have hz0 : w.heap.size < w1.heap.size := by (try simp at hz); omega) | (go_at_call 50; refine (whCode_any _ _ _ _ HS.out HG.out).mono ?_; rintro e w1 ⟨rfl, hb⟩))
    go_ret2
    refine ⟨by rw [HG.out]; rfl, ?_⟩
    (repeat (first | assumption | exact Below.refl _ _ | (refine Below.alloc ?_ (by first | omega | (simp; done) | (simp; omega)) _) | (refine Below.setCell ?_ (by first | omega | (simp; done) | (simp; omega)) _) | refine bel_drewN ?_ _ | refine bel_drew ?_ | (refine bel_call ?_ (by assumption))))
  · have HG := Lib.hid (Bool.eq_false_iff.2 hg)
    clear hg hs
    go_enter Try.func18, Try.ntmps18
    go_wp2_with (first | (go_at_call 49; refine (whGood_any _ _ _).mono ?_; rw [HG.out]; rintro e w1 ⟨rfl, hb⟩; obtain ⟨hc, hf, hz⟩ := bcell hb; have hz0 : w.heap.size < w1.heap.size := by (try simp at hz); omega))
    go_ret2
    refine ⟨by rw [HG.out]; rfl, ?_⟩
    (repeat (first | assumption | exact Below.refl _ _ | (refine Below.alloc ?_ (by first | omega | (simp; done) | (simp; omega)) _) | (refine Below.setCell ?_ (by first | omega | (simp; done) | (simp; omega)) _) | refine bel_drewN ?_ _ | refine bel_drew ?_ | (refine bel_call ?_ (by assumption))))

theorem isCode_any (a b : Int) (s : ByteArray) (w : World) (hs : s.size ≤ maxLen) :
    Calls Try.prog 19 #[.agg #[.int .i64 a, .int .i64 b], .string s] w fun e w' => e = .returned (.tuple #[.bool (goodB a b && isCodeB a b s), .bool (goodB a b)]) ∧ Below w.heap.size w w' := by
  have HS := Lib.hid hs
  clear hs
  go_enter Try.func19, Try.ntmps19
  go_wp2_with fail
  obtain ⟨wo, e0⟩ : ∃ wo : World, wo = w.alloc (.cells #[.int .i64 a, .int .i64 b] 25) := ⟨_, rfl⟩
  rw [← e0]
  have d0 : wo.cell? ⟨w.heap.size, 0, none⟩ = some (.int .i64 a) := by rw [e0]; simp
  have d1 : wo.cell? ⟨w.heap.size, 1, none⟩ = some (.int .i64 b) := by rw [e0]; simp
  have dB : Below w.heap.size w wo := by rw [e0]; (repeat (first | assumption | exact Below.refl _ _ | (refine Below.alloc ?_ (by first | omega | (simp; done) | (simp; omega)) _) | (refine Below.setCell ?_ (by first | omega | (simp; done) | (simp; omega)) _) | refine bel_drewN ?_ _ | refine bel_drew ?_ | (refine bel_call ?_ (by assumption))))
  have dz : w.heap.size < wo.heap.size := by rw [e0]; simp
  clear e0
  go_region_held3 (fun w' => w'.cell? ⟨w.heap.size, 0, none⟩ = some (.int .i64 a) ∧ w'.cell? ⟨w.heap.size, 1, none⟩ = some (.int .i64 b) ∧ Below w.heap.size w w' ∧ w.heap.size < w'.heap.size) (first | assumption | exact ⟨d0, d1, bel_drew dB, dz⟩ | go_keep)
    (first | (go_at_call 51; refine (call_held2 (by assumption) (hasCode_any _ _ _ _ HS.out)).mono ?_; rintro e w1 ⟨rfl, hS⟩) | (go_at_call 17; refine (call_held2 (by assumption) (isLock_any _ _ _)).mono ?_; rintro e w1 ⟨rfl, hS⟩))
  go_wp2
  go_ret2
  exact ⟨rfl, hS.2.2.1⟩

end Go.Proofs.Ythnekpdakjcadaa
