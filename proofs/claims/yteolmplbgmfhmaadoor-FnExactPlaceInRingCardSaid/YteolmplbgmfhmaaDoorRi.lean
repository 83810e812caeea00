/- The greatest ring and the text that opens all codes: both programs' answers. No conditions. -/
import Derived.Test.YteolmplbgmfhmaaDoorRf
namespace Go.Proofs.YteolmplbgmfhmaaDoor
open Go.ChangeShapes Go.WideShapes Go.ChangeAt Go.RowKit Go.Joins

theorem around_any (n : Nat) (b : Int) (s : ByteArray) (w : World) (hg : goodB n b = true) (hs : s.size ≤ 1500) (hn : n ≤ s.size + 1) :
    Calls Tryd.prog 42 #[.agg #[.int .i64 n, .int .i64 b], .string s] w fun e w' => e = .returned (.string (arT n s)) ∧ Below w.heap.size w w' := by
  obtain ⟨h1, h6, h2, h10⟩ := good_yes hg
  obtain ⟨k, HK⟩ : ∃ k : Nat, Hid (n - 1 = k) := ⟨_, Lib.hid rfl⟩
  have hk : (n : Int) - 1 = (k : Int) := by have := HK.out; omega
  have hk1 : k ≤ s.size := by have := HK.out; omega
  have hadd : ∀ W : World, (Op.stringOp .add s (s.extract 0 k)).run Tryd.prog W = .ok (.string (arT n s)) W := fun W => by
    rw [run_string_add_sum _ _ _ (by rw [ByteArray.size_extract]; omega)]
    unfold arT
    rw [HK.out]
  go_enter Tryd.func42, Tryd.ntmps42
  go_wp2
  go_ret
  refine ⟨rfl, ?_⟩
  (repeat (first | assumption | exact Below.refl _ _ | (refine Below.alloc ?_ (by first | omega | (simp; done) | (simp; omega)) _) | (refine Below.setCell ?_ (by first | omega | (simp; done) | (simp; omega)) _) | refine bel_drewN ?_ _ | refine bel_drew ?_ | (refine bel_call ?_ (by assumption))))

/-- The text that opens all codes. -/
def opT (a b : Int) : ByteArray := if riB a b then arT a.toNat (lrT a b) else ⟨#[]⟩

theorem opT_yes {n : Nat} {b : Int} (h : riB n b = true) : opT n b = arT n (textOf (ringW b n)) := by
  unfold opT
  rw [h, if_pos rfl, lrT_yes h]
  rfl

theorem opT_no {a b : Int} (h : riB a b = false) : opT a b = ⟨#[]⟩ := by unfold opT; rw [h]; rfl

theorem ring_size {n : Nat} {b : Int} (h : riB n b = true) : (textOf (ringW b n)).size = cnN n b ∧ cnN n b ≤ 1000 ∧ n + 1 ≤ cnN n b := by
  refine ⟨?_, cn_le h, cn_ge (riB_good h)⟩
  rw [textOf_size, ringW_length h]
  unfold cnN
  rw [Int.toNat_natCast]

set_option maxHeartbeats 1000000 in
theorem openingText_any (a b : Int) (w : World) :
    Calls Tryd.prog 24 #[.agg #[.int .i64 a, .int .i64 b]] w fun e w' => e = .returned (.tuple #[.string (opT a b), .bool (riB a b)]) ∧ Below w.heap.size w w' := by
  by_cases hg : riB a b = true
  · have HG := Lib.hid hg
    obtain ⟨n, rfl⟩ : ∃ n : Nat, a = n := ⟨a.toNat, by have := good_yes (riB_good hg); omega⟩
    have HS := Lib.hid (ring_size hg)
    have HLR := Lib.hid (lrT_yes hg)
    have HOP := Lib.hid (opT_yes hg)
    clear hg
    go_enter Tryd.func24, Tryd.ntmps24
    go_wp2_with (first | (go_at_call 11; refine (leastRing_any _ _ _).mono ?_; rw [HG.out, HLR.out]; rintro e w1 ⟨rfl, hb⟩; have HB := Lib.hid (show Below w.heap.size w w1 from by (repeat (first | assumption | exact Below.refl _ _ | (refine Below.alloc ?_ (by first | omega | (simp; done) | (simp; omega)) _) | (refine Below.setCell ?_ (by first | omega | (simp; done) | (simp; omega)) _) | refine bel_drewN ?_ _ | refine bel_drew ?_ | (refine bel_call ?_ (by assumption))))); have m0 : w1.cell? ⟨w.heap.size, 0, none⟩ = some (.int .i64 n) := (by rw [hb.cell (p := ⟨w.heap.size, 0, none⟩) (by simp)]; simp); have m1 : w1.cell? ⟨w.heap.size, 1, none⟩ = some (.int .i64 b) := (by rw [hb.cell (p := ⟨w.heap.size, 1, none⟩) (by simp)]; simp); clear hb) | (go_at_call 42; refine (around_any _ _ _ _ (riB_good HG.out) (by have := HS.out; omega) (by have := HS.out; omega)).mono ?_; rw [← HOP.out]; rintro e w2 ⟨rfl, hb2⟩; have HB2 := Lib.hid (bel_call HB.out hb2)))
    go_ret2
    exact ⟨by rw [HG.out]; rfl, HB2.out⟩
  · have HG := Lib.hid (Bool.eq_false_iff.2 hg)
    clear hg
    go_enter Tryd.func24, Tryd.ntmps24
    go_wp2_with (go_at_call 11; refine (leastRing_any _ _ _).mono ?_; rw [HG.out]; rintro e w1 ⟨rfl, hb⟩; obtain ⟨hc, hf, hz⟩ := bcell hb; have hz0 : w.heap.size < w1.heap.size := by (try simp at hz); omega)
    go_ret2
    refine ⟨by rw [HG.out, opT_no HG.out]; rfl, ?_⟩
    (repeat (first | assumption | exact Below.refl _ _ | (refine Below.alloc ?_ (by first | omega | (simp; done) | (simp; omega)) _) | (refine Below.setCell ?_ (by first | omega | (simp; done) | (simp; omega)) _) | refine bel_drewN ?_ _ | refine bel_drew ?_ | (refine bel_call ?_ (by assumption))))

set_option maxHeartbeats 1000000 in
theorem specOpeningText_any (a b : Int) (w : World) :
    Calls Tryd.prog 23 #[.agg #[.int .i64 a, .int .i64 b]] w fun e w' => e = .returned (.tuple #[.string (opT a b), .bool (riB a b)]) ∧ Below w.heap.size w w' := by
  by_cases hg : riB a b = true
  · have HG := Lib.hid hg
    obtain ⟨n, rfl⟩ : ∃ n : Nat, a = n := ⟨a.toNat, by have := good_yes (riB_good hg); omega⟩
    have HS := Lib.hid (ring_size hg)
    obtain ⟨n1, n6, _, _⟩ := good_yes (riB_good hg)
    obtain ⟨R, hR⟩ : ∃ R, textOf (ringW b n) = R := ⟨_, rfl⟩
    have HOP := Lib.hid (opT_yes hg)
    have HRR := Lib.hid hR
    rw [hR] at HS HOP
    obtain ⟨k, HK⟩ : ∃ k : Nat, Hid (n - 1 = k) := ⟨_, Lib.hid rfl⟩
    have hk : (n : Int) - 1 = (k : Int) := by have := HK.out; omega
    have hk1 : k ≤ R.size := by have := HK.out; have := HS.out; omega
    have hadd : ∀ W : World, (Op.stringOp .add R (R.extract 0 k)).run Tryd.prog W = .ok (.string (opT n b)) W := fun W => by
      rw [run_string_add_sum _ _ _ (by rw [ByteArray.size_extract]; have := HS.out; omega), HOP.out]
      unfold arT
      rw [HK.out]
    clear hg hR
    go_enter Tryd.func23, Tryd.ntmps23
    go_wp2_with (first | (go_at_call 25; refine (riGood_any _ _ _).mono ?_; rw [HG.out]; rintro e w1 ⟨rfl, hb⟩; have HB := Lib.hid (show Below w.heap.size w w1 from by (repeat (first | assumption | exact Below.refl _ _ | (refine Below.alloc ?_ (by first | omega | (simp; done) | (simp; omega)) _) | (refine Below.setCell ?_ (by first | omega | (simp; done) | (simp; omega)) _) | refine bel_drewN ?_ _ | refine bel_drew ?_ | (refine bel_call ?_ (by assumption))))); have z1 : w.heap.size < w1.heap.size := (by have := hb.size; simp at this; omega); have m0 : w1.cell? ⟨w.heap.size, 0, none⟩ = some (.int .i64 n) := (by rw [hb.cell (p := ⟨w.heap.size, 0, none⟩) (by simp)]; simp); have m1 : w1.cell? ⟨w.heap.size, 1, none⟩ = some (.int .i64 b) := (by rw [hb.cell (p := ⟨w.heap.size, 1, none⟩) (by simp)]; simp); clear hb) | (go_at_call 26; refine (riLeast_any _ _ _ HG.out).mono ?_; rw [HRR.out]; rintro e w2 ⟨rfl, hb2⟩; have HB2 := Lib.hid (bel_call HB.out hb2); have q0 : w2.cell? ⟨w.heap.size, 0, none⟩ = some (.int .i64 n) := (by rw [hb2.cell (p := ⟨w.heap.size, 0, none⟩) z1]; exact m0); clear hb2))
    go_ret2
    exact ⟨by rw [HG.out]; rfl, HB2.out⟩
  · have HG := Lib.hid (Bool.eq_false_iff.2 hg)
    clear hg
    go_enter Tryd.func23, Tryd.ntmps23
    go_wp2_with (go_at_call 25; refine (riGood_any _ _ _).mono ?_; rw [HG.out]; rintro e w1 ⟨rfl, hb⟩; obtain ⟨hc, hf, hz⟩ := bcell hb; have hz0 : w.heap.size < w1.heap.size := by (try simp at hz); omega)
    go_ret2
    refine ⟨by rw [HG.out, opT_no HG.out]; rfl, ?_⟩
    (repeat (first | assumption | exact Below.refl _ _ | (refine Below.alloc ?_ (by first | omega | (simp; done) | (simp; omega)) _) | (refine Below.setCell ?_ (by first | omega | (simp; done) | (simp; omega)) _) | refine bel_drewN ?_ _ | refine bel_drew ?_ | (refine bel_call ?_ (by assumption))))

end Go.Proofs.YteolmplbgmfhmaaDoor
