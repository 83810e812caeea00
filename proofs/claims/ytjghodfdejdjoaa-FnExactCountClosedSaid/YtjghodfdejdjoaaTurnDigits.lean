/- One turn made on a list of digits by the program. For turns of a lock and digits of it. -/
import Derived.Test.YtjghodfdejdjoaaMake
import Derived.Deep.RegionWith
namespace Go.Proofs.Ytjghodfdejdjoaa
open Go.ChangeShapes Go.WideShapes Go.ChangeAt Go.RowKit Go.Joins

set_option maxRecDepth 100000 in
set_option maxHeartbeats 20000000 in
theorem turnDigits_any (a b x y : Int) (ds : List Int) (n g c : Nat) (w : World) (hl : ds.length = n) (h : Good a b ds) (b2 : 2 ≤ b) (b10 : b ≤ 10) (ht : turnB a x y = true) (hC : Cells w g n (digF ds)) :
    Calls Try.prog 55 #[.agg #[.int .i64 a, .int .i64 b, .int .i64 x, .int .i64 y], .slice (some ⟨g, 0, none⟩) n c] w fun e w' => e = .returned (.tuple #[]) ∧ Cells w' g n (digF (stepD b ds x y)) ∧ w.heap.size ≤ w'.heap.size ∧ ∀ B, B ≤ g → B ≤ w.heap.size → Below B w w' := by
  obtain ⟨x0, x1, hy⟩ := turn_facts ht
  have hxs : x < (n : Int) := by have := h.size; omega
  obtain ⟨k, rfl⟩ : ∃ k : Nat, x = k := ⟨x.toNat, by omega⟩
  have hn : k < n := by omega
  obtain ⟨y1, y2⟩ : -1 ≤ y ∧ y ≤ 1 := by omega
  obtain ⟨d0, d1⟩ := h.low k (by omega)
  have HC := Lib.hid hC
  have HL := Lib.hid hl
  have o1 : w.cell? ⟨g, k, none⟩ = some (.int .i64 (ds.getD k 0)) := hC.cell hn
  have z1 : g < w.heap.size := hC.lt
  have HV : Hid (∀ j, j < n → (fun j => if j = k then Value.int .i64 (addI b (ds.getD k 0) y) else digF ds j) j = digF (stepD b ds k y) j) := Lib.hid fun j hj => by
    show (if j = k then Value.int .i64 (addI b (ds.getD k 0) y) else digF ds j) = digF (stepD b ds k y) j
    unfold digF
    rw [stepD_at b ds k y (by rw [hl]; omega), Int.toNat_natCast]
    by_cases e : j = k
    · subst e; rw [if_pos rfl, if_pos rfl]
    · rw [if_neg e, if_neg e]
  generalize ds.getD k 0 = d at d0 d1 o1 HV
  clear hC hl h ht hy
  go_enter Try.func55, Try.ntmps55
  go_wp2_with fail
  obtain ⟨wo, e0⟩ : ∃ wo : World, wo = w.alloc (.cells #[.int .i64 a, .int .i64 b, .int .i64 (k : Int), .int .i64 y] 74) := ⟨_, rfl⟩
  rw [← e0]
  have l0 : wo.cell? ⟨w.heap.size, 0, none⟩ = some (.int .i64 a) := by rw [e0]; simp
  have l1 : wo.cell? ⟨w.heap.size, 1, none⟩ = some (.int .i64 b) := by rw [e0]; simp
  have l2 : wo.cell? ⟨w.heap.size, 2, none⟩ = some (.int .i64 (k : Int)) := by rw [e0]; simp
  have l3 : wo.cell? ⟨w.heap.size, 3, none⟩ = some (.int .i64 y) := by rw [e0]; simp
  have o3 : wo.cell? ⟨g, k, none⟩ = some (.int .i64 d) := by rw [e0, World.cell?_alloc_lt _ _ _ z1]; exact o1
  have HC2 : Hid (Cells wo g n (digF ds)) := Lib.hid (by rw [e0]; exact HC.out.alloc _)
  have HB : Hid (∀ B, B ≤ g → B ≤ w.heap.size → Below B w wo) := Lib.hid fun B h1 h2 => by rw [e0]; exact (Below.refl _ _).alloc h2 _
  have hz : w.heap.size ≤ wo.heap.size := by rw [e0]; simp
  have hzz : w.heap.size < wo.heap.size := by rw [e0]; simp
  clear e0 o1
  go_region_with (go_at_call 64; refine (sum_any _ _ _ _ _ (by omega) (by omega) (by omega) (by omega) (by omega)).mono ?_; rintro e w3 ⟨rfl, hb3⟩; have h3 := Lib.hid (HC2.out.drew.call hb3); have p1 := h3.out.cell hn; have p2 := h3.out.frozen hn; have q2 : w3.cell? ⟨w.heap.size, 2, none⟩ = some (.int .i64 (k : Int)) := (hb3.cell (p := ⟨w.heap.size, 2, none⟩) hzz).trans l2)
  all_goals go_wp2
  all_goals go_end0
  all_goals have hb := below_undrew hb3
  all_goals refine ⟨rfl, (h3.out.set_ hn _).congr HV.out, by have := hb.size; rw [size_setCell]; omega, fun B h1 h2 => ?_⟩
  all_goals exact ((HB.out B h1 h2).trans (hb.mono (show B ≤ wo.heap.size by omega))).setCell h1 _

end Go.Proofs.Ytjghodfdejdjoaa
