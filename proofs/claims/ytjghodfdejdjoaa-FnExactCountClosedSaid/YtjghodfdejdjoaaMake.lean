/- One turn made: by the model on a text, by the program on a list of digits. No conditions. -/
import Derived.Test.YtjghodfdejdjoaaTurn
import Derived.StillTailTactics
namespace Go.Proofs.Ytjghodfdejdjoaa
open Go.ChangeShapes Go.WideShapes Go.ChangeAt Go.RowKit Go.Joins

/-- The digits behind a turn. -/
def stepD (b : Int) (ds : List Int) (x y : Int) : List Int := ds.set x.toNat (addI b (ds.getD x.toNat 0) y)

theorem stepD_length (b : Int) (ds : List Int) (x y : Int) : (stepD b ds x y).length = ds.length := by simp [stepD]

theorem stepD_at (b : Int) (ds : List Int) (x y : Int) {j : Nat} (hx : x.toNat < ds.length) : (stepD b ds x y).getD j 0 = if j = x.toNat then addI b (ds.getD x.toNat 0) y else ds.getD j 0 := by
  unfold stepD
  by_cases h : j = x.toNat
  · subst h; simp [List.getD, hx]
  · rw [if_neg h]
    simp only [List.getD]
    rw [List.getElem?_set_ne (fun e => h e.symm)]

theorem turn_facts {a x y : Int} (h : turnB a x y = true) : 0 ≤ x ∧ x < a ∧ (y = 1 ∨ y = -1) := by
  unfold turnB inB at h
  simp at h
  omega

/-- Lists of digits below b, as many as there are wheels. -/
structure Good (a b : Int) (ds : List Int) : Prop where
  size : a = (ds.length : Int)
  low : ∀ j, j < ds.length → 0 ≤ ds.getD j 0 ∧ ds.getD j 0 < b

theorem Good.of {a b : Int} {s : ByteArray} (h : Asked a b s) : Good a b (dg s) := ⟨by rw [dg_length]; exact h.size, fun j hj => h.low j (by rw [dg_length] at hj; exact hj)⟩

theorem Good.step {a b x y : Int} {ds : List Int} (h : Good a b ds) (hb : 2 ≤ b) (ht : turnB a x y = true) : Good a b (stepD b ds x y) := by
  obtain ⟨x0, x1, _⟩ := turn_facts ht
  have hs := h.size
  refine ⟨by rw [stepD_length]; exact h.size, fun j hj => ?_⟩
  rw [stepD_length] at hj
  rw [stepD_at b ds x y (by omega)]
  split
  · exact addI_bd hb _ _
  · exact h.low j hj

theorem Good.digits {a b : Int} {ds : List Int} (h : Good a b ds) (hb : b ≤ 10) : Digits ds := fun j hj => by have := h.low j hj; omega

set_option maxRecDepth 100000 in
set_option maxHeartbeats 1000000 in
theorem whMake_any (a b x y : Int) (s : ByteArray) (w : World) (h : askB a b s = true) (ht : turnB a x y = true) :
    Calls Try.prog 39 #[.agg #[.int .i64 a, .int .i64 b], .string s, .agg #[.int .i64 x, .int .i64 y]] w fun e w' => e = .returned (.string (textOf (stepD b (dg s) x y))) ∧ Below w.heap.size w w' := by
  have HA := Lib.hid (asked h)
  have HG := Lib.hid ((Good.of (asked h)).step (asked h).b2 ht)
  obtain ⟨n6, b2, b10⟩ : s.size ≤ 6 ∧ 2 ≤ b ∧ b ≤ 10 := ⟨HA.out.n6, HA.out.b2, HA.out.b10⟩
  obtain ⟨x0, x1, hy⟩ := turn_facts ht
  have HL := Lib.hid ((stepD_length b (dg s) x y).trans (dg_length s))
  have hxs : x < (s.size : Int) := by have := HA.out.size; omega
  obtain ⟨n, rfl⟩ : ∃ n : Nat, x = n := ⟨x.toNat, by omega⟩
  have hn : n < s.size := by omega
  have y1 : -1 ≤ y ∧ y ≤ 1 := by omega
  obtain ⟨y1, y2⟩ := y1
  obtain ⟨d0, d1⟩ := HA.out.low n hn
  clear h ht hy
  go_enter Try.func39, Try.ntmps39
  go_wp2_with (go_at_call 35; refine (whDigits_any _ _ HA.out.digits (by omega) HA.out.n1).mono ?_; rintro e w1 ⟨g, c, rfl, hg, hC, hb⟩)
  have hB : Below w.heap.size w w1 := by (repeat (first | assumption | exact Below.refl _ _ | (refine Below.alloc ?_ (by first | omega | (simp; done) | (simp; omega)) _) | (refine Below.setCell ?_ (by first | omega | (simp; done) | (simp; omega)) _) | refine bel_drewN ?_ _ | refine bel_drew ?_ | (refine bel_call ?_ (by assumption))))
  have z1 : w.heap.size + 1 < g := by simp at hg; omega
  have l1 : w1.cell? ⟨w.heap.size, 1, none⟩ = some (.int .i64 b) := by rw [hb.cell (p := ⟨w.heap.size, 1, none⟩) (by simp; omega)]; simp
  have m0 : w1.cell? ⟨w.heap.size + 1, 0, none⟩ = some (.int .i64 n) := by rw [hb.cell (p := ⟨w.heap.size + 1, 0, none⟩) (by simp)]; simp
  have m1 : w1.cell? ⟨w.heap.size + 1, 1, none⟩ = some (.int .i64 y) := by rw [hb.cell (p := ⟨w.heap.size + 1, 1, none⟩) (by simp)]; simp
  have HC := Lib.hid hC
  have o1 : w1.cell? ⟨g, n, none⟩ = some (.int .i64 ((dg s).getD n 0)) := HC.out.cell hn
  have o2 : w1.frozen? ⟨g, n, none⟩ = false := HC.out.frozen hn
  have HS := Lib.hid ((HC.out.set_ hn (.int .i64 (modI b ((dg s).getD n 0 + y)))).congr (f' := digF (stepD b (dg s) n y)) (fun j hj => by
    unfold digF
    rw [stepD_at b (dg s) n y (by rw [dg_length]; omega), Int.toNat_natCast]
    by_cases e : j = n
    · subst e; rw [if_pos rfl, if_pos rfl]; rfl
    · rw [if_neg e, if_neg e]))
  generalize (dg s).getD n 0 = d at d0 d1 o1 HS
  clear hC hb hg
  refine wp_region_still_tail 15 (by kernel_rfl) (by kernel_rfl) ?_
  simp only [List.take_succ_cons, List.take_zero, List.drop_succ_cons, List.drop_zero]
  repeat still_step
  still_call ((l1Mod_any _ _ _ (by omega) (by omega)).mono fun _ _ h => ⟨h.1, h.2.symm⟩)
  repeat still_step
  refine wpStill_nil ?_
  change wpList _ _ _ _ _ w1.drew
  go_wp2_with (go_at_call 40; refine (whText_n _ _ _ HL.out _ HS.out.drew (HG.out.digits b10) (by omega)).mono ?_; rintro e w4 ⟨rfl, hb4⟩)
  go_ret
  exact ⟨rfl, bel_call (bel_drew (hB.setCell (by simp; omega) _)) hb4⟩

end Go.Proofs.Ytjghodfdejdjoaa
