/- Distances of digits, as both programs reckon them. No conditions. -/
import Derived.Test.YtgopaflggbgplaaAdd
import Derived.Deep.RegionHeld3
namespace Go.Proofs.Ytgopaflggbgplaa
open Go.ChangeShapes Go.WideShapes Go.ChangeAt Go.RowKit Go.Joins

/-- The lesser one. -/
def lstI (x y : Int) : Int := if x < y then x else y

theorem l1Least_any (x y : Int) (w : World) :
    Calls Try.prog 81 #[.int .i64 x, .int .i64 y] w fun e w' => e = .returned (.int .i64 (lstI x y)) ∧ w = w' := by
  by_cases h : x < y
  all_goals
    go_enter Try.func81, Try.ntmps81
    go_wp2
    go_ret
    exact ⟨ret_int (by simp [lstI, h] <;> omega), rfl⟩

/-- The distance of two digits: the lesser one of the ways forth and back. -/
def farI (b x y : Int) : Int := lstI (subI b y x) (subI b x y)

theorem far_back (b x y : Int) : (b - subI b y x) % b = subI b x y := by
  unfold subI
  rw [Int.sub_emod, Int.emod_emod, ← Int.sub_emod]
  rw [show b - (y - x) = x - y + b by omega, Int.add_emod_right]

theorem farI_bd {b : Int} (h : 2 ≤ b) (x y : Int) : 0 ≤ farI b x y ∧ farI b x y < b := by
  have h1 := subI_bd h x y
  have h2 := subI_bd h y x
  unfold farI lstI
  split <;> omega

theorem whFar_any (a b x y : Int) (w : World) (h2 : 2 ≤ b) (h10 : b ≤ 10) (hx : 0 ≤ x ∧ x ≤ 10) (hy : 0 ≤ y ∧ y ≤ 10) :
    Calls Try.prog 83 #[.agg #[.int .i64 a, .int .i64 b], .int .i64 x, .int .i64 y] w fun e w' => e = .returned (.tuple #[.int .i64 (subI b y x), .int .i64 (subI b x y)]) ∧ Below w.heap.size w w' := by
  have HF := Lib.hid (far_back b x y)
  have hu := subI_bd h2 y x
  have hm : modI b (y - x) = subI b y x := rfl
  have HM := Lib.hid hm
  clear hm
  generalize subI b y x = u at hu HF HM
  obtain ⟨u0, u1⟩ := hu
  go_enter Try.func83, Try.ntmps83
  go_wp2_with (go_at_call 86; refine (l1Mod_any _ _ _ (by omega) (by omega)).mono ?_; rw [HM.out]; rintro e w1 ⟨rfl, rfl⟩)
  go_quiet (fail)
  go_wp2
  go_ret2
  refine ⟨by rw [← HF.out]; rfl, ?_⟩
  (repeat (first | assumption | exact Below.refl _ _ | (refine Below.alloc ?_ (by first | omega | (simp; done) | (simp; omega)) _) | (refine Below.setCell ?_ (by first | omega | (simp; done) | (simp; omega)) _) | refine bel_drewN ?_ _ | refine bel_drew ?_ | (refine bel_call ?_ (by assumption))))

theorem digitDistance_any (a b x y : Int) (w : World) (h2 : 2 ≤ b) (h10 : b ≤ 10) (hx : 0 ≤ x ∧ x < b) (hy : 0 ≤ y ∧ y < b) :
    Calls Try.prog 79 #[.agg #[.int .i64 a, .int .i64 b], .int .i64 x, .int .i64 y] w fun e w' => e = .returned (.int .i64 (farI b x y)) ∧ Below w.heap.size w w' := by
  have hu := subI_bd h2 y x
  have hv := subI_bd h2 x y
  go_enter Try.func79, Try.ntmps79
  go_wp2_with fail
  obtain ⟨wo, e0⟩ : ∃ wo : World, wo = w.alloc (.cells #[.int .i64 a, .int .i64 b] 30) := ⟨_, rfl⟩
  rw [← e0]
  have d0 : wo.cell? ⟨w.heap.size, 0, none⟩ = some (.int .i64 a) := by rw [e0]; simp
  have d1 : wo.cell? ⟨w.heap.size, 1, none⟩ = some (.int .i64 b) := by rw [e0]; simp
  have dB : Below w.heap.size w wo := by rw [e0]; (repeat (first | assumption | exact Below.refl _ _ | (refine Below.alloc ?_ (by first | omega | (simp; done) | (simp; omega)) _) | (refine Below.setCell ?_ (by first | omega | (simp; done) | (simp; omega)) _) | refine bel_drewN ?_ _ | refine bel_drew ?_ | (refine bel_call ?_ (by assumption))))
  have dz : w.heap.size < wo.heap.size := by rw [e0]; simp
  clear e0
  go_region_held3 (fun w' => w'.cell? ⟨w.heap.size, 0, none⟩ = some (.int .i64 a) ∧ w'.cell? ⟨w.heap.size, 1, none⟩ = some (.int .i64 b) ∧ Below w.heap.size w w' ∧ w.heap.size < w'.heap.size) (first | assumption | exact ⟨d0, d1, bel_drew dB, dz⟩ | go_keep)
    (first | (go_at_call 84; refine (call_held2 (by assumption) (difference_any _ _ _ _ _ (by omega) (by omega) (by omega) (by omega) (by omega))).mono ?_; rintro e w1 ⟨rfl, hS⟩))
  all_goals go_wp2
  all_goals go_ret
  all_goals refine ⟨ret_int ?_, hS.2.2.1⟩
  all_goals (unfold farI lstI; split <;> omega)

theorem pairDist_any (a b : Int) (s t : ByteArray) (w : World) (h : askB a b s = true) (ht : askB a b t = true) :
    Calls Try.prog 78 #[.agg #[.int .i64 a, .int .i64 b], .string s, .string t, .func (.func 79) #[] #[]] w (IntsOut w ((dg s).zipWith (farI b) (dg t)) s.size) := by
  have HA := Lib.hid (asked h)
  have HT := Lib.hid (asked ht)
  obtain ⟨n6, b2, b10⟩ : s.size ≤ 6 ∧ 2 ≤ b ∧ b ≤ 10 := ⟨HA.out.n6, HA.out.b2, HA.out.b10⟩
  have n6' := HT.out.n6
  clear h ht
  go_enter Try.func78, Try.ntmps78
  go_wp2_with (first | (go_at_call_of 60 s; refine (digitsOf_any _ _ HA.out.digits (by omega)).mono ?_; rintro e w1 ⟨g1, c1, rfl, hg1, hC1, hb1⟩) | (go_at_call_of 60 t; refine (digitsOf_any _ _ HT.out.digits (by omega)).mono ?_; rintro e w2 ⟨g2, c2, rfl, hg2, hC2, hb2⟩))
  have hB : Below w.heap.size w w2 := by (repeat (first | assumption | exact Below.refl _ _ | (refine Below.alloc ?_ (by first | omega | (simp; done) | (simp; omega)) _) | (refine Below.setCell ?_ (by first | omega | (simp; done) | (simp; omega)) _) | refine bel_drewN ?_ _ | refine bel_drew ?_ | (refine bel_call ?_ (by assumption))))
  have hz : w.heap.size < g1 ∧ g1 < w1.heap.size ∧ w1.heap.size ≤ g2 := by have := hC1.lt; simp at hg1; exact ⟨by omega, this, hg2⟩
  obtain ⟨z1, z2, z3⟩ := hz
  have HC1 := Lib.hid (hC1.call hb2)
  have HC2 := Lib.hid hC2
  have l0 : w2.cell? ⟨w.heap.size, 0, none⟩ = some (.int .i64 a) := by rw [hb2.cell (p := ⟨w.heap.size, 0, none⟩) (by show w.heap.size < w1.heap.size; omega), hb1.cell (p := ⟨w.heap.size, 0, none⟩) (by simp)]; simp
  have l1 : w2.cell? ⟨w.heap.size, 1, none⟩ = some (.int .i64 b) := by rw [hb2.cell (p := ⟨w.heap.size, 1, none⟩) (by show w.heap.size < w1.heap.size; omega), hb1.cell (p := ⟨w.heap.size, 1, none⟩) (by simp)]; simp
  have z4 : w.heap.size < w2.heap.size := by have := HC1.out.lt; omega
  have hst : s.size ≤ t.size ∧ t.size ≤ s.size := by have h1 := HA.out.size; have h2 := HT.out.size; omega
  obtain ⟨st1, st2⟩ := hst
  clear hC1 hC2 hb1 hb2 hg1 hg2
  generalize hZ : (dg s).zipWith (farI b) (dg t) = Z
  have HZ : ∀ k, k < s.size → Z.getD k 0 = farI b ((dg s).getD k 0) ((dg t).getD k 0) := fun k hk => by
    rw [← hZ]; exact zip_at _ _ _ (by rw [dg_length]; exact hk) (by rw [dg_length]; omega)
  have HZ' := Lib.hid HZ
  have HE := Lib.hid hZ
  clear HZ hZ
  go_loopw [17] (fun i wr => ∃ k : Nat, k ≤ s.size ∧ i = .int .i64 k ∧ Cells wr g1 s.size (fun j => if j < k then digF Z j else digF (dg s) j) ∧ Cells wr g2 s.size (digF (dg t)) ∧ wr.cell? ⟨w.heap.size, 0, none⟩ = some (.int .i64 a) ∧ wr.cell? ⟨w.heap.size, 1, none⟩ = some (.int .i64 b) ∧ w.heap.size < wr.heap.size ∧ Below w.heap.size w wr) (fun i _ => s.size - (intOf i).toNat)
  case atStart => exact ⟨0, by omega, rfl, HC1.out.congr (fun j _ => by simp), HC2.out.sub st1, l0, l1, z4, hB⟩
  case round =>
    clear l0 l1 z4 hB
    obtain ⟨k, hk, rfl, hC1, hC2, l0, l1, z4, hB⟩ := hrel
    have H1 := Lib.hid hC1
    have H2 := Lib.hid hC2
    clear hC1 hC2
    by_cases hlt : k < s.size
    · have hlt' : k < t.size := by omega
      have o1 : wr.cell? ⟨g1, k, none⟩ = some (.int .i64 ((dg s).getD k 0)) := by rw [H1.out.cell hlt, if_neg (by omega)]; rfl
      have o2 : wr.cell? ⟨g2, k, none⟩ = some (.int .i64 ((dg t).getD k 0)) := H2.out.cell hlt
      obtain ⟨d1, d2⟩ := HA.out.low k hlt
      obtain ⟨d3, d4⟩ := HT.out.low k hlt'
      have HV := Lib.hid (HZ'.out k hlt)
      generalize (dg s).getD k 0 = x at o1 d1 d2 HV
      generalize (dg t).getD k 0 = y at o2 d3 d4 HV
      go_wp2_with fail
      go_region_with (go_at_call 79; refine (digitDistance_any _ _ _ _ _ (by omega) (by omega) (by omega) (by omega)).mono ?_; rintro e w3 ⟨rfl, hb3⟩; have h3 := Lib.hid (H1.out.drew.call hb3); have p1 := h3.out.cell hlt; have p2 := h3.out.frozen hlt)
      all_goals
        have HR := Lib.hid (pair_rel H1.out hlt HV.out H2.out (by omega) l0 l1 z4 z1 hB (below_undrew hb3))
        go_wp2
        go_roundw
        case rel => exact ⟨k + 1, by omega, by go_num, HR.out⟩
        case measure => simp [intOf]; omega
    · go_wp2
      go_ret
      exact ⟨_, _, rfl, Nat.le_of_lt z1, H1.out.congr (fun j hj => by rw [if_pos (by omega), HE.out]), hB⟩

end Go.Proofs.Ytgopaflggbgplaa
