/- The turn from one code to another one, as both programs tell it, and the code behind a rank around. No conditions beyond those of each lemma. -/
import Derived.Test.YtpbnleohbegccaaOo
import Derived.Test.YtpbnleohbegccaaOg
import Derived.Test.YtpbnleohbegccaaFirst3
namespace Go.Proofs.Ytpbnleohbegccaa
open Go.ChangeShapes Go.WideShapes Go.ChangeAt Go.RowKit Go.Joins

def turnV (p : Int × Int) : Value := .agg #[.int .i64 p.1, .int .i64 p.2]

theorem pair_set {W : World} {g : Nat} {f : Nat → Value} (h : Cells W g 2 f) (x y : Value) :
    ((W.setCell ⟨g, 0, none⟩ x).setCell ⟨g, 1, none⟩ y).cell? ⟨g, 0, none⟩ = some x ∧ ((W.setCell ⟨g, 0, none⟩ x).setCell ⟨g, 1, none⟩ y).cell? ⟨g, 1, none⟩ = some y := by
  have h2 := (h.set_ (show 0 < 2 by omega) x).set_ (show 1 < 2 by omega) y
  have e0 := h2.cell (show 0 < 2 by omega)
  have e1 := h2.cell (show 1 < 2 by omega)
  simp at e0 e1
  exact ⟨e0, e1⟩

set_option maxRecDepth 100000 in
set_option maxHeartbeats 2000000 in
theorem oneTurn_any (a b : Int) (s t : ByteArray) (w : World) (hs : s.size ≤ maxLen) (ht : t.size ≤ maxLen) :
    Calls Try.prog 82 #[.agg #[.int .i64 a, .int .i64 b], .string s, .string t] w fun e w' => e = .returned (.tuple #[turnV (otP a b s t), .bool (otB a b s t)]) ∧ Below w.heap.size w w' := by
  have HS := Lib.hid hs
  have HT := Lib.hid ht
  clear hs ht
  by_cases ho : otB a b s t = true
  · have HO := Lib.hid ho
    have HL := Lib.hid (ot_list ho)
    obtain ⟨p, hp⟩ : ∃ p, otP a b s t = p := ⟨_, rfl⟩
    have HP := Lib.hid hp
    clear ho hp
    go_enter Try.func82, Try.ntmps82
    go_wp2_with (go_at_call 102; refine (first_any _ _ _ _ _ HS.out HT.out).mono ?_; rw [HL.out, HP.out]; rintro e w2 ⟨A, c, rfl, hO, hb2⟩
                 obtain ⟨g, rfl, hg, hC⟩ : ∃ g, A = some ⟨g, 0, none⟩ ∧ (w.heap.size + 1 + 1 ≤ g) ∧ Cells w2 g 2 (turnF [p]) := by
                   rcases hO.2.2 with h0 | ⟨g, e, h1, hC⟩
                   · simp at h0
                   · exact ⟨g, e, by simpa using h1, hC⟩
                 have c0 : w2.cell? ⟨g, 0, none⟩ = some (.int .i64 p.1) := hC.cell (show 0 < 2 by omega)
                 have c1 : w2.cell? ⟨g, 1, none⟩ = some (.int .i64 p.2) := hC.cell (show 1 < 2 by omega)
                 have r0 : w2.cell? ⟨w.heap.size + 1, 0, none⟩ = some (.int .i64 0) := (hb2.cell (p := ⟨w.heap.size + 1, 0, none⟩) (by simp)).trans (by simp)
                 have r1 : w2.cell? ⟨w.heap.size + 1, 1, none⟩ = some (.int .i64 0) := (hb2.cell (p := ⟨w.heap.size + 1, 1, none⟩) (by simp)).trans (by simp)
                 have f0 : w2.frozen? ⟨w.heap.size + 1, 0, none⟩ = false := (hb2.frozen (p := ⟨w.heap.size + 1, 0, none⟩) (by simp)).trans (by simp)
                 have f1 : w2.frozen? ⟨w.heap.size + 1, 1, none⟩ = false := (hb2.frozen (p := ⟨w.heap.size + 1, 1, none⟩) (by simp)).trans (by simp)
                 have X2 := Lib.hid (show Below w.heap.size w w2 from bel_call (((Below.refl _ _).alloc (Nat.le_refl _) _).alloc (by simp) _) hb2)
                 have D2 := Lib.hid ((cells_two (w := w.alloc (.cells #[.int .i64 a, .int .i64 b] 26)) (x := 0) (y := 0) (t := 33) (g := w.heap.size + 1) (by simp)).call hb2)
                 clear hO hC hb2)
    obtain ⟨e0, e1⟩ := pair_set D2.out (.int .i64 p.1) (.int .i64 p.2)
    refine bodyPost_ret (v := .tuple #[turnV p, .bool true]) (by simp [results, Try.results82, go_sem, e0, e1, turnV]) rfl ⟨by rw [HP.out, HO.out], ?_⟩
    exact (X2.out.setCell (p := ⟨w.heap.size + 1, 0, none⟩) (by simp) _).setCell (p := ⟨w.heap.size + 1, 1, none⟩) (by simp) _
  · have HO := Lib.hid (Bool.eq_false_iff.2 ho)
    obtain ⟨N, hN⟩ : ∃ N, (firstZ a b s t).length = N := ⟨_, rfl⟩
    have hne : N ≠ 1 := fun e => ho (decide_eq_true (hN.trans e))
    have HN := Lib.hid hN
    clear ho hN
    go_enter Try.func82, Try.ntmps82
    go_wp2_with (go_at_call 102; refine (first_any _ _ _ _ _ HS.out HT.out).mono ?_; rintro e w2 ⟨A, c, rfl, hO, hb2⟩; rw [HN.out]
                 have r0 : w2.cell? ⟨w.heap.size + 1, 0, none⟩ = some (.int .i64 0) := (hb2.cell (p := ⟨w.heap.size + 1, 0, none⟩) (by simp)).trans (by simp)
                 have r1 : w2.cell? ⟨w.heap.size + 1, 1, none⟩ = some (.int .i64 0) := (hb2.cell (p := ⟨w.heap.size + 1, 1, none⟩) (by simp)).trans (by simp)
                 have f0 : w2.frozen? ⟨w.heap.size + 1, 0, none⟩ = false := (hb2.frozen (p := ⟨w.heap.size + 1, 0, none⟩) (by simp)).trans (by simp)
                 have f1 : w2.frozen? ⟨w.heap.size + 1, 1, none⟩ = false := (hb2.frozen (p := ⟨w.heap.size + 1, 1, none⟩) (by simp)).trans (by simp)
                 have X2 := Lib.hid (show Below w.heap.size w w2 from bel_call (((Below.refl _ _).alloc (Nat.le_refl _) _).alloc (by simp) _) hb2)
                 have D2 := Lib.hid ((cells_two (w := w.alloc (.cells #[.int .i64 a, .int .i64 b] 26)) (x := 0) (y := 0) (t := 33) (g := w.heap.size + 1) (by simp)).call hb2)
                 clear hO hb2)
    obtain ⟨e0, e1⟩ := pair_set D2.out (.int .i64 0) (.int .i64 0)
    refine bodyPost_ret (v := .tuple #[turnV (0, 0), .bool false]) (by simp [results, Try.results82, go_sem, e0, e1, turnV]) rfl ⟨by rw [otP_no HO.out, HO.out], ?_⟩
    exact (X2.out.setCell (p := ⟨w.heap.size + 1, 0, none⟩) (by simp) _).setCell (p := ⟨w.heap.size + 1, 1, none⟩) (by simp) _

theorem l1Mod_q (x b : Int) (w : World) (h2 : 2 ≤ b) (h10 : b ≤ 10) :
    Calls Try.prog 101 #[.int .i64 x, .int .i64 b] w fun e w' => e = .returned (.int .i64 (modI b x)) ∧ w' = w :=
  (l1Mod_any x b w h2 h10).mono fun _ _ h => ⟨h.1, h.2.symm⟩

set_option maxRecDepth 100000 in
set_option maxHeartbeats 4000000 in
theorem orTurn_any (a b : Int) (s t : ByteArray) (w : World) (h2 : twoB a b s t = true) (ho : otB a b s t = true) :
    Calls Try.prog 81 #[.agg #[.int .i64 a, .int .i64 b], .string s, .string t] w fun e w' => e = .returned (turnV (otP a b s t)) ∧ Below w.heap.size w w' := by
  have HA := Lib.hid (asked (two_yes h2).1)
  have HT := Lib.hid (asked (two_yes h2).2)
  have HL := Lib.hid (ot_list ho)
  have HF := Lib.hid (firstZ_yes h2)
  obtain ⟨n6, b2, b10⟩ : s.size ≤ 6 ∧ 2 ≤ b ∧ b ≤ 10 := ⟨HA.out.n6, HA.out.b2, HA.out.b10⟩
  have n6' := HT.out.n6
  have hst : s.size = t.size := by have h1 := HA.out.size; have h2 := HT.out.size; omega
  have D0 := Lib.hid (cells_two (w := w.alloc (.cells #[.int .i64 a, .int .i64 b] 26)) (x := 0) (y := 0) (t := 33) (g := w.heap.size + 1) (by simp))
  clear h2 ho
  go_enter Try.func81, Try.ntmps81
  go_wp2_with fail
  refine (whDigits_any _ _ HA.out.digits (by omega) HA.out.n1).mono ?_
  rintro e w2 ⟨g1, c1, rfl, hg1, hC1, hb1⟩
  go_wp2_with fail
  refine (whDigits_any _ _ HT.out.digits (by omega) HT.out.n1).mono ?_
  rintro e w3 ⟨g2, c2, rfl, hg2, hC2, hb2⟩
  have HC1 := Lib.hid (hC1.call hb2)
  have HC2 := Lib.hid hC2
  have D3 := Lib.hid ((D0.out.call hb1).call hb2)
  have m1 : w3.cell? ⟨w.heap.size, 1, none⟩ = some (.int .i64 b) := (hb2.cell (p := ⟨w.heap.size, 1, none⟩) (by have := hb1.size; simp at this; show w.heap.size < w2.heap.size; omega)).trans ((hb1.cell (p := ⟨w.heap.size, 1, none⟩) (by simp; omega)).trans (by simp))
  have X3 := Lib.hid (show Below w.heap.size w w3 from bel_call (bel_call (((Below.refl _ _).alloc (Nat.le_refl _) _).alloc (by simp) _) hb1) hb2)
  have r0 : w3.cell? ⟨w.heap.size + 1, 0, none⟩ = some (.int .i64 0) := D3.out.cell (show 0 < 2 by omega)
  have r1 : w3.cell? ⟨w.heap.size + 1, 1, none⟩ = some (.int .i64 0) := D3.out.cell (show 1 < 2 by omega)
  have f0 := D3.out.frozen (show 0 < 2 by omega)
  have f1 := D3.out.frozen (show 1 < 2 by omega)
  clear hg1 hg2 hC1 hC2 hb1 hb2 D0
  go_wp2_with fail
  go_loopw [16] (fun i wr => ∃ k : Nat, k ≤ s.size ∧ i = .int .i64 k ∧ (∀ j, j < k → (dg s).getD j 0 = (dg t).getD j 0) ∧ Cells wr g1 s.size (digF (dg s)) ∧ Cells wr g2 t.size (digF (dg t)) ∧ Cells wr (w.heap.size + 1) 2 (turnF [(0, 0)]) ∧ wr.cell? ⟨w.heap.size, 1, none⟩ = some (.int .i64 b) ∧ Below w.heap.size w wr) (fun i _ => s.size - (intOf i).toNat)
  case atStart => exact ⟨0, by omega, rfl, fun j hj => by omega, HC1.out, HC2.out, D3.out, m1, X3.out⟩
  case round =>
    clear r0 r1 f0 f1 m1
    obtain ⟨k, hk, rfl, hall, c1', c2', d4, n1, x4⟩ := hrel
    have HALL := Lib.hid hall
    have K1 := Lib.hid c1'
    have K2 := Lib.hid c2'
    have D4 := Lib.hid d4
    have X4 := Lib.hid x4
    clear hall c1' c2' d4 x4 HC1 HC2 D3 X3
    by_cases hlt : k < s.size
    · have hlt' : k < t.size := by omega
      have o1 : wr.cell? ⟨g1, k, none⟩ = some (.int .i64 ((dg s).getD k 0)) := K1.out.cell hlt
      have o2 : wr.cell? ⟨g2, k, none⟩ = some (.int .i64 ((dg t).getD k 0)) := K2.out.cell hlt'
      obtain ⟨d1, d2⟩ := HA.out.low k hlt
      obtain ⟨d3, d4⟩ := HT.out.low k hlt'
      by_cases hxy : (dg s).getD k 0 = (dg t).getD k 0
      · have HN : Hid (∀ j, j < k + 1 → (dg s).getD j 0 = (dg t).getD j 0) := Lib.hid fun j hj => by
          by_cases e : j = k
          · subst e; exact hxy
          · exact HALL.out j (by omega)
        rw [← hxy] at o2
        generalize (dg s).getD k 0 = x at o1 o2
        go_wp2_with fail
        go_quiet (fail)
        go_wp2_with fail
        go_roundw
        case rel => exact ⟨k + 1, by omega, by go_num, HN.out, K1.out.drewN nq, K2.out.drewN nq, D4.out.drewN nq, n1, bel_drewN X4.out nq⟩
        case measure => simp [intOf]; omega
      · have HH : Hid (otP a b s t = ((k : Int), if ((dg s).getD k 0 + 1) % b = (dg t).getD k 0 then 1 else -1)) := Lib.hid (by
          have h1 := first_head (b := b) (xs := dg s) (ys := dg t) (n := s.size) (i := k) b2 HA.out.low (fun j hj => HT.out.low j (by omega)) (by rw [← HF.out, HL.out]; rfl) hlt HALL.out hxy
          rw [← HF.out, HL.out] at h1
          injection h1)
        generalize (dg s).getD k 0 = x at o1 hxy HH d1 d2
        generalize (dg t).getD k 0 = y at o2 hxy HH d3 d4
        have r0 := D4.out.cell (show 0 < 2 by omega)
        have r1 := D4.out.cell (show 1 < 2 by omega)
        have f0 := D4.out.frozen (show 0 < 2 by omega)
        have f1 := D4.out.frozen (show 1 < 2 by omega)
        have hwx : IntKind.i64.wrap (x + 1) = x + 1 := IntWalk.i64_in _ (by omega)
        have hxd : (x != y) = true := by simpa using hxy
        clear K1 K2
        generalize wr = V at *
        by_cases hy : (x + 1) % b = y
        · have HV : Hid (otP a b s t = ((k : Int), 1)) := Lib.hid (by rw [HH.out, if_pos hy])
          have hmd : (modI b (x + 1) == y) = true := by unfold modI; simpa using hy
          go_wp2_with fail
          go_quiet (fail)
          have DV := Lib.hid (D4.out.drewN nq)
          have XV := Lib.hid (bel_drewN X4.out nq)
          have v1 : (V.drewN nq).cell? ⟨g1, k, none⟩ = some (.int .i64 x) := o1
          have v2 : (V.drewN nq).cell? ⟨g2, k, none⟩ = some (.int .i64 y) := o2
          have v3 : (V.drewN nq).cell? ⟨w.heap.size, 1, none⟩ = some (.int .i64 b) := n1
          have v4 := DV.out.cell (show 0 < 2 by omega)
          have v5 := DV.out.cell (show 1 < 2 by omega)
          have v6 := DV.out.frozen (show 0 < 2 by omega)
          have v7 := DV.out.frozen (show 1 < 2 by omega)
          clear o1 o2 n1 r0 r1 f0 f1 D4 X4
          generalize V.drewN nq = V at *
          go_wp2_with fail
          go_quiet ((go_at_call 101; exact Calls.quiet_of_same (l1Mod_q _ _ _ b2 b10)))
          have DW := Lib.hid (DV.out.drewN nq)
          have XW := Lib.hid (bel_drewN XV.out nq)
          clear v1 v2 v3 v4 v5 v6 v7 DV XV
          generalize V.drewN nq = V at *
          have v4 := DW.out.cell (show 0 < 2 by omega)
          have v5 := DW.out.cell (show 1 < 2 by omega)
          have v6 := DW.out.frozen (show 0 < 2 by omega)
          have v7 := DW.out.frozen (show 1 < 2 by omega)
          obtain ⟨E0, E1⟩ := pair_set DW.out (.int .i64 (k : Int)) (.int .i64 1)
          go_wp2_with fail
          refine bodyPost_ret (v := turnV ((k : Int), 1)) (by simp [results, Try.results81, go_sem, E0, E1, turnV]) rfl ⟨by rw [HV.out], ?_⟩
          exact (XW.out.setCell (p := ⟨w.heap.size + 1, 0, none⟩) (by simp) _).setCell (p := ⟨w.heap.size + 1, 1, none⟩) (by simp) _
        · have HV : Hid (otP a b s t = ((k : Int), (-1))) := Lib.hid (by rw [HH.out, if_neg hy])
          have hmd : (modI b (x + 1) == y) = false := by unfold modI; simpa using hy
          go_wp2_with fail
          go_quiet (fail)
          have DV := Lib.hid (D4.out.drewN nq)
          have XV := Lib.hid (bel_drewN X4.out nq)
          have v1 : (V.drewN nq).cell? ⟨g1, k, none⟩ = some (.int .i64 x) := o1
          have v2 : (V.drewN nq).cell? ⟨g2, k, none⟩ = some (.int .i64 y) := o2
          have v3 : (V.drewN nq).cell? ⟨w.heap.size, 1, none⟩ = some (.int .i64 b) := n1
          have v4 := DV.out.cell (show 0 < 2 by omega)
          have v5 := DV.out.cell (show 1 < 2 by omega)
          have v6 := DV.out.frozen (show 0 < 2 by omega)
          have v7 := DV.out.frozen (show 1 < 2 by omega)
          clear o1 o2 n1 r0 r1 f0 f1 D4 X4
          generalize V.drewN nq = V at *
          go_wp2_with fail
          go_quiet ((go_at_call 101; exact Calls.quiet_of_same (l1Mod_q _ _ _ b2 b10)))
          have DW := Lib.hid (DV.out.drewN nq)
          have XW := Lib.hid (bel_drewN XV.out nq)
          clear v1 v2 v3 v4 v5 v6 v7 DV XV
          generalize V.drewN nq = V at *
          have v4 := DW.out.cell (show 0 < 2 by omega)
          have v5 := DW.out.cell (show 1 < 2 by omega)
          have v6 := DW.out.frozen (show 0 < 2 by omega)
          have v7 := DW.out.frozen (show 1 < 2 by omega)
          obtain ⟨E0, E1⟩ := pair_set DW.out (.int .i64 (k : Int)) (.int .i64 (-1))
          go_wp2_with fail
          refine bodyPost_ret (v := turnV ((k : Int), (-1))) (by simp [results, Try.results81, go_sem, E0, E1, turnV]) rfl ⟨by rw [HV.out], ?_⟩
          exact (XW.out.setCell (p := ⟨w.heap.size + 1, 0, none⟩) (by simp) _).setCell (p := ⟨w.heap.size + 1, 1, none⟩) (by simp) _
    · have h0 := first_none (b := b) (xs := dg s) (ys := dg t) s.size (fun j hj => HALL.out j (by omega))
      rw [← HF.out, HL.out] at h0
      cases h0

/-- The code behind a rank, around. -/
def rnI (a b x : Int) : Int := x.tmod (countZ a b)

theorem roundOn_any (a b x : Int) (w : World) :
    Calls Try.prog 83 #[.agg #[.int .i64 a, .int .i64 b], .int .i64 x] w fun e w' => e = .returned (.tuple #[.string (ocT roI a b (rnI a b x)), .bool (hasNum a b (rnI a b x))]) ∧ Below w.heap.size w w' := by
  by_cases hg : goodB a b = true
  · have HG := Lib.hid hg
    have hg' := good_yes hg
    obtain ⟨n, rfl⟩ : ∃ n : Nat, a = n := ⟨a.toNat, by omega⟩
    obtain ⟨p1, p2⟩ := pw_bd6 hg'.2.2.1 hg'.2.2.2 (k := n) (by omega)
    have HC := Lib.hid (countZ_yes hg)
    have HR : Hid (rnI n b x = x.tmod (pw b n)) := Lib.hid (by unfold rnI; rw [HC.out])
    clear hg hg'
    generalize pw b n = N at *
    go_enter Try.func83, Try.ntmps83
    go_wp2_with (go_at_call 66; refine (count_any _ _ _).mono ?_; rw [HG.out, HC.out]; rintro e w1 ⟨rfl, hb⟩; obtain ⟨hc, hf, hz⟩ := bcell hb; have hz0 : w.heap.size < w1.heap.size := by (try simp at hz); omega)
    go_region_with (go_at_call 25; refine (roundCode_any _ _ _ _).mono ?_; rintro e w2 ⟨rfl, hb2⟩; have X2 := Lib.hid (below_undrew hb2))
    all_goals
      go_wp2_with fail
      go_ret2
      exact ⟨by rw [HR.out]; first | done | rfl, bel_call (show Below w.heap.size w w1 from by (repeat (first | assumption | exact Below.refl _ _ | (refine Below.alloc ?_ (by first | omega | (simp; done) | (simp; omega)) _) | (refine Below.setCell ?_ (by first | omega | (simp; done) | (simp; omega)) _) | refine bel_drewN ?_ _ | refine bel_drew ?_ | (refine bel_call ?_ (by assumption))))) X2.out⟩
  · have HG := Lib.hid (Bool.eq_false_iff.2 hg)
    have HN : Hid (∀ y, hasNum a b y = false) := Lib.hid fun y => by unfold hasNum; rw [HG.out]; rfl
    clear hg
    go_enter Try.func83, Try.ntmps83
    go_wp2_with (go_at_call 66; refine (count_any _ _ _).mono ?_; rw [HG.out]; rintro e w1 ⟨rfl, hb⟩; obtain ⟨hc, hf, hz⟩ := bcell hb; have hz0 : w.heap.size < w1.heap.size := by (try simp at hz); omega)
    go_ret2
    refine ⟨by rw [HN.out, ocT_no (HN.out _)]; first | done | rfl, ?_⟩
    (repeat (first | assumption | exact Below.refl _ _ | (refine Below.alloc ?_ (by first | omega | (simp; done) | (simp; omega)) _) | (refine Below.setCell ?_ (by first | omega | (simp; done) | (simp; omega)) _) | refine bel_drewN ?_ _ | refine bel_drew ?_ | (refine bel_call ?_ (by assumption))))

end Go.Proofs.Ytpbnleohbegccaa
