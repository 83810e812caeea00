/- The turn from a rank to the next one, in both orders, as both programs tell it. No conditions. -/
import Derived.Test.YtpbnleohbegccaaOt
namespace Go.Proofs.Ytpbnleohbegccaa
open Go.ChangeShapes Go.WideShapes Go.ChangeAt Go.RowKit Go.Joins

theorem ask_none {a b : Int} : askB a b ⟨#[]⟩ = false := by
  rw [Bool.eq_false_iff]
  intro h
  exact absurd (asked h).n1 (by decide)

theorem ot_none_l {a b : Int} {t : ByteArray} : otB a b ⟨#[]⟩ t = false := by
  unfold otB
  rw [firstZ_no (by unfold twoB; rw [ask_none]; rfl)]; rfl

theorem ot_none_r {a b : Int} {s : ByteArray} : otB a b s ⟨#[]⟩ = false := by
  unfold otB
  rw [firstZ_no (by unfold twoB; rw [ask_none, Bool.and_false])]; rfl

theorem or_good {f : Int → Int → Int} {b x : Int} {n : Nat} (hf : ∀ q, 0 ≤ f b q ∧ f b q < b) : Good n b (orL f b x n) := ⟨by rw [orL_length], fun j hj => by
  rw [orL_length] at hj
  rw [orL_at hj]
  exact hf _⟩

theorem or_ask {f : Int → Int → Int} {b x : Int} {n : Nat} (hg : goodB n b = true) (hf : ∀ q, 0 ≤ f b q ∧ f b q < b) : askB n b (textOf (orL f b x n)) = true := ask_of hg (or_good hf)

theorem oc_size (f : Int → Int → Int) (a b x : Int) : (ocT f a b x).size ≤ maxLen := by
  unfold ocT
  split
  · rename_i h
    obtain ⟨hg, _⟩ := has_parts h
    have := good_yes hg
    rw [textOf_size, orL_length]
    unfold maxLen; omega
  · exact Nat.zero_le _

theorem ot_apart {b : Int} {n : Nat} {xs ys : List Int} (hg : goodB n b = true) (hx : Good n b xs) (hy : Good n b ys) (h : Apart b xs ys n) : twoB n b (textOf xs) (textOf ys) = true ∧ otB n b (textOf xs) (textOf ys) = true := by
  have hg' := good_yes hg
  have h2 : twoB n b (textOf xs) (textOf ys) = true := by unfold twoB; rw [ask_of hg hx, ask_of hg hy]; rfl
  refine ⟨h2, ?_⟩
  unfold otB
  rw [firstZ_yes h2, dg_textOf (hx.digits hg'.2.2.2), dg_textOf (hy.digits hg'.2.2.2), textOf_size]
  have hl : xs.length = n := by have := hx.size; omega
  rw [hl]
  exact decide_eq_true h.first

theorem forth_ot {n : Nat} {b x : Int} (hx : hasNum n b x = true) (hy : hasNum n b (x + 1) = true) : twoB n b (ocT foI n b x) (ocT foI n b (x + 1)) = true ∧ otB n b (ocT foI n b x) (ocT foI n b (x + 1)) = true := by
  obtain ⟨hg, _, h0, _⟩ := has_parts hx
  obtain ⟨_, _, _, h1⟩ := has_parts hy
  have hg' := good_yes hg
  rw [Int.toNat_natCast] at h1
  rw [ocT_yes hx, ocT_yes hy]
  exact ot_apart hg (or_good (foI_bd hg'.2.2.1)) (or_good (foI_bd hg'.2.2.1)) (gray_next hg'.2.2.1 (stp_fo hg'.2.2.1) h0 h1)

/-- The rank behind one, around. -/
def nxR (a b x : Int) : Int := if hasNum a b (x + 1) then x + 1 else 0

theorem nx_has {n : Nat} {b x : Int} (hx : hasNum n b x = true) : hasNum n b (nxR n b x) = true ∧ (x + 1) % pw b n = nxR n b x ∧ rnI n b (x + 1) = nxR n b x := by
  obtain ⟨hg, _, h0, h1⟩ := has_parts hx
  rw [Int.toNat_natCast] at h1
  have hc := countZ_yes hg
  have hp := pw_pos (b := b) (good_yes hg).2.2.1 n
  have ht : rnI n b (x + 1) = (x + 1) % pw b n := by unfold rnI; rw [hc]; exact Int.tmod_eq_emod_of_nonneg (by omega)
  by_cases h : x + 1 < pw b n
  · have hn := has_of hg (show 0 ≤ x + 1 by omega) h
    have e : nxR n b x = x + 1 := by unfold nxR; rw [hn]; rfl
    rw [ht, e]
    exact ⟨hn, Int.emod_eq_of_lt (by omega) h, Int.emod_eq_of_lt (by omega) h⟩
  · have hn : hasNum n b (x + 1) = false := by
      rw [Bool.eq_false_iff]; intro h2
      obtain ⟨_, _, _, h3⟩ := has_parts h2
      rw [Int.toNat_natCast] at h3; omega
    have e : nxR n b x = 0 := by unfold nxR; rw [hn]; rfl
    have e2 : x + 1 = pw b n := by omega
    rw [ht, e, e2, Int.emod_self]
    exact ⟨has_of hg (Int.le_refl _) hp, rfl, rfl⟩

theorem round_ot {n : Nat} {b x : Int} (hx : hasNum n b x = true) : twoB n b (ocT roI n b x) (ocT roI n b (nxR n b x)) = true ∧ otB n b (ocT roI n b x) (ocT roI n b (nxR n b x)) = true := by
  obtain ⟨hg, _, h0, h1⟩ := has_parts hx
  rw [Int.toNat_natCast] at h1
  have hg' := good_yes hg
  rw [ocT_yes hx, ocT_yes (nx_has hx).1]
  refine ot_apart hg (or_good (roI_bd hg'.2.2.1)) (or_good (roI_bd hg'.2.2.1)) ?_
  by_cases h : x + 1 < pw b n
  · have e : nxR n b x = x + 1 := by unfold nxR; rw [has_of hg (by omega) h]; rfl
    rw [e]
    exact gray_next hg'.2.2.1 (stp_ro hg'.2.2.1) h0 h
  · have hn : hasNum n b (x + 1) = false := by
      rw [Bool.eq_false_iff]; intro h2
      obtain ⟨_, _, _, h3⟩ := has_parts h2
      rw [Int.toNat_natCast] at h3; omega
    have e : nxR n b x = 0 := by unfold nxR; rw [hn]; rfl
    rw [e, show x = pw b n - 1 by omega]
    exact gray_round hg'.2.2.1 (by omega)

/-- There is a turn to the next one. -/
def tfB (a b x : Int) : Bool := hasNum a b x && hasNum a b (x + 1)

def tfP (a b x : Int) : Int × Int := if tfB a b x then otP a b (ocT foI a b x) (ocT foI a b (x + 1)) else (0, 0)

def trP (a b x : Int) : Int × Int := if hasNum a b x then otP a b (ocT roI a b x) (ocT roI a b (nxR a b x)) else (0, 0)

set_option maxRecDepth 100000 in
set_option maxHeartbeats 4000000 in
theorem turnInForth_any (a b x : Int) (w : World) :
    Calls Try.prog 29 #[.agg #[.int .i64 a, .int .i64 b], .int .i64 x] w fun e w' => e = .returned (.tuple #[turnV (tfP a b x), .bool (tfB a b x)]) ∧ Below w.heap.size w w' := by
  obtain ⟨p, hp⟩ : ∃ p, tfP a b x = p := ⟨_, rfl⟩
  have HP := Lib.hid hp
  have HV : Hid (∀ y, (hasNum a b x = true → y = x + 1) → otP a b (ocT foI a b x) (ocT foI a b y) = p ∧ otB a b (ocT foI a b x) (ocT foI a b y) = tfB a b x) := Lib.hid (by
    intro y hy
    rw [← hp]
    by_cases hx : hasNum a b x = true
    · rw [hy hx]
      obtain ⟨hg, ha, _, _⟩ := has_parts hx
      generalize a.toNat = n at ha
      subst ha
      by_cases h1 : hasNum n b (x + 1) = true
      · have ht : tfB n b x = true := by unfold tfB; rw [hx, h1]; rfl
        unfold tfP
        rw [ht]
        exact ⟨rfl, (forth_ot hx h1).2⟩
      · have h1' := Bool.eq_false_iff.2 h1
        have ht : tfB n b x = false := by unfold tfB; rw [h1', Bool.and_false]
        unfold tfP
        rw [ht, ocT_no h1']
        exact ⟨otP_no ot_none_r, ot_none_r⟩
    · have hx' := Bool.eq_false_iff.2 hx
      have ht : tfB a b x = false := by unfold tfB; rw [hx']; rfl
      unfold tfP
      rw [ht, ocT_no hx']
      exact ⟨otP_no ot_none_l, ot_none_l⟩)
  have HW : Hid (hasNum a b x = true → IntKind.i64.wrap (x + 1) = x + 1) := Lib.hid (by
    intro hx
    obtain ⟨hg, _, h0, h1⟩ := has_parts hx
    have hg' := good_yes hg
    have := pw_bd6 hg'.2.2.1 hg'.2.2.2 (k := a.toNat) (by omega)
    exact IntWalk.i64_in _ (by omega))
  have D0 := Lib.hid (cells_two (w := w.alloc (.cells #[.int .i64 a, .int .i64 b] 26)) (x := 0) (y := 0) (t := 33) (g := w.heap.size + 1) (by simp))
  clear hp
  go_enter Try.func29, Try.ntmps29
  go_wp2_with fail
  refine (forthCode_any _ _ _ _).mono ?_
  rintro e w1 ⟨rfl, hb1⟩
  have D1 := Lib.hid (D0.out.call hb1)
  have X1 := Lib.hid (show Below w.heap.size w w1 from bel_call (((Below.refl _ _).alloc (Nat.le_refl _) _).alloc (by simp) _) hb1)
  have zz : w.heap.size + 1 < w1.heap.size := by have := hb1.size; simp at this; omega
  have l0 : w1.cell? ⟨w.heap.size, 0, none⟩ = some (.int .i64 a) := (hb1.cell (p := ⟨w.heap.size, 0, none⟩) (by simp; omega)).trans (by simp)
  have l1 : w1.cell? ⟨w.heap.size, 1, none⟩ = some (.int .i64 b) := (hb1.cell (p := ⟨w.heap.size, 1, none⟩) (by simp; omega)).trans (by simp)
  clear hb1 D0
  generalize hyy : IntKind.i64.wrap (x + 1) = y at HW
  go_wp2_with fail
  refine (forthCode_any _ _ _ _).mono ?_
  rintro e w2 ⟨rfl, hb2⟩
  obtain ⟨hv1, hv2⟩ := HV.out y HW.out
  have V1 := Lib.hid hv1
  have V2 := Lib.hid hv2
  have S1 := Lib.hid (oc_size foI a b x)
  have S2 := Lib.hid (oc_size foI a b y)
  clear hv1 hv2 HV HW hyy
  generalize ocT foI a b x = s at *
  generalize ocT foI a b y = t at *
  have D2 := Lib.hid (D1.out.call hb2)
  have X2 := Lib.hid (bel_call X1.out hb2)
  have zz2 : w.heap.size + 1 < w2.heap.size := by have := hb2.size; omega
  have n0 := (hb2.cell (p := ⟨w.heap.size, 0, none⟩) (by show w.heap.size < w1.heap.size; omega)).trans l0
  have n1 := (hb2.cell (p := ⟨w.heap.size, 1, none⟩) (by show w.heap.size < w1.heap.size; omega)).trans l1
  clear hb2 l0 l1
  go_wp2_with (go_at_call 82; refine (oneTurn_any _ _ _ _ _ S1.out S2.out).mono ?_; rw [V1.out, V2.out]; unfold turnV; rintro e w3 ⟨rfl, hb3⟩
               have D3 := Lib.hid (D2.out.call hb3)
               have X3 := Lib.hid (bel_call X2.out hb3)
               have r0 := D3.out.cell (show 0 < 2 by omega)
               have r1 := D3.out.cell (show 1 < 2 by omega)
               have f0 := D3.out.frozen (show 0 < 2 by omega)
               have f1 := D3.out.frozen (show 1 < 2 by omega)
               clear hb3)
  obtain ⟨E0, E1⟩ := pair_set D3.out (.int .i64 p.1) (.int .i64 p.2)
  refine bodyPost_ret (v := .tuple #[turnV p, .bool (tfB a b x)]) (by simp [results, Try.results29, go_sem, E0, E1, turnV]) rfl ⟨by rw [HP.out], ?_⟩
  exact (X3.out.setCell (p := ⟨w.heap.size + 1, 0, none⟩) (by simp) _).setCell (p := ⟨w.heap.size + 1, 1, none⟩) (by simp) _

set_option maxRecDepth 100000 in
set_option maxHeartbeats 4000000 in
theorem turnInRound_any (a b x : Int) (w : World) :
    Calls Try.prog 32 #[.agg #[.int .i64 a, .int .i64 b], .int .i64 x] w fun e w' => e = .returned (.tuple #[turnV (trP a b x), .bool (hasNum a b x)]) ∧ Below w.heap.size w w' := by
  obtain ⟨p, hp⟩ : ∃ p, trP a b x = p := ⟨_, rfl⟩
  have HP := Lib.hid hp
  have HV : Hid (∀ y, (hasNum a b x = true → y = x + 1) → otP a b (ocT roI a b x) (ocT roI a b (rnI a b y)) = p ∧ otB a b (ocT roI a b x) (ocT roI a b (rnI a b y)) = hasNum a b x) := Lib.hid (by
    intro y hy
    rw [← hp]
    by_cases hx : hasNum a b x = true
    · rw [hy hx]
      obtain ⟨hg, ha, _, _⟩ := has_parts hx
      generalize a.toNat = n at ha
      subst ha
      unfold trP
      rw [hx, (nx_has hx).2.2]
      exact ⟨rfl, (round_ot hx).2⟩
    · have hx' := Bool.eq_false_iff.2 hx
      unfold trP
      rw [hx', ocT_no hx']
      exact ⟨otP_no ot_none_l, ot_none_l⟩)
  have HW : Hid (hasNum a b x = true → IntKind.i64.wrap (x + 1) = x + 1) := Lib.hid (by
    intro hx
    obtain ⟨hg, _, h0, h1⟩ := has_parts hx
    have hg' := good_yes hg
    have := pw_bd6 hg'.2.2.1 hg'.2.2.2 (k := a.toNat) (by omega)
    exact IntWalk.i64_in _ (by omega))
  have D0 := Lib.hid (cells_two (w := w.alloc (.cells #[.int .i64 a, .int .i64 b] 26)) (x := 0) (y := 0) (t := 33) (g := w.heap.size + 1) (by simp))
  clear hp
  go_enter Try.func32, Try.ntmps32
  go_wp2_with fail
  refine (roundCode_any _ _ _ _).mono ?_
  rintro e w1 ⟨rfl, hb1⟩
  have D1 := Lib.hid (D0.out.call hb1)
  have X1 := Lib.hid (show Below w.heap.size w w1 from bel_call (((Below.refl _ _).alloc (Nat.le_refl _) _).alloc (by simp) _) hb1)
  have zz : w.heap.size + 1 < w1.heap.size := by have := hb1.size; simp at this; omega
  have l0 : w1.cell? ⟨w.heap.size, 0, none⟩ = some (.int .i64 a) := (hb1.cell (p := ⟨w.heap.size, 0, none⟩) (by simp; omega)).trans (by simp)
  have l1 : w1.cell? ⟨w.heap.size, 1, none⟩ = some (.int .i64 b) := (hb1.cell (p := ⟨w.heap.size, 1, none⟩) (by simp; omega)).trans (by simp)
  clear hb1 D0
  generalize hyy : IntKind.i64.wrap (x + 1) = y at HW
  go_wp2_with fail
  refine (roundOn_any _ _ _ _).mono ?_
  rintro e w2 ⟨rfl, hb2⟩
  obtain ⟨hv1, hv2⟩ := HV.out y HW.out
  have V1 := Lib.hid hv1
  have V2 := Lib.hid hv2
  have S1 := Lib.hid (oc_size roI a b x)
  have S2 := Lib.hid (oc_size roI a b (rnI a b y))
  clear hv1 hv2 HV HW hyy
  generalize ocT roI a b x = s at *
  generalize ocT roI a b (rnI a b y) = t at *
  have D2 := Lib.hid (D1.out.call hb2)
  have X2 := Lib.hid (bel_call X1.out hb2)
  have zz2 : w.heap.size + 1 < w2.heap.size := by have := hb2.size; omega
  have n0 := (hb2.cell (p := ⟨w.heap.size, 0, none⟩) (by show w.heap.size < w1.heap.size; omega)).trans l0
  have n1 := (hb2.cell (p := ⟨w.heap.size, 1, none⟩) (by show w.heap.size < w1.heap.size; omega)).trans l1
  clear hb2 l0 l1
  go_wp2_with (go_at_call 82; refine (oneTurn_any _ _ _ _ _ S1.out S2.out).mono ?_; rw [V1.out, V2.out]; unfold turnV; rintro e w3 ⟨rfl, hb3⟩
               have D3 := Lib.hid (D2.out.call hb3)
               have X3 := Lib.hid (bel_call X2.out hb3)
               have r0 := D3.out.cell (show 0 < 2 by omega)
               have r1 := D3.out.cell (show 1 < 2 by omega)
               have f0 := D3.out.frozen (show 0 < 2 by omega)
               have f1 := D3.out.frozen (show 1 < 2 by omega)
               clear hb3)
  obtain ⟨E0, E1⟩ := pair_set D3.out (.int .i64 p.1) (.int .i64 p.2)
  refine bodyPost_ret (v := .tuple #[turnV p, .bool (hasNum a b x)]) (by simp [results, Try.results32, go_sem, E0, E1, turnV]) rfl ⟨by rw [HP.out], ?_⟩
  exact (X3.out.setCell (p := ⟨w.heap.size + 1, 0, none⟩) (by simp) _).setCell (p := ⟨w.heap.size + 1, 1, none⟩) (by simp) _

end Go.Proofs.Ytpbnleohbegccaa
