/- Opening turns of a code, handed back where they are steps. For lists of at most 1048576 numbers. -/
import Derived.Test.YtfcljanechlmkaaYm
import Derived.Test.YtfcljanechlmkaaYl
namespace Go.Proofs.Ytfcljanechlmkaa
open Go.ChangeShapes Go.WideShapes Go.ChangeAt Go.RowKit Go.Joins

/-- A dial and a code of it. -/
def dcB (m s : Int) (xs : List Int) : Bool := dmB m s && codeB m xs

/-- Whether opening turns are told, and which. -/
def opB (m s : Int) (xs : List Int) : Bool := dcB m s xs && stepsB (opL m s xs xs.length xs.length)

def opZ (m s : Int) (xs : List Int) : List Int := if opB m s xs then opL m s xs xs.length xs.length else []

theorem LI.ints_n {w : World} {lo hi n : Nat} {A : Option Addr} {xs : List Int} (h : LI w lo hi A xs) (hn : xs.length = n) : IntsA w A n xs := by
  subst hn
  exact h.ints

theorem Cells.grownY {w w' : World} {g n : Nat} {f : Nat → Value} {row : Option Nat} (h : Cells w g n f) (hg : w.grownBy w' row) (hne : some g ≠ row) : Cells w' g n f := by
  have e1 := hg.block g h.lt hne
  exact ⟨Nat.lt_of_lt_of_le h.lt hg.size, fun j hj => by
    have := h.at_ j hj
    rw [World.cell?_of_block (a := ⟨g, j, none⟩) e1, World.frozen?_of_block (a := ⟨g, j, none⟩) e1]; exact this⟩

/-- A row is kept where a block below it is written. -/
theorem row_under {w : World} {base : Nat} {e : TypeId} {size : Nat} {v : Value} {n : Nat} {xs : List Value} (h : w.ownsRow base e size v n xs) {p : Addr} (hp : p.block < base) (x : Value) : (w.setCell p x).ownsRow base e size v n xs :=
  h.kept (row := some p.block) ⟨rfl, rfl, rfl, by rw [size_setCell]; exact Nat.le_refl _, fun k _ hne => Below.heap_setCell _ _ _ _ (fun e => hne (by rw [e]))⟩ (by
    rcases hv : v.ownBlock with _ | g
    · exact .inl rfl
    · exact .inr (fun e => by
        injection e with e
        have := (h.lt g hv).1
        omega))

theorem specOpening_any (m s : Int) (A : Option Addr) (n c : Nat) (xs : List Int) (w : World) (hm : -9223372036854775808 ≤ m ∧ m ≤ 9223372036854775807) (hn : n ≤ 1048576) (hA : IntsA w A n xs) :
    Calls Try.prog 27 #[.int .i64 m, .int .i64 s, .slice A n c] w (IntsL w (opZ m s xs) (opB m s xs)) := by
  have HL := Lib.hid hA.len
  have HA := Lib.hid hA
  clear hA
  obtain ⟨u, hu⟩ : ∃ u, dmB m s = u := ⟨_, rfl⟩
  obtain ⟨v, hv⟩ : ∃ v, codeB m xs = v := ⟨_, rfl⟩
  have HU := Lib.hid hu
  have HV := Lib.hid hv
  have HB : Hid (opB m s xs = ((u && v) && stepsB (opL m s xs n n))) := Lib.hid (by unfold opB dcB; rw [hu, hv, HL.out])
  rcases u with _ | _
  · have HZ : Hid (opZ m s xs = []) := Lib.hid (by unfold opZ; rw [HB.out]; rfl)
    go_enter Try.func27, Try.ntmps27
    go_wp2_with (go_at_call 55; refine (diAsked_any _ _ _ hm).mono ?_; rw [HU.out]; rintro e wq ⟨rfl, hwq⟩; replace hwq := hwq.symm; subst hwq)
    go_ret2
    rw [HZ.out, HB.out]
    exact ints_none (Below.refl _ _)
  obtain ⟨m2, m1, _, _⟩ := dm_yes hu
  have HM : Hid (marksB m = true) := Lib.hid (decide_eq_true ⟨m2, m1⟩)
  clear hm
  rcases v with _ | _
  · have HZ : Hid (opZ m s xs = []) := Lib.hid (by unfold opZ; rw [HB.out]; rfl)
    go_enter Try.func27, Try.ntmps27
    go_wp2_with (first | (go_at_call 55; refine (diAsked_any _ _ _ (by omega)).mono ?_; rw [HU.out]; rintro e wq ⟨rfl, hwq⟩; replace hwq := hwq.symm; subst hwq) | (go_at_call 70; refine (diCode_any _ _ _ _ xs _ hn HM.out HA.out).mono ?_; rw [HV.out]; rintro e wq ⟨rfl, hwq⟩; replace hwq := hwq.symm; subst hwq))
    go_ret2
    rw [HZ.out, HB.out]
    exact ints_none (Below.refl _ _)
  obtain ⟨L, hL⟩ : ∃ L, opL m s xs n n = L := ⟨_, rfl⟩
  have hll : L.length = n := by rw [← hL]; exact opL_length _ _ _ _ _
  have HLL := Lib.hid hll
  have hl12 := (code_len hv).2
  rw [HL.out] at hl12
  obtain ⟨y, hy⟩ : ∃ y, stepsB L = y := ⟨_, rfl⟩
  have HY := Lib.hid hy
  have HB2 : Hid (opB m s xs = y) := Lib.hid (by rw [HB.out, hL, hy]; rfl)
  have HLE := Lib.hid hL
  have HZ : Hid (opZ m s xs = if y then L else []) := Lib.hid (by unfold opZ; rw [HB2.out, HL.out, hL])
  clear hll hL hy hu hv
  rcases y with _ | _
  · go_enter Try.func27, Try.ntmps27
    go_wp2_with (first | (go_at_call 55; refine (diAsked_any _ _ _ (by omega)).mono ?_; rw [HU.out]; rintro e wq ⟨rfl, hwq⟩; replace hwq := hwq.symm; subst hwq) | (go_at_call 70; refine (diCode_any _ _ _ _ xs _ hn HM.out HA.out).mono ?_; rw [HV.out]; rintro e wq ⟨rfl, hwq⟩; replace hwq := hwq.symm; subst hwq) | (go_at_call 71; refine (diOpen_any _ _ _ _ _ xs _ hn HU.out HV.out HA.out).mono ?_; rw [HLE.out]; rintro e w2 ⟨A2, c2, rfl, hL2, hb2⟩; rw [HLL.out]; have HI2 := Lib.hid (hL2.ints_n HLL.out); have HL2 := Lib.hid hL2; have HB3 := Lib.hid hb2; clear hL2 hb2) | (go_at_call 56; refine (diSteps_any _ _ _ L _ hn HI2.out).mono ?_; rw [HY.out]; rintro e wq ⟨rfl, hwq⟩; replace hwq := hwq.symm; subst hwq))
    go_ret2
    rw [HZ.out, HB2.out]
    exact ints_none HB3.out
  · go_enter Try.func27, Try.ntmps27
    go_wp2_with (first | (go_at_call 55; refine (diAsked_any _ _ _ (by omega)).mono ?_; rw [HU.out]; rintro e wq ⟨rfl, hwq⟩; replace hwq := hwq.symm; subst hwq) | (go_at_call 70; refine (diCode_any _ _ _ _ xs _ hn HM.out HA.out).mono ?_; rw [HV.out]; rintro e wq ⟨rfl, hwq⟩; replace hwq := hwq.symm; subst hwq) | (go_at_call 71; refine (diOpen_any _ _ _ _ _ xs _ hn HU.out HV.out HA.out).mono ?_; rw [HLE.out]; rintro e w2 ⟨A2, c2, rfl, hL2, hb2⟩; rw [HLL.out]; have HI2 := Lib.hid (hL2.ints_n HLL.out); have HL2 := Lib.hid hL2; have HB3 := Lib.hid hb2; clear hL2 hb2) | (go_at_call 56; refine (diSteps_any _ _ _ L _ hn HI2.out).mono ?_; rw [HY.out]; rintro e wq ⟨rfl, hwq⟩; replace hwq := hwq.symm; subst hwq))
    go_ret2
    rw [HZ.out, HB2.out]
    exact ints_mk rfl HLL.out HL2.out HB3.out

set_option maxHeartbeats 2000000 in
theorem opening_any (m s : Int) (A : Option Addr) (n c : Nat) (xs : List Int) (w : World) (hn : n ≤ 1048576) (hA : IntsA w A n xs) :
    Calls Try.prog 28 #[.int .i64 m, .int .i64 s, .slice A n c] w (IntsL w (opZ m s xs) (opB m s xs)) := by
  obtain ⟨i0, hi, hy0, hy1, hy2⟩ := info_parts info_int
  have HL := Lib.hid hA.len
  have HA := Lib.hid hA
  clear hA
  obtain ⟨u, hu⟩ : ∃ u, dmB m s = u := ⟨_, rfl⟩
  obtain ⟨v, hv⟩ : ∃ v, codeB m xs = v := ⟨_, rfl⟩
  have HU := Lib.hid hu
  have HV := Lib.hid hv
  have HB : Hid (opB m s xs = ((u && v) && stepsB (opL m s xs n n))) := Lib.hid (by unfold opB dcB; rw [hu, hv, HL.out])
  have HB0 := Lib.hid (show Below w.heap.size w (w.alloc (.cells #[.int .i64 m, .int .i64 s] 46)) from (Below.refl _ _).alloc (Nat.le_refl _) _)
  have HD0 := Lib.hid (dialF_new w m s rfl)
  rcases u with _ | _
  · have HZ : Hid (opZ m s xs = []) := Lib.hid (by unfold opZ; rw [HB.out]; rfl)
    go_enter Try.func28, Try.ntmps28
    go_wp2_with (go_at_call 58; refine (isValid_any _ _ _).mono ?_; rw [HU.out]; rintro e w1 ⟨rfl, hb1⟩)
    go_ret2
    rw [HZ.out, HB.out]
    exact ints_none (bel_call HB0.out hb1)
  rcases v with _ | _
  · have HZ : Hid (opZ m s xs = []) := Lib.hid (by unfold opZ; rw [HB.out]; rfl)
    go_enter Try.func28, Try.ntmps28
    go_wp2_with (first | (go_at_call 58; refine (isValid_any _ _ _).mono ?_; rw [HU.out]; rintro e w1 ⟨rfl, hb1⟩; have HB1 := Lib.hid (bel_call HB0.out hb1)) | (go_at_call 72; refine (isDialCode_any _ _ _ _ xs _ hn (HA.out.below HB1.out)).mono ?_; rw [HV.out]; rintro e w2 ⟨rfl, hb2⟩; have HB2 := Lib.hid (bel_call HB1.out hb2)))
    go_ret2
    rw [HZ.out, HB.out]
    exact ints_none HB2.out
  obtain ⟨m2, m1, s0, s1⟩ := dm_yes hu
  have hl12 := (code_len hv).2
  rw [HL.out] at hl12
  clear hu hv
  go_enter Try.func28, Try.ntmps28
  go_wp2_with (first | (go_at_call 58; refine (isValid_any _ _ _).mono ?_; rw [HU.out]; rintro e w1 ⟨rfl, hb1⟩; have HB1 := Lib.hid (bel_call HB0.out hb1); have HD1 := Lib.hid (HD0.out.call hb1)) | (go_at_call 72; refine (isDialCode_any _ _ _ _ xs _ hn (HA.out.below HB1.out)).mono ?_; rw [HV.out]; rintro e w2 ⟨rfl, hb2⟩; have HB2 := Lib.hid (bel_call HB1.out hb2); have HD2 := Lib.hid (HD1.out.call hb2); clear hb2))
  obtain ⟨R, hRe⟩ : ∃ R, w2.heap.size = R := ⟨_, rfl⟩
  have hwR : w.heap.size < R := by rw [← hRe]; exact HD2.out.lt
  have hR2 : R ≤ w2.heap.size := by omega
  clear HD0 HB0 HB1 HD1 hb1 hRe
  go_loopw [9, 10, 28] (fun v b i wr => ∃ k : Nat, k ≤ n ∧ i = .int .i64 k ∧ b = .int .i64 (byA k) ∧ wr.ownsRow R 3 1 v k (iv (opL m s xs n k)) ∧ Cells wr w.heap.size 2 (dialF m (stA s xs k)) ∧ Below w.heap.size w wr ∧ R ≤ wr.heap.size) (fun _ _ i _ => n - (intOf i).toNat)
  case atStart => exact ⟨0, by omega, rfl, rfl, World.ownsRow_nil _ _ _ _, HD2.out, HB2.out, hR2⟩
  case round =>
    clear HD2 HB2 hR2
    obtain ⟨k, hk, rfl, rfl, hO, hD, hB, hR⟩ := hrel
    have HO := Lib.hid hO
    have HDr := Lib.hid hD
    have HBr := Lib.hid hB
    clear hO hD hB
    by_cases hlt : k < n
    · obtain ⟨b, off, rfl, hb, hc⟩ := (HA.out.below HBr.out).at_.resolve_left (by omega)
      have o1 := hc k hlt
      have HRD : Hid (dmB m (stA s xs k) = true) := Lib.hid (stA_bd HU.out HV.out (i := k) (by rw [HL.out]; exact hlt))
      have HXD : Hid (dmB m (xs.getD k 0) = true) := Lib.hid (decide_eq_true (code_at HV.out (k := k) (by rw [HL.out]; exact hlt)))
      have hby := byA_is k
      obtain ⟨f0, f1, g0, g1⟩ := opE_bd HU.out HV.out HL.out hlt
      have HE : Hid (opL m s xs n (k + 1) = opL m s xs n k ++ [byA k * (fpI m (stA s xs k) (xs.getD k 0) (byA k) + ((n : Int) - 1 - (k : Int)) * m)]) := Lib.hid rfl
      have HNB : Hid (byA (k + 1) = -(byA k)) := Lib.hid rfl
      have HNS : Hid (stA s xs (k + 1) = xs.getD k 0) := Lib.hid rfl
      generalize xs.getD k 0 = x at o1 HXD f0 f1 HE HNS
      generalize stA s xs k = r at HRD HDr f0 f1 HE
      generalize byA k = y at hby f0 f1 HE HNB
      obtain ⟨f, hf⟩ : ∃ f, fpI m r x y = f := ⟨_, rfl⟩
      have HF := Lib.hid hf
      rw [hf] at f0 f1 HE
      have hge : ((n : Int) - 1 - (k : Int)) * m = ((n : Int) - (k : Int) - 1) * m := by congr 1; omega
      rw [hge] at g0 g1 HE
      obtain ⟨g, hg⟩ : ∃ g, ((n : Int) - (k : Int) - 1) * m = g := ⟨_, rfl⟩
      rw [hg] at g0 g1 HE
      have HG := Lib.hid hg
      clear hg hc hf hge
      have hyf : -1200 ≤ y * (f + g) ∧ y * (f + g) ≤ 1200 := by rcases hby with rfl | rfl <;> omega
      have hy1' : -1 ≤ y ∧ y ≤ 1 := by rcases hby with rfl | rfl <;> omega
      have hw4 : IntKind.i64.wrap (((n : Int) - (k : Int) - 1) * m) = g := by rw [HG.out]; exact IntWalk.i64_in _ (by omega)
      have hw5 : IntKind.i64.wrap (f + g) = f + g := IntWalk.i64_in _ (by omega)
      have hw6 : IntKind.i64.wrap (y * (f + g)) = y * (f + g) := IntWalk.i64_in _ (by omega)
      have hw7 : IntKind.i64.wrap (-y) = -y := IntWalk.i64_in _ (by omega)
      have l0 : wr.cell? ⟨w.heap.size, 0, none⟩ = some (.int .i64 m) := HDr.out.cell (show 0 < 2 by omega)
      have l1 : wr.cell? ⟨w.heap.size, 1, none⟩ = some (.int .i64 r) := HDr.out.cell (show 1 < 2 by omega)
      go_wp2_with (first
        | (go_at_call 68; refine (firstPass_any _ _ _ _ _ HRD.out HXD.out hby).mono ?_; rw [HF.out]; rintro e w3 ⟨rfl, hb3⟩
           have HO3 := Lib.hid (row_kept HO.out hb3)
           have HD3 := Lib.hid (HDr.out.call hb3)
           have HB3 := Lib.hid (bel_call HBr.out hb3)
           have z3 : R ≤ w3.heap.size := Nat.le_trans hR hb3.size
           clear hb3)
        | (at_builtin; refine wpList_append_own _ rfl _ _ 22 rfl R 3 i0 (.int .i64 0) 1 8 Try.underlying22 hi hy0 hy1 hy2 rfl (by decide) _ _ _ rfl (HO3.out.alloc _) ⟨w3.heap.size, 0, none⟩ 1 1 [.int .i64 (y * (f + g))] rfl rfl (new_one rfl) (by simp [Value.oneCell']) (by unfold maxLen; omega) (by omega) (by simp; omega) ?_; intro v9 w9 hown9 hgrow9 hiff9; clear hiff9
           have HO9 : Hid (w9.ownsRow R 3 1 v9 (k + 1) (iv (opL m s xs n (k + 1)))) := Lib.hid (by rw [HE.out, iv, List.map_append]; exact hown9)
           have HB9 : Hid (Below w.heap.size w w9) := Lib.hid ((HB3.out.alloc (by omega) _).grown hgrow9 (by simp; omega) (fun j hj => by have := (HO3.out.lt j hj).1; omega))
           have HD9 : Hid (Cells w9 w.heap.size 2 (dialF m r)) := Lib.hid ((HD3.out.alloc _).grownY hgrow9 (fun e => by have := (HO3.out.lt _ e.symm).1; omega))
           have z9 : R ≤ w9.heap.size := by have := hgrow9.size; rw [World.size_alloc] at this; omega
           have l2 : w9.cell? ⟨w.heap.size, 0, none⟩ = some (.int .i64 m) := HD9.out.cell (show 0 < 2 by omega)
           have l3 : w9.cell? ⟨w.heap.size, 1, none⟩ = some (.int .i64 r) := HD9.out.cell (show 1 < 2 by omega)
           clear hown9 hgrow9)
        | (go_at_call 65; refine (reading_any _ _ _ _).mono ?_; rintro e w5 ⟨rfl, hb5⟩
           have HO5 := Lib.hid (row_kept HO9.out hb5)
           have HD5 := Lib.hid (HD9.out.call hb5)
           have HB5 := Lib.hid (bel_call HB9.out hb5)
           have z5 : R ≤ w5.heap.size := Nat.le_trans z9 hb5.size
           have l4 : w5.cell? ⟨w.heap.size, 0, none⟩ = some (.int .i64 m) := HD5.out.cell (show 0 < 2 by omega)
           have l5 : w5.cell? ⟨w.heap.size, 1, none⟩ = some (.int .i64 r) := HD5.out.cell (show 1 < 2 by omega)
           have e4 := HD5.out.frozen (show 0 < 2 by omega)
           have e5 := HD5.out.frozen (show 1 < 2 by omega)
           clear hb5))
      refine ⟨⟨k + 1, by omega, by go_num, by rw [HNB.out], row_under (row_under HO5.out (by dsimp only; omega) _) (by dsimp only; omega) _, by rw [HNS.out]; exact dialF_set HD5.out m x, (HB5.out.setCell (by dsimp only; omega) _).setCell (by dsimp only; omega) _, by rw [size_setCell, size_setCell]; exact z5⟩, ?_⟩
      simp [intOf]; omega
    · obtain rfl : k = n := by omega
      obtain ⟨A9, c9, hv, hL, hI⟩ := row_ints HO.out (opL_length _ _ _ _ _) (by omega)
      have HI := Lib.hid hI
      have HLL := Lib.hid hL
      clear hL hI
      subst hv
      obtain ⟨y, hy⟩ : ∃ y, stepsB (opL m s xs k k) = y := ⟨_, rfl⟩
      have HY := Lib.hid hy
      have HB2 : Hid (opB m s xs = y) := Lib.hid (by rw [HB.out, hy]; rfl)
      have HZ : Hid (opZ m s xs = if y then opL m s xs k k else []) := Lib.hid (by unfold opZ; rw [HB2.out, HL.out])
      clear hy
      rcases y with _ | _
      · go_wp2_with (go_at_call 59; refine (areSteps_any _ _ _ _ _ hn HI.out).mono ?_; rw [HY.out]; rintro e wq ⟨rfl, hwq⟩; replace hwq := hwq.symm; subst hwq)
        go_ret2
        rw [HZ.out, HB2.out]
        exact ints_none HBr.out
      · go_wp2_with (go_at_call 59; refine (areSteps_any _ _ _ _ _ hn HI.out).mono ?_; rw [HY.out]; rintro e wq ⟨rfl, hwq⟩; replace hwq := hwq.symm; subst hwq)
        go_ret2
        rw [HZ.out, HB2.out]
        exact ints_mk rfl (opL_length _ _ _ _ _) (HLL.out.wide (by omega) (Nat.le_refl _)) HBr.out

/-- The sum of the sizes of the first k steps. -/
def lnN (xs : List Int) : Nat → Int
  | 0 => 0
  | k + 1 => lnN xs k + absI (xs.getD k 0)

theorem lnN_bd {xs : List Int} (h : stepsB xs = true) : ∀ k, k ≤ xs.length → 0 ≤ lnN xs k ∧ lnN xs k ≤ 1000 * (k : Int)
  | 0, _ => by simp [lnN]
  | k + 1, hk => by
    have h1 := lnN_bd h k (by omega)
    have h2 := step_at h (k := k) (by omega)
    have h3 : 0 ≤ absI (xs.getD k 0) ∧ absI (xs.getD k 0) ≤ 1000 := by unfold absI; split <;> omega
    rw [lnN]
    omega

/-- The length of opening turns. -/
def olZ (m s : Int) (xs : List Int) : Int := lnN (opZ m s xs) (opZ m s xs).length

theorem opZ_steps (m s : Int) (xs : List Int) : stepsB (opZ m s xs) = true := by
  unfold opZ
  split
  · next h => unfold opB at h; rw [Bool.and_eq_true] at h; exact h.2
  · rfl

theorem diLength_any (A : Option Addr) (n c : Nat) (xs : List Int) (w : World) (hs : stepsB xs = true) (hA : IntsA w A n xs) :
    Calls Try.prog 73 #[.slice A n c] w fun e w' => e = .returned (.int .i64 (lnN xs n)) ∧ w' = w := by
  have HL := Lib.hid hA.len
  have HA := Lib.hid hA
  have HS := Lib.hid hs
  have hl12 := steps_len hs
  rw [HL.out] at hl12
  clear hA hs
  go_enter Try.func73, Try.ntmps73
  go_wp2_with fail
  go_loop [3, 8] (fun v i => ∃ k : Nat, k ≤ n ∧ i = .int .i64 k ∧ v = .int .i64 (lnN xs k)) (fun _ i => n - (intOf i).toNat)
  case atStart => exact ⟨0, by omega, rfl, rfl⟩
  case round =>
    obtain ⟨k, hk, rfl, rfl⟩ := hrel
    by_cases hlt : k < n
    · obtain ⟨b, off, rfl, hb, hc⟩ := HA.out.at_.resolve_left (by omega)
      have o1 := hc k hlt
      obtain ⟨_, x0, x1⟩ := step_at HS.out (k := k) (by rw [HL.out]; exact hlt)
      obtain ⟨n0, n1⟩ := lnN_bd HS.out k (by rw [HL.out]; omega)
      have HE : Hid (lnN xs (k + 1) = lnN xs k + absI (xs.getD k 0)) := Lib.hid rfl
      have ha : -1000 ≤ absI (xs.getD k 0) ∧ absI (xs.getD k 0) ≤ 1000 := by unfold absI; split <;> omega
      obtain ⟨z, hz⟩ : ∃ z, absI (xs.getD k 0) = z := ⟨_, rfl⟩
      rw [hz] at HE ha
      have HZ := Lib.hid hz
      generalize xs.getD k 0 = x at o1 x0 x1 HZ
      generalize lnN xs k = l at n0 n1 HE
      obtain ⟨a0, a1⟩ := ha
      clear hc hz
      go_wp2_with (go_at_call 98; refine (l1Abs_any _ _ (by omega)).mono ?_; rw [HZ.out]; rintro e wq ⟨rfl, hwq⟩; replace hwq := hwq.symm; subst hwq)
      go_round
      case rel => exact ⟨k + 1, by omega, by go_num, by rw [HE.out]⟩
      case measure => simp [intOf]; omega
    · obtain rfl : k = n := by omega
      go_wp2_with fail
      go_ret
      exact ⟨rfl, rfl⟩

theorem specLength_any (m s : Int) (A : Option Addr) (n c : Nat) (xs : List Int) (w : World) (hm : -9223372036854775808 ≤ m ∧ m ≤ 9223372036854775807) (hn : n ≤ 1048576) (hA : IntsA w A n xs) :
    Calls Try.prog 29 #[.int .i64 m, .int .i64 s, .slice A n c] w fun e w' => e = .returned (.tuple #[.int .i64 (olZ m s xs), .bool (opB m s xs)]) ∧ Below w.heap.size w w' := by
  have HA := Lib.hid hA
  clear hA
  obtain ⟨u, hu⟩ : ∃ u, opB m s xs = u := ⟨_, rfl⟩
  have HB := Lib.hid hu
  rcases u with _ | _
  · have HZ : Hid (opZ m s xs = []) := Lib.hid (by unfold opZ; rw [hu]; rfl)
    have HO : Hid (olZ m s xs = 0) := Lib.hid (by unfold olZ; rw [HZ.out]; rfl)
    clear hu
    go_enter Try.func29, Try.ntmps29
    go_wp2_with (go_at_call 27; refine (specOpening_any _ _ _ _ _ xs _ hm hn HA.out).mono ?_; rw [HB.out]; rintro e w1 ⟨A1, c1, rfl, hL, hb⟩)
    go_ret2
    rw [HO.out, HB.out]
    exact ⟨rfl, hb⟩
  · obtain ⟨L, hL⟩ : ∃ L, opZ m s xs = L := ⟨_, rfl⟩
    have HLE := Lib.hid hL
    have HO : Hid (olZ m s xs = lnN L L.length) := Lib.hid (by unfold olZ; rw [hL])
    have HS : Hid (stepsB L = true) := Lib.hid (by rw [← hL]; exact opZ_steps m s xs)
    clear hu hL
    go_enter Try.func29, Try.ntmps29
    go_wp2_with (first | (go_at_call 27; refine (specOpening_any _ _ _ _ _ xs _ hm hn HA.out).mono ?_; rw [HB.out, HLE.out]; rintro e w1 ⟨A1, c1, rfl, hL, hb⟩; have HI := Lib.hid hL.ints) | (go_at_call 73; refine (diLength_any _ _ _ _ _ HS.out HI.out).mono ?_; rintro e wq ⟨rfl, hwq⟩; replace hwq := hwq.symm; subst hwq))
    go_ret2
    rw [HO.out, HB.out]
    exact ⟨rfl, hb⟩

theorem length_any (m s : Int) (A : Option Addr) (n c : Nat) (xs : List Int) (w : World) (hn : n ≤ 1048576) (hA : IntsA w A n xs) :
    Calls Try.prog 30 #[.int .i64 m, .int .i64 s, .slice A n c] w fun e w' => e = .returned (.tuple #[.int .i64 (olZ m s xs), .bool (opB m s xs)]) ∧ Below w.heap.size w w' := by
  have HA := Lib.hid hA
  clear hA
  obtain ⟨u, hu⟩ : ∃ u, opB m s xs = u := ⟨_, rfl⟩
  have HB := Lib.hid hu
  obtain ⟨L, hL⟩ : ∃ L, opZ m s xs = L := ⟨_, rfl⟩
  have HLE := Lib.hid hL
  have HO : Hid (olZ m s xs = lnN L L.length) := Lib.hid (by unfold olZ; rw [hL])
  have HS : Hid (stepsB L = true) := Lib.hid (by rw [← hL]; exact opZ_steps m s xs)
  have hl12 := steps_len HS.out
  obtain ⟨N, hN⟩ : ∃ N, L.length = N := ⟨_, rfl⟩
  have HN := Lib.hid hN
  rw [hN] at hl12 HO
  clear hu hL hN
  go_enter Try.func30, Try.ntmps30
  go_wp2_with (go_at_call 28; refine (opening_any _ _ _ _ _ xs _ hn HA.out).mono ?_; rw [HB.out, HLE.out]; rintro e w1 ⟨A1, c1, rfl, hL, hb⟩; rw [HN.out]; have HI := Lib.hid (hL.ints_n HN.out); have HBW := Lib.hid hb; clear hL hb)
  go_loopw [10, 22] (fun v i wr => ∃ k : Nat, k ≤ N ∧ i = .int .i64 k ∧ v = .int .i64 (lnN L k) ∧ Below w.heap.size w wr ∧ IntsA wr A1 N L) (fun _ i _ => N - (intOf i).toNat)
  case atStart => exact ⟨0, by omega, rfl, rfl, HBW.out, HI.out⟩
  case round =>
    clear HI HBW
    obtain ⟨k, hk, rfl, rfl, hB, hI⟩ := hrel
    have HI := Lib.hid hI
    have HBr := Lib.hid hB
    clear hB hI
    by_cases hlt : k < N
    · obtain ⟨b, off, rfl, hb, hc⟩ := HI.out.at_.resolve_left (by omega)
      have o1 := hc k hlt
      obtain ⟨_, x0, x1⟩ := step_at HS.out (k := k) (by rw [HN.out]; exact hlt)
      obtain ⟨n0, n1⟩ := lnN_bd HS.out k (by rw [HN.out]; omega)
      have HE : Hid (lnN L (k + 1) = lnN L k + absI (L.getD k 0)) := Lib.hid rfl
      have ha : -1000 ≤ absI (L.getD k 0) ∧ absI (L.getD k 0) ≤ 1000 := by unfold absI; split <;> omega
      obtain ⟨z, hz⟩ : ∃ z, absI (L.getD k 0) = z := ⟨_, rfl⟩
      rw [hz] at HE ha
      have HZ := Lib.hid hz
      generalize L.getD k 0 = x at o1 x0 x1 HZ
      generalize lnN L k = l at n0 n1 HE
      obtain ⟨a0, a1⟩ := ha
      clear hc hz
      go_wp2_with (go_at_call 67; refine (sizeOf_any _ _ (by omega)).mono ?_; rw [HZ.out]; rintro e wq ⟨rfl, hwq⟩; replace hwq := hwq.symm; subst hwq)
      go_roundw
      case rel => exact ⟨k + 1, by omega, by go_num, by rw [HE.out], HBr.out, HI.out⟩
      case measure => simp [intOf]; omega
    · obtain rfl : k = N := by omega
      go_wp2_with fail
      go_ret2
      rw [HO.out, HB.out]
      exact ⟨rfl, HBr.out⟩

end Go.Proofs.Ytfcljanechlmkaa
