/- How many codes have a length, as the program tells it; lengths compared. For at most 12 marks and 3 numbers. -/
import Derived.Test.YtfcljanechlmkaaYu
namespace Go.Proofs.Ytfcljanechlmkaa
open Go.ChangeShapes Go.WideShapes Go.ChangeAt Go.RowKit Go.Joins

/-- What lies at a place of the row of measured codes. -/
theorem MeasR.at {w w' : World} {m s : Int} {n N : Nat} {cs : List (List Int)} {f : Nat → Int} {v : Value} (h : MeasR w m s n N cs f v w') (hN : 0 < N) :
    ∃ g c, v = .slice (some ⟨g, 0, none⟩) N c ∧ g < w'.heap.size ∧ ∀ i, i < N → ∃ A ci, w'.cell? ⟨g, i * 2, none⟩ = some (.slice A n ci) ∧ w'.cell? ⟨g, i * 2 + 1, none⟩ = some (.int .i64 (f i)) ∧ LI w' w.heap.size w'.heap.size A (cs.getD i []) := by
  obtain ⟨w1, vs, hB1, hB2, hO, hP, _, _⟩ := h
  obtain ⟨g, c, rfl, hg1, hg2⟩ := hO.form hN
  refine ⟨g, c, rfl, hg2, fun i hi => ?_⟩
  obtain ⟨A, ci, h1, h2, h3⟩ := hP i hi
  have hl := hO.1
  exact ⟨A, ci, by rw [hO.cellAt _ (by omega)]; exact h1, by rw [hO.cellAt _ (by omega)]; exact h2, (h3.call hB2).wide (Nat.le_refl _) hB2.size⟩

set_option maxHeartbeats 4000000 in
theorem countBy_any (m s n l : Int) (w : World) :
    Calls Try.prog 40 #[.int .i64 m, .int .i64 s, .int .i64 n, .int .i64 l] w fun e w' => e = .returned (.tuple #[.int .i64 (cbZ m s n l), .bool (cbB m s n l)]) ∧ Below w.heap.size w w' := by
  obtain ⟨u, hu⟩ : ∃ u, fwB m s n = u := ⟨_, rfl⟩
  have HU := Lib.hid hu
  have HB : Hid (cbB m s n l = (u && inB l 0 10000)) := Lib.hid (by unfold cbB; rw [hu])
  rcases u with _ | _
  · have HZ : Hid (cbZ m s n l = 0) := Lib.hid (by unfold cbZ; rw [HB.out]; rfl)
    go_enter Try.func40, Try.ntmps40
    go_wp2_with (go_at_call 78; refine (measured_any _ _ _ _).mono ?_; rintro e w1 ⟨hb1, ⟨_, rfl⟩ | ⟨h1, _⟩⟩; rotate_left; (exfalso; rw [HU.out] at h1; cases h1))
    go_ret2
    rw [HZ.out, HB.out]
    exact ⟨rfl, hb1⟩
  obtain ⟨_, m2, m12, n1, n3⟩ := fw_yes hu
  have hN : 0 < m.toNat ^ n.toNat := Nat.pow_pos (by omega)
  have hbd := pow_bd (m := m.toNat) (n := n.toNat) (by omega) (by omega)
  obtain ⟨N, hNe⟩ : ∃ N, m.toNat ^ n.toNat = N := ⟨_, rfl⟩
  have HNE := Lib.hid hNe
  rw [hNe] at hN hbd
  obtain ⟨f, hfe⟩ : ∃ f, lensF m s n.toNat = f := ⟨_, rfl⟩
  have HFE := Lib.hid hfe
  clear hNe hfe hu
  by_cases hl0 : l < 0
  · have HI : Hid (inB l 0 10000 = false) := Lib.hid (decide_eq_false (by omega))
    have HZ : Hid (cbZ m s n l = 0) := Lib.hid (by unfold cbZ; rw [HB.out, HI.out]; rfl)
    go_enter Try.func40, Try.ntmps40
    go_wp2_with (go_at_call 78; refine (measured_any _ _ _ _).mono ?_; rintro e w1 ⟨hb1, ⟨h1, _⟩ | ⟨_, v, rfl, hM⟩⟩; (exfalso; rw [HU.out] at h1; cases h1))
    go_ret2
    rw [HZ.out, HB.out, HI.out]
    exact ⟨rfl, hb1⟩
  by_cases hl1 : 10000 < l
  · have HI : Hid (inB l 0 10000 = false) := Lib.hid (decide_eq_false (by omega))
    have HZ : Hid (cbZ m s n l = 0) := Lib.hid (by unfold cbZ; rw [HB.out, HI.out]; rfl)
    go_enter Try.func40, Try.ntmps40
    go_wp2_with (go_at_call 78; refine (measured_any _ _ _ _).mono ?_; rintro e w1 ⟨hb1, ⟨h1, _⟩ | ⟨_, v, rfl, hM⟩⟩; (exfalso; rw [HU.out] at h1; cases h1))
    go_ret2
    rw [HZ.out, HB.out, HI.out]
    exact ⟨rfl, hb1⟩
  have HI : Hid (inB l 0 10000 = true) := Lib.hid (decide_eq_true (by omega))
  have HZ : Hid (cbZ m s n l = clN f l N) := Lib.hid (by unfold cbZ; rw [HB.out, HI.out, HNE.out, HFE.out]; rfl)
  go_enter Try.func40, Try.ntmps40
  go_wp2_with (go_at_call 78; refine (measured_any _ _ _ _).mono ?_; rintro e w1 ⟨hb1, ⟨h1, _⟩ | ⟨_, v, rfl, hM⟩⟩; (exfalso; rw [HU.out] at h1; cases h1); rw [HNE.out, HFE.out] at hM; obtain ⟨g, c, rfl, hg, hat⟩ := hM.at hN; have HB1 := Lib.hid (show Below w.heap.size w w1 from hb1); have HAT := Lib.hid hat; clear hM hat hb1)
  have hH := HB1.out.size
  go_loopw [12, 34] (fun v i wr => ∃ k : Nat, k ≤ N ∧ i = .int .i64 k ∧ v = .int .i64 (clN f l k) ∧ Below w1.heap.size w1 wr) (fun _ i _ => N - (intOf i).toNat)
  case atStart => exact ⟨0, by omega, rfl, rfl, Below.refl _ _⟩
  case round =>
    obtain ⟨k, hk, rfl, rfl, hB⟩ := hrel
    have HB9 := Lib.hid hB
    have hsz := hB.size
    clear hB
    by_cases hlt : k < N
    · obtain ⟨A, ci, hc0, hc1, _⟩ := HAT.out k hlt
      have o0 := (HB9.out.cell (p := ⟨g, k * 2, none⟩) hg).trans hc0
      have o1 := (HB9.out.cell (p := ⟨g, k * 2 + 1, none⟩) hg).trans hc1
      clear hc0 hc1
      have HK : Hid (clN f l (k + 1) = clN f l k + if f k = l then 1 else 0) := Lib.hid rfl
      obtain ⟨c0, c2⟩ := clN_bd f l k
      generalize f k = fk at o1 HK
      by_cases hfl : fk = l
      · have HE : Hid (clN f l (k + 1) = clN f l k + 1) := Lib.hid (by rw [HK.out, if_pos hfl])
        generalize clN f l k = cn at c0 c2 HE
        go_wp2_with fail
        refine ⟨⟨k + 1, by omega, by go_num, by rw [HE.out], HB9.out.alloc hsz _⟩, ?_⟩
        simp [intOf]; omega
      · have HE : Hid (clN f l (k + 1) = clN f l k) := Lib.hid (by rw [HK.out, if_neg hfl]; omega)
        generalize clN f l k = cn at c0 c2 HE
        go_wp2_with fail
        refine ⟨⟨k + 1, by omega, by go_num, by rw [HE.out], HB9.out.alloc hsz _⟩, ?_⟩
        simp [intOf]; omega
    · obtain rfl : k = N := by omega
      go_wp2_with fail
      go_ret2
      rw [HZ.out, HB.out, HI.out]
      exact ⟨rfl, HB1.out.trans (HB9.out.mono hH)⟩

theorem isNaN_any (x : Int) (w : World) :
    Calls Try.prog 104 #[.int .i64 x] w fun e w' => e = .returned (.bool false) ∧ w' = w := by
  go_enter Try.func104, Try.ntmps104
  go_wp2
  go_ret
  exact ⟨ret_bool (by simp), rfl⟩

/-- How two numbers are to each other. -/
def cmpI (x y : Int) : Int := if x < y then -1 else if y < x then 1 else 0

theorem cmpInt_any (x y : Int) (w : World) :
    Calls Try.prog 101 #[.int .i64 x, .int .i64 y] w fun e w' => e = .returned (.int .i64 (cmpI x y)) ∧ w' = w := by
  rcases Int.lt_trichotomy x y with h | h | h
  · have HE : Hid (cmpI x y = -1) := Lib.hid (by unfold cmpI; rw [if_pos h])
    go_enter Try.func101, Try.ntmps101
    go_wp2_with (go_at_call 104; refine (isNaN_any _ _).mono ?_; rintro e wq ⟨rfl, hwq⟩; replace hwq := hwq.symm; subst hwq)
    go_ret
    exact ⟨ret_int HE.out.symm, rfl⟩
  · have HE : Hid (cmpI x y = 0) := Lib.hid (by unfold cmpI; rw [if_neg (by omega), if_neg (by omega)])
    subst h
    go_enter Try.func101, Try.ntmps101
    go_wp2_with (go_at_call 104; refine (isNaN_any _ _).mono ?_; rintro e wq ⟨rfl, hwq⟩; replace hwq := hwq.symm; subst hwq)
    go_ret
    exact ⟨ret_int HE.out.symm, rfl⟩
  · have HE : Hid (cmpI x y = 1) := Lib.hid (by unfold cmpI; rw [if_neg (by omega), if_pos h])
    go_enter Try.func101, Try.ntmps101
    go_wp2_with (go_at_call 104; refine (isNaN_any _ _).mono ?_; rintro e wq ⟨rfl, hwq⟩; replace hwq := hwq.symm; subst hwq)
    go_ret
    exact ⟨ret_int HE.out.symm, rfl⟩

theorem compare_any (A1 A2 : Option Addr) (n1 c1 n2 c2 : Nat) (x y : Int) (w : World) :
    Calls Try.prog 80 #[.agg #[.slice A1 n1 c1, .int .i64 x], .agg #[.slice A2 n2 c2, .int .i64 y]] w fun e w' => e = .returned (.int .i64 (cmpI x y)) ∧ Below w.heap.size w w' := by
  go_enter Try.func80, Try.ntmps80
  go_wp2_with (go_at_call 101; refine (cmpInt_any _ _ _).mono ?_; rintro e wq ⟨rfl, hwq⟩; replace hwq := hwq.symm; subst hwq)
  go_ret
  refine ⟨rfl, ?_⟩
  (repeat (first | assumption | exact Below.refl _ _ | (refine Below.alloc ?_ (by first | omega | (simp; done) | (simp; omega)) _) | (refine Below.setCell ?_ (by first | omega | (simp; done) | (simp; omega)) _) | refine bel_drewN ?_ _ | refine bel_drew ?_ | (refine bel_call ?_ (by assumption))))

theorem meas_res {fn : Func} {p : Tmp} (hf : fn.results = #[.cell p 64]) (tmps : Array Value) (w : World) (g : Nat) (x : Value) (y : Int) (hp : tmps.getD p undef = .pointer (some ⟨g, 0, none⟩)) (h0 : w.cell? ⟨g, 0, none⟩ = some x) (h1 : w.cell? ⟨g, 1, none⟩ = some (.int .i64 y)) :
    (results fn tmps).run Try.prog w = .ok (.agg #[x, .int .i64 y]) w := by
  have hp' : tmps[p]?.getD undef = .pointer (some ⟨g, 0, none⟩) := by simpa using hp
  have hl := loadVar_cells (P := Try.prog) (w := w) (g := g) (ty := 64) (vs := [x, .int .i64 y]) (fun j v hv => by
    match j, hv with
    | 0, hv => cases hv; exact h0
    | 1, hv => cases hv; exact h1) Try.underlying64 rfl (by kernel_rfl)
  simp [results, hf, hp', asAddr, hl]

/-- Two cells of a measured code. -/
def mF (x : Value) (y : Int) (j : Nat) : Value := (#[x, .int .i64 y] : Array Value).toList.getD j undef

theorem mF_new (W : World) (x : Value) (y : Int) {g : Nat} (hg : g = W.heap.size) : Cells (W.alloc (.cells #[x, .int .i64 y] 64)) g 2 (mF x y) := Cells.new (n := 2) hg rfl

theorem mF_set {W : World} {g : Nat} {x : Value} {y : Int} (h : Cells W g 2 (mF x y)) (u : Value) (v : Int) : Cells ((W.setCell ⟨g, 0, none⟩ u).setCell ⟨g, 1, none⟩ (.int .i64 v)) g 2 (mF u v) :=
  ((h.set_ (show 0 < 2 by omega) u).set_ (show 1 < 2 by omega) (.int .i64 v)).congr (fun j hj => by
    match j, hj with
    | 0, _ => rfl
    | 1, _ => rfl)

/-- Four known cells and what lies below are kept by a call that makes memory alone. -/
theorem call_four {P : Program} {K : FuncId} {args : Array Value} {v : Value} {w0 W : World} {g i j b : Nat} {x y u z : Value}
    (h : W.cell? ⟨g, i, none⟩ = some x ∧ W.cell? ⟨g, j, none⟩ = some y ∧ W.cell? ⟨b, 0, none⟩ = some u ∧ W.cell? ⟨b, 1, none⟩ = some z ∧ Below w0.heap.size w0 W) (c : Calls P K args W fun e w' => e = .returned v ∧ Below W.heap.size W w') :
    Calls P K args W fun e w' => e = .returned v ∧ w'.cell? ⟨g, i, none⟩ = some x ∧ w'.cell? ⟨g, j, none⟩ = some y ∧ w'.cell? ⟨b, 0, none⟩ = some u ∧ w'.cell? ⟨b, 1, none⟩ = some z ∧ Below w0.heap.size w0 w' :=
  c.mono fun _ _ ⟨he, hb⟩ => ⟨he, (hb.cell (p := ⟨g, i, none⟩) (World.block_lt_of_cell? W _ h.1)).trans h.1, (hb.cell (p := ⟨g, j, none⟩) (World.block_lt_of_cell? W _ h.2.1)).trans h.2.1, (hb.cell (p := ⟨b, 0, none⟩) (World.block_lt_of_cell? W _ h.2.2.1)).trans h.2.2.1, (hb.cell (p := ⟨b, 1, none⟩) (World.block_lt_of_cell? W _ h.2.2.2.1)).trans h.2.2.2.1, h.2.2.2.2.trans (hb.mono h.2.2.2.2.size)⟩

set_option maxHeartbeats 4000000 in
theorem minFunc_any (g N c n : Nat) (S : Nat → Value) (f : Nat → Int) (w : World) (hN : 0 < N) (hN2 : N ≤ 1728) (hg : g < w.heap.size) (hS : ∀ i, i < N → ∃ A ci, S i = .slice A n ci) (hat : ∀ i, i < N → w.cell? ⟨g, i * 2, none⟩ = some (S i) ∧ w.cell? ⟨g, i * 2 + 1, none⟩ = some (.int .i64 (f i))) :
    Calls Try.prog 79 #[.slice (some ⟨g, 0, none⟩) N c, .func (.func 80) #[] #[]] w fun e w' => e = .returned (.agg #[S (biN f true N), .int .i64 (f (biN f true N))]) ∧ Below w.heap.size w w' := by
  have HAT := Lib.hid hat
  have HSL := Lib.hid hS
  have HN2 := Lib.hid hN
  have c0 := (hat 0 hN).1
  have c1 := (hat 0 hN).2
  obtain ⟨A0, k0, hs0⟩ := hS 0 hN
  have HS0 := Lib.hid hs0
  rw [hs0, Nat.zero_mul] at c0
  rw [Nat.zero_mul, Nat.zero_add] at c1
  have HF0 : Hid (biN f true 1 = 0) := Lib.hid (by rw [biN, if_pos rfl])
  obtain ⟨f0, hf0⟩ : ∃ f0, f 0 = f0 := ⟨_, rfl⟩
  rw [hf0] at c1
  have HFF := Lib.hid hf0
  clear hat hS hs0 hf0
  go_enter Try.func79, Try.ntmps79
  go_wp2_with fail
  go_loopw [6] (fun i wr => ∃ k : Nat, 1 ≤ k ∧ k ≤ N ∧ i = .int .i64 k ∧ Cells wr w.heap.size 2 (mF (.slice none 0 0) 0) ∧ Cells wr (w.heap.size + 1) 2 (mF (S (biN f true k)) (f (biN f true k))) ∧ Below w.heap.size w wr) (fun i _ => N - (intOf i).toNat)
  case atStart =>
    refine ⟨1, by omega, by omega, rfl, (mF_new w (.slice none 0 0) 0 rfl).alloc _, ?_, by (repeat (first | assumption | exact Below.refl _ _ | (refine Below.alloc ?_ (by first | omega | (simp; done) | (simp; omega)) _) | (refine Below.setCell ?_ (by first | omega | (simp; done) | (simp; omega)) _) | refine bel_drewN ?_ _ | refine bel_drew ?_ | (refine bel_call ?_ (by assumption))))⟩
    rw [HF0.out, HS0.out, HFF.out]
    exact mF_new (w.alloc (.cells #[.slice none 0 0, .int .i64 0] 64)) (.slice A0 n k0) f0 (by rw [World.size_alloc])
  case round =>
    obtain ⟨k, hk1, hk, rfl, hC0, hC1, hB⟩ := hrel
    have HC0 := Lib.hid hC0
    have HC1 := Lib.hid hC1
    have HBr := Lib.hid hB
    clear hC0 hC1 hB
    by_cases hlt : k < N
    · obtain ⟨a0, a1⟩ := HAT.out k hlt
      obtain ⟨Ak, ck, hsk⟩ := HSL.out k hlt
      have HSK := Lib.hid hsk
      rw [hsk] at a0
      have p0 := (HBr.out.cell (p := ⟨g, k * 2, none⟩) hg).trans a0
      have p1 := (HBr.out.cell (p := ⟨g, k * 2 + 1, none⟩) hg).trans a1
      have hbl : biN f true k < N := by
        obtain ⟨k', rfl⟩ : ∃ k', k = k' + 1 := ⟨k - 1, by omega⟩
        have := biN_lt f true k'
        omega
      obtain ⟨Ao, co, hso⟩ := HSL.out _ hbl
      have HSO := Lib.hid hso
      have q0 : wr.cell? ⟨w.heap.size + 1, 0, none⟩ = some (.slice Ao n co) := by rw [HC1.out.cell (show 0 < 2 by omega), ← hso]; rfl
      have q1 : wr.cell? ⟨w.heap.size + 1, 1, none⟩ = some (.int .i64 (f (biN f true k))) := HC1.out.cell (show 1 < 2 by omega)
      have HK : Hid (biN f true (k + 1) = if betB true (f k) (f (biN f true k)) then k else biN f true k) := Lib.hid (by rw [biN, if_neg (by omega)])
      have HFB : Hid (f (biN f true k) = f (biN f true k)) := Lib.hid rfl
      obtain ⟨fo, hfo⟩ : ∃ fo, f (biN f true k) = fo := ⟨_, rfl⟩
      rw [hfo] at q1 HK
      have HFO := Lib.hid hfo
      obtain ⟨fk, hfk⟩ : ∃ fk, f k = fk := ⟨_, rfl⟩
      rw [hfk] at p1 HK
      have HFK := Lib.hid hfk
      clear a0 a1 hsk hso hfo hfk HFB
      by_cases hbt : fk < fo
      · have HE : Hid (biN f true (k + 1) = k) := Lib.hid (by rw [HK.out, show betB true fk fo = true from decide_eq_true hbt]; rfl)
        have HCM : Hid (cmpI fk fo = -1) := Lib.hid (by unfold cmpI; rw [if_pos hbt])
        go_wp2_with fail
        go_region_held3 (fun w' => w'.cell? ⟨g, k * 2, none⟩ = some (.slice Ak n ck) ∧ w'.cell? ⟨g, k * 2 + 1, none⟩ = some (.int .i64 fk) ∧ w'.cell? ⟨w.heap.size + 1, 0, none⟩ = some (.slice Ao n co) ∧ w'.cell? ⟨w.heap.size + 1, 1, none⟩ = some (.int .i64 fo) ∧ Below wr.heap.size wr w') (first | assumption | exact ⟨p0, p1, q0, q1, bel_drew (Below.refl _ _)⟩ | go_keep)
          (first | (go_at_call 80; refine (call_four (by assumption) (compare_any _ _ _ _ _ _ _ _ _)).mono ?_; rw [HCM.out]; rintro e w1 ⟨rfl, hS⟩))
        obtain ⟨s0, s1, s2, s3, sB⟩ := hS
        have HD0 := Lib.hid (HC0.out.call sB)
        have HD1 := Lib.hid (HC1.out.call sB)
        have HB1 := Lib.hid (bel_call HBr.out sB)
        have e0 := HD1.out.frozen (show 0 < 2 by omega)
        have e1 := HD1.out.frozen (show 1 < 2 by omega)
        clear p0 p1 q0 q1 sB
        go_wp2_with fail
        refine ⟨⟨k + 1, by omega, by omega, by go_num, (HD0.out.far (by dsimp only; omega) _).far (by dsimp only; omega) _, ?_, (HB1.out.setCell (by dsimp only; omega) _).setCell (by dsimp only; omega) _⟩, by simp [intOf]; omega⟩
        rw [HE.out, HSK.out, HFK.out]
        exact mF_set HD1.out _ _
      · have HE : Hid (biN f true (k + 1) = biN f true k) := Lib.hid (by rw [HK.out, show betB true fk fo = false from decide_eq_false hbt]; rfl)
        have HCM : Hid (¬ cmpI fk fo < 0) := Lib.hid (by unfold cmpI; rw [if_neg hbt]; split <;> omega)
        obtain ⟨cm, hcm⟩ : ∃ cm, cmpI fk fo = cm := ⟨_, rfl⟩
        have hcn : ¬ cm < 0 := by rw [← hcm]; exact HCM.out
        replace HCM := Lib.hid hcm
        clear hcm
        go_wp2_with fail
        go_region_held3 (fun w' => w'.cell? ⟨g, k * 2, none⟩ = some (.slice Ak n ck) ∧ w'.cell? ⟨g, k * 2 + 1, none⟩ = some (.int .i64 fk) ∧ w'.cell? ⟨w.heap.size + 1, 0, none⟩ = some (.slice Ao n co) ∧ w'.cell? ⟨w.heap.size + 1, 1, none⟩ = some (.int .i64 fo) ∧ Below wr.heap.size wr w') (first | assumption | exact ⟨p0, p1, q0, q1, bel_drew (Below.refl _ _)⟩ | go_keep)
          (first | (go_at_call 80; refine (call_four (by assumption) (compare_any _ _ _ _ _ _ _ _ _)).mono ?_; rw [HCM.out]; rintro e w1 ⟨rfl, hS⟩))
        obtain ⟨s0, s1, s2, s3, sB⟩ := hS
        have HD0 := Lib.hid (HC0.out.call sB)
        have HD1 := Lib.hid (HC1.out.call sB)
        have HB1 := Lib.hid (bel_call HBr.out sB)
        have e0 := HD1.out.frozen (show 0 < 2 by omega)
        have e1 := HD1.out.frozen (show 1 < 2 by omega)
        clear p0 p1 q0 q1 sB
        go_wp2_with fail
        refine ⟨⟨k + 1, by omega, by omega, by go_num, HD0.out, by rw [HE.out]; exact HD1.out, HB1.out⟩, by simp [intOf]; omega⟩
    · obtain rfl : k = N := by omega
      obtain ⟨Ao, co, hso⟩ := HSL.out (biN f true k) (by
        obtain ⟨k', rfl⟩ : ∃ k', k = k' + 1 := ⟨k - 1, by omega⟩
        exact biN_lt f true k')
      have q0 : wr.cell? ⟨w.heap.size + 1, 0, none⟩ = some (.slice Ao n co) := by rw [HC1.out.cell (show 0 < 2 by omega), ← hso]; rfl
      have q1 : wr.cell? ⟨w.heap.size + 1, 1, none⟩ = some (.int .i64 (f (biN f true k))) := HC1.out.cell (show 1 < 2 by omega)
      have q2 : wr.cell? ⟨w.heap.size, 0, none⟩ = some (.slice none 0 0) := HC0.out.cell (show 0 < 2 by omega)
      have q3 : wr.cell? ⟨w.heap.size, 1, none⟩ = some (.int .i64 0) := HC0.out.cell (show 1 < 2 by omega)
      have e2 := HC0.out.frozen (show 0 < 2 by omega)
      have e3 := HC0.out.frozen (show 1 < 2 by omega)
      have CW := mF_set HC0.out (.slice Ao n co) (f (biN f true k))
      go_wp2_with fail
      refine bodyPost_ret (v := .agg #[.slice Ao n co, .int .i64 (f (biN f true k))]) (meas_res Try.results79 _ _ w.heap.size _ _ rfl (CW.cell (show 0 < 2 by omega)) (CW.cell (show 1 < 2 by omega))) rfl ⟨by rw [hso], ?_⟩
      exact (HBr.out.setCell (Nat.le_refl _) _).setCell (Nat.le_refl _) _

set_option maxHeartbeats 4000000 in
theorem maxFunc_any (g N c n : Nat) (S : Nat → Value) (f : Nat → Int) (w : World) (hN : 0 < N) (hN2 : N ≤ 1728) (hg : g < w.heap.size) (hS : ∀ i, i < N → ∃ A ci, S i = .slice A n ci) (hat : ∀ i, i < N → w.cell? ⟨g, i * 2, none⟩ = some (S i) ∧ w.cell? ⟨g, i * 2 + 1, none⟩ = some (.int .i64 (f i))) :
    Calls Try.prog 81 #[.slice (some ⟨g, 0, none⟩) N c, .func (.func 80) #[] #[]] w fun e w' => e = .returned (.agg #[S (biN f false N), .int .i64 (f (biN f false N))]) ∧ Below w.heap.size w w' := by
  have HAT := Lib.hid hat
  have HSL := Lib.hid hS
  have HN2 := Lib.hid hN
  have c0 := (hat 0 hN).1
  have c1 := (hat 0 hN).2
  obtain ⟨A0, k0, hs0⟩ := hS 0 hN
  have HS0 := Lib.hid hs0
  rw [hs0, Nat.zero_mul] at c0
  rw [Nat.zero_mul, Nat.zero_add] at c1
  have HF0 : Hid (biN f false 1 = 0) := Lib.hid (by rw [biN, if_pos rfl])
  obtain ⟨f0, hf0⟩ : ∃ f0, f 0 = f0 := ⟨_, rfl⟩
  rw [hf0] at c1
  have HFF := Lib.hid hf0
  clear hat hS hs0 hf0
  go_enter Try.func81, Try.ntmps81
  go_wp2_with fail
  go_loopw [6] (fun i wr => ∃ k : Nat, 1 ≤ k ∧ k ≤ N ∧ i = .int .i64 k ∧ Cells wr w.heap.size 2 (mF (.slice none 0 0) 0) ∧ Cells wr (w.heap.size + 1) 2 (mF (S (biN f false k)) (f (biN f false k))) ∧ Below w.heap.size w wr) (fun i _ => N - (intOf i).toNat)
  case atStart =>
    refine ⟨1, by omega, by omega, rfl, (mF_new w (.slice none 0 0) 0 rfl).alloc _, ?_, by (repeat (first | assumption | exact Below.refl _ _ | (refine Below.alloc ?_ (by first | omega | (simp; done) | (simp; omega)) _) | (refine Below.setCell ?_ (by first | omega | (simp; done) | (simp; omega)) _) | refine bel_drewN ?_ _ | refine bel_drew ?_ | (refine bel_call ?_ (by assumption))))⟩
    rw [HF0.out, HS0.out, HFF.out]
    exact mF_new (w.alloc (.cells #[.slice none 0 0, .int .i64 0] 64)) (.slice A0 n k0) f0 (by rw [World.size_alloc])
  case round =>
    obtain ⟨k, hk1, hk, rfl, hC0, hC1, hB⟩ := hrel
    have HC0 := Lib.hid hC0
    have HC1 := Lib.hid hC1
    have HBr := Lib.hid hB
    clear hC0 hC1 hB
    by_cases hlt : k < N
    · obtain ⟨a0, a1⟩ := HAT.out k hlt
      obtain ⟨Ak, ck, hsk⟩ := HSL.out k hlt
      have HSK := Lib.hid hsk
      rw [hsk] at a0
      have p0 := (HBr.out.cell (p := ⟨g, k * 2, none⟩) hg).trans a0
      have p1 := (HBr.out.cell (p := ⟨g, k * 2 + 1, none⟩) hg).trans a1
      have hbl : biN f false k < N := by
        obtain ⟨k', rfl⟩ : ∃ k', k = k' + 1 := ⟨k - 1, by omega⟩
        have := biN_lt f false k'
        omega
      obtain ⟨Ao, co, hso⟩ := HSL.out _ hbl
      have HSO := Lib.hid hso
      have q0 : wr.cell? ⟨w.heap.size + 1, 0, none⟩ = some (.slice Ao n co) := by rw [HC1.out.cell (show 0 < 2 by omega), ← hso]; rfl
      have q1 : wr.cell? ⟨w.heap.size + 1, 1, none⟩ = some (.int .i64 (f (biN f false k))) := HC1.out.cell (show 1 < 2 by omega)
      have HK : Hid (biN f false (k + 1) = if betB false (f k) (f (biN f false k)) then k else biN f false k) := Lib.hid (by rw [biN, if_neg (by omega)])
      have HFB : Hid (f (biN f false k) = f (biN f false k)) := Lib.hid rfl
      obtain ⟨fo, hfo⟩ : ∃ fo, f (biN f false k) = fo := ⟨_, rfl⟩
      rw [hfo] at q1 HK
      have HFO := Lib.hid hfo
      obtain ⟨fk, hfk⟩ : ∃ fk, f k = fk := ⟨_, rfl⟩
      rw [hfk] at p1 HK
      have HFK := Lib.hid hfk
      clear a0 a1 hsk hso hfo hfk HFB
      by_cases hbt : fo < fk
      · have HE : Hid (biN f false (k + 1) = k) := Lib.hid (by rw [HK.out, show betB false fk fo = true from decide_eq_true hbt]; rfl)
        have HCM : Hid (cmpI fk fo = 1) := Lib.hid (by unfold cmpI; rw [if_neg (by omega), if_pos hbt])
        go_wp2_with fail
        go_region_held3 (fun w' => w'.cell? ⟨g, k * 2, none⟩ = some (.slice Ak n ck) ∧ w'.cell? ⟨g, k * 2 + 1, none⟩ = some (.int .i64 fk) ∧ w'.cell? ⟨w.heap.size + 1, 0, none⟩ = some (.slice Ao n co) ∧ w'.cell? ⟨w.heap.size + 1, 1, none⟩ = some (.int .i64 fo) ∧ Below wr.heap.size wr w') (first | assumption | exact ⟨p0, p1, q0, q1, bel_drew (Below.refl _ _)⟩ | go_keep)
          (first | (go_at_call 80; refine (call_four (by assumption) (compare_any _ _ _ _ _ _ _ _ _)).mono ?_; rw [HCM.out]; rintro e w1 ⟨rfl, hS⟩))
        obtain ⟨s0, s1, s2, s3, sB⟩ := hS
        have HD0 := Lib.hid (HC0.out.call sB)
        have HD1 := Lib.hid (HC1.out.call sB)
        have HB1 := Lib.hid (bel_call HBr.out sB)
        have e0 := HD1.out.frozen (show 0 < 2 by omega)
        have e1 := HD1.out.frozen (show 1 < 2 by omega)
        clear p0 p1 q0 q1 sB
        go_wp2_with fail
        refine ⟨⟨k + 1, by omega, by omega, by go_num, (HD0.out.far (by dsimp only; omega) _).far (by dsimp only; omega) _, ?_, (HB1.out.setCell (by dsimp only; omega) _).setCell (by dsimp only; omega) _⟩, by simp [intOf]; omega⟩
        rw [HE.out, HSK.out, HFK.out]
        exact mF_set HD1.out _ _
      · have HE : Hid (biN f false (k + 1) = biN f false k) := Lib.hid (by rw [HK.out, show betB false fk fo = false from decide_eq_false hbt]; rfl)
        have HCM : Hid (¬ 0 < cmpI fk fo) := Lib.hid (by unfold cmpI; rw [if_neg hbt]; split <;> omega)
        obtain ⟨cm, hcm⟩ : ∃ cm, cmpI fk fo = cm := ⟨_, rfl⟩
        have hcn : ¬ 0 < cm := by rw [← hcm]; exact HCM.out
        replace HCM := Lib.hid hcm
        clear hcm
        go_wp2_with fail
        go_region_held3 (fun w' => w'.cell? ⟨g, k * 2, none⟩ = some (.slice Ak n ck) ∧ w'.cell? ⟨g, k * 2 + 1, none⟩ = some (.int .i64 fk) ∧ w'.cell? ⟨w.heap.size + 1, 0, none⟩ = some (.slice Ao n co) ∧ w'.cell? ⟨w.heap.size + 1, 1, none⟩ = some (.int .i64 fo) ∧ Below wr.heap.size wr w') (first | assumption | exact ⟨p0, p1, q0, q1, bel_drew (Below.refl _ _)⟩ | go_keep)
          (first | (go_at_call 80; refine (call_four (by assumption) (compare_any _ _ _ _ _ _ _ _ _)).mono ?_; rw [HCM.out]; rintro e w1 ⟨rfl, hS⟩))
        obtain ⟨s0, s1, s2, s3, sB⟩ := hS
        have HD0 := Lib.hid (HC0.out.call sB)
        have HD1 := Lib.hid (HC1.out.call sB)
        have HB1 := Lib.hid (bel_call HBr.out sB)
        have e0 := HD1.out.frozen (show 0 < 2 by omega)
        have e1 := HD1.out.frozen (show 1 < 2 by omega)
        clear p0 p1 q0 q1 sB
        go_wp2_with fail
        refine ⟨⟨k + 1, by omega, by omega, by go_num, HD0.out, by rw [HE.out]; exact HD1.out, HB1.out⟩, by simp [intOf]; omega⟩
    · obtain rfl : k = N := by omega
      obtain ⟨Ao, co, hso⟩ := HSL.out (biN f false k) (by
        obtain ⟨k', rfl⟩ : ∃ k', k = k' + 1 := ⟨k - 1, by omega⟩
        exact biN_lt f false k')
      have q0 : wr.cell? ⟨w.heap.size + 1, 0, none⟩ = some (.slice Ao n co) := by rw [HC1.out.cell (show 0 < 2 by omega), ← hso]; rfl
      have q1 : wr.cell? ⟨w.heap.size + 1, 1, none⟩ = some (.int .i64 (f (biN f false k))) := HC1.out.cell (show 1 < 2 by omega)
      have q2 : wr.cell? ⟨w.heap.size, 0, none⟩ = some (.slice none 0 0) := HC0.out.cell (show 0 < 2 by omega)
      have q3 : wr.cell? ⟨w.heap.size, 1, none⟩ = some (.int .i64 0) := HC0.out.cell (show 1 < 2 by omega)
      have e2 := HC0.out.frozen (show 0 < 2 by omega)
      have e3 := HC0.out.frozen (show 1 < 2 by omega)
      have CW := mF_set HC0.out (.slice Ao n co) (f (biN f false k))
      go_wp2_with fail
      refine bodyPost_ret (v := .agg #[.slice Ao n co, .int .i64 (f (biN f false k))]) (meas_res Try.results81 _ _ w.heap.size _ _ rfl (CW.cell (show 0 < 2 by omega)) (CW.cell (show 1 < 2 by omega))) rfl ⟨by rw [hso], ?_⟩
      exact (HBr.out.setCell (Nat.le_refl _) _).setCell (Nat.le_refl _) _

theorem shortest_any (m s n : Int) (w : World) :
    Calls Try.prog 36 #[.int .i64 m, .int .i64 s, .int .i64 n] w (IntsL3 w (beZ true m s n) (beF true m s n) (fwB m s n)) := by
  obtain ⟨u, hu⟩ : ∃ u, fwB m s n = u := ⟨_, rfl⟩
  have HU := Lib.hid hu
  rcases u with _ | _
  · have HZ : Hid (beZ true m s n = []) := Lib.hid (by unfold beZ; rw [hu]; rfl)
    have HF : Hid (beF true m s n = 0) := Lib.hid (by unfold beF; rw [hu]; rfl)
    go_enter Try.func36, Try.ntmps36
    go_wp2_with (go_at_call 78; refine (measured_any _ _ _ _).mono ?_; rintro e w1 ⟨hb1, ⟨_, rfl⟩ | ⟨h1, _⟩⟩; rotate_left; (exfalso; rw [HU.out] at h1; cases h1))
    go_ret3
    rw [HZ.out, HF.out, HU.out]
    exact ints3_none hb1
  obtain ⟨_, m2, m12, n1, n3⟩ := fw_yes hu
  have hN : 0 < m.toNat ^ n.toNat := Nat.pow_pos (by omega)
  have hbd := pow_bd (m := m.toNat) (n := n.toNat) (by omega) (by omega)
  have hZ : beZ true m s n = (alL m.toNat n.toNat).getD (biN (lensF m s n.toNat) true (m.toNat ^ n.toNat)) [] := by unfold beZ; rw [if_pos hu]
  have hF : beF true m s n = lensF m s n.toNat (biN (lensF m s n.toNat) true (m.toNat ^ n.toNat)) := by unfold beF; rw [if_pos hu]
  have HAO := Lib.hid (alL_of m.toNat n.toNat)
  have HAL := Lib.hid (alL_length m.toNat n.toNat)
  obtain ⟨N, hNe⟩ : ∃ N, m.toNat ^ n.toNat = N := ⟨_, rfl⟩
  have HNE := Lib.hid hNe
  rw [hNe] at hN hbd hZ hF HAL
  obtain ⟨f, hfe⟩ : ∃ f, lensF m s n.toNat = f := ⟨_, rfl⟩
  have HFE := Lib.hid hfe
  rw [hfe] at hZ hF
  obtain ⟨cs, hce⟩ : ∃ cs, alL m.toNat n.toNat = cs := ⟨_, rfl⟩
  have HCE := Lib.hid hce
  rw [hce] at hZ HAO HAL
  have HZ := Lib.hid hZ
  have HF := Lib.hid hF
  have hbl : biN f true N < N := by
    obtain ⟨k', rfl⟩ : ∃ k', N = k' + 1 := ⟨N - 1, by omega⟩
    exact biN_lt f true k'
  have HLN := Lib.hid ((HAO.out _ (getD_mem (d := []) (by rw [HAL.out]; exact hbl))).1)
  clear hNe hfe hu hce hZ hF
  go_enter Try.func36, Try.ntmps36
  go_wp2_with (first
    | (go_at_call 78; refine (measured_any _ _ _ _).mono ?_; rintro e w1 ⟨hb1, ⟨h1, _⟩ | ⟨_, v, rfl, hM⟩⟩; (exfalso; rw [HU.out] at h1; cases h1); rw [HNE.out, HFE.out, HCE.out] at hM; obtain ⟨g, c, rfl, hg, hat⟩ := hM.at hN; have HB1 := Lib.hid (show Below w.heap.size w w1 from hb1); have HAT := Lib.hid hat; clear hM hat hb1)
    | (go_at_call 79; refine (minFunc_any g N c n.toNat (fun i => (w1.cell? ⟨g, i * 2, none⟩).getD undef) f _ hN hbd hg (fun i hi => by obtain ⟨A, ci, h1, _⟩ := HAT.out i hi; exact ⟨A, ci, by show (w1.cell? _).getD undef = _; rw [h1]; rfl⟩) (fun i hi => by obtain ⟨A, ci, h1, h2, _⟩ := HAT.out i hi; exact ⟨by show _ = some ((w1.cell? _).getD undef); rw [h1]; rfl, h2⟩)).mono ?_; rintro e w2 ⟨rfl, hb2⟩; obtain ⟨Ab, cb, hb3, _, hLb⟩ := HAT.out _ hbl; dsimp only; rw [hb3]; have HB2 := Lib.hid (show Below w1.heap.size w1 w2 from hb2); have HLB := Lib.hid hLb; clear hb2 hb3 hLb))
  have hB3 : Below w1.heap.size w1 (w2.alloc (.cells #[.slice Ab n.toNat cb, .int .i64 (f (biN f true N))] 64)) := HB2.out.alloc HB2.out.size _
  have HB3 := Lib.hid hB3
  have hB4 := HB1.out.size
  clear hB3
  go_quiet (fail)
  go_wp2_with fail
  go_ret3
  rw [HZ.out, HF.out, HU.out]
  exact ints3_mk rfl HLN.out ((HLB.out.below (bel_drewN HB3.out _) (Nat.le_refl _)).wide (Nat.le_refl _) (bel_drewN HB3.out _).size) (HB1.out.trans ((bel_drewN HB3.out _).mono hB4))

theorem longest_any (m s n : Int) (w : World) :
    Calls Try.prog 38 #[.int .i64 m, .int .i64 s, .int .i64 n] w (IntsL3 w (beZ false m s n) (beF false m s n) (fwB m s n)) := by
  obtain ⟨u, hu⟩ : ∃ u, fwB m s n = u := ⟨_, rfl⟩
  have HU := Lib.hid hu
  rcases u with _ | _
  · have HZ : Hid (beZ false m s n = []) := Lib.hid (by unfold beZ; rw [hu]; rfl)
    have HF : Hid (beF false m s n = 0) := Lib.hid (by unfold beF; rw [hu]; rfl)
    go_enter Try.func38, Try.ntmps38
    go_wp2_with (go_at_call 78; refine (measured_any _ _ _ _).mono ?_; rintro e w1 ⟨hb1, ⟨_, rfl⟩ | ⟨h1, _⟩⟩; rotate_left; (exfalso; rw [HU.out] at h1; cases h1))
    go_ret3
    rw [HZ.out, HF.out, HU.out]
    exact ints3_none hb1
  obtain ⟨_, m2, m12, n1, n3⟩ := fw_yes hu
  have hN : 0 < m.toNat ^ n.toNat := Nat.pow_pos (by omega)
  have hbd := pow_bd (m := m.toNat) (n := n.toNat) (by omega) (by omega)
  have hZ : beZ false m s n = (alL m.toNat n.toNat).getD (biN (lensF m s n.toNat) false (m.toNat ^ n.toNat)) [] := by unfold beZ; rw [if_pos hu]
  have hF : beF false m s n = lensF m s n.toNat (biN (lensF m s n.toNat) false (m.toNat ^ n.toNat)) := by unfold beF; rw [if_pos hu]
  have HAO := Lib.hid (alL_of m.toNat n.toNat)
  have HAL := Lib.hid (alL_length m.toNat n.toNat)
  obtain ⟨N, hNe⟩ : ∃ N, m.toNat ^ n.toNat = N := ⟨_, rfl⟩
  have HNE := Lib.hid hNe
  rw [hNe] at hN hbd hZ hF HAL
  obtain ⟨f, hfe⟩ : ∃ f, lensF m s n.toNat = f := ⟨_, rfl⟩
  have HFE := Lib.hid hfe
  rw [hfe] at hZ hF
  obtain ⟨cs, hce⟩ : ∃ cs, alL m.toNat n.toNat = cs := ⟨_, rfl⟩
  have HCE := Lib.hid hce
  rw [hce] at hZ HAO HAL
  have HZ := Lib.hid hZ
  have HF := Lib.hid hF
  have hbl : biN f false N < N := by
    obtain ⟨k', rfl⟩ : ∃ k', N = k' + 1 := ⟨N - 1, by omega⟩
    exact biN_lt f false k'
  have HLN := Lib.hid ((HAO.out _ (getD_mem (d := []) (by rw [HAL.out]; exact hbl))).1)
  clear hNe hfe hu hce hZ hF
  go_enter Try.func38, Try.ntmps38
  go_wp2_with (first
    | (go_at_call 78; refine (measured_any _ _ _ _).mono ?_; rintro e w1 ⟨hb1, ⟨h1, _⟩ | ⟨_, v, rfl, hM⟩⟩; (exfalso; rw [HU.out] at h1; cases h1); rw [HNE.out, HFE.out, HCE.out] at hM; obtain ⟨g, c, rfl, hg, hat⟩ := hM.at hN; have HB1 := Lib.hid (show Below w.heap.size w w1 from hb1); have HAT := Lib.hid hat; clear hM hat hb1)
    | (go_at_call 81; refine (maxFunc_any g N c n.toNat (fun i => (w1.cell? ⟨g, i * 2, none⟩).getD undef) f _ hN hbd hg (fun i hi => by obtain ⟨A, ci, h1, _⟩ := HAT.out i hi; exact ⟨A, ci, by show (w1.cell? _).getD undef = _; rw [h1]; rfl⟩) (fun i hi => by obtain ⟨A, ci, h1, h2, _⟩ := HAT.out i hi; exact ⟨by show _ = some ((w1.cell? _).getD undef); rw [h1]; rfl, h2⟩)).mono ?_; rintro e w2 ⟨rfl, hb2⟩; obtain ⟨Ab, cb, hb3, _, hLb⟩ := HAT.out _ hbl; dsimp only; rw [hb3]; have HB2 := Lib.hid (show Below w1.heap.size w1 w2 from hb2); have HLB := Lib.hid hLb; clear hb2 hb3 hLb))
  have hB3 : Below w1.heap.size w1 (w2.alloc (.cells #[.slice Ab n.toNat cb, .int .i64 (f (biN f false N))] 64)) := HB2.out.alloc HB2.out.size _
  have HB3 := Lib.hid hB3
  have hB4 := HB1.out.size
  clear hB3
  go_quiet (fail)
  go_wp2_with fail
  go_ret3
  rw [HZ.out, HF.out, HU.out]
  exact ints3_mk rfl HLN.out ((HLB.out.below (bel_drewN HB3.out _) (Nat.le_refl _)).wide (Nat.le_refl _) (bel_drewN HB3.out _).size) (HB1.out.trans ((bel_drewN HB3.out _).mono hB4))

end Go.Proofs.Ytfcljanechlmkaa
