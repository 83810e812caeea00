/- How many codes have a length, as the model reckons it; and the measured codes of the program. For at most 12 marks and 3 numbers. -/
import Derived.Test.YtfcljanechlmkaaYt
namespace Go.Proofs.Ytfcljanechlmkaa
open Go.ChangeShapes Go.WideShapes Go.ChangeAt Go.RowKit Go.Joins

def cbB (m s n l : Int) : Bool := fwB m s n && inB l 0 10000

def cbZ (m s n l : Int) : Int := if cbB m s n l then clN (lensF m s n.toNat) l (m.toNat ^ n.toNat) else 0

set_option maxHeartbeats 4000000 in
theorem specCountBy_any (m s n l : Int) (w : World) (hm : -9223372036854775808 ≤ m ∧ m ≤ 9223372036854775807) :
    Calls Try.prog 39 #[.int .i64 m, .int .i64 s, .int .i64 n, .int .i64 l] w fun e w' => e = .returned (.tuple #[.int .i64 (cbZ m s n l), .bool (cbB m s n l)]) ∧ Below w.heap.size w w' := by
  obtain ⟨u, hu⟩ : ∃ u, fwB m s n = u := ⟨_, rfl⟩
  obtain ⟨v, hv⟩ : ∃ v, inB l 0 10000 = v := ⟨_, rfl⟩
  have HU := Lib.hid hu
  have HV := Lib.hid hv
  have HB : Hid (cbB m s n l = (u && v)) := Lib.hid (by unfold cbB; rw [hu, hv])
  rcases u with _ | _
  · have HZ : Hid (cbZ m s n l = 0) := Lib.hid (by unfold cbZ; rw [HB.out]; rfl)
    go_enter Try.func39, Try.ntmps39
    go_wp2_with (go_at_call 76; refine (diFew_any _ _ _ _ hm).mono ?_; rw [HU.out]; rintro e wq ⟨rfl, hwq⟩; replace hwq := hwq.symm; subst hwq)
    go_ret2
    rw [HZ.out, HB.out]
    exact ⟨rfl, Below.refl _ _⟩
  rcases v with _ | _
  · have HZ : Hid (cbZ m s n l = 0) := Lib.hid (by unfold cbZ; rw [HB.out]; rfl)
    go_enter Try.func39, Try.ntmps39
    go_wp2_with (first | (go_at_call 76; refine (diFew_any _ _ _ _ hm).mono ?_; rw [HU.out]; rintro e wq ⟨rfl, hwq⟩; replace hwq := hwq.symm; subst hwq) | (go_at_call 63; refine (l1In_any _ _ _ _).mono ?_; rw [HV.out]; rintro e wq ⟨rfl, hwq⟩; replace hwq := hwq.symm; subst hwq))
    go_ret2
    rw [HZ.out, HB.out]
    exact ⟨rfl, Below.refl _ _⟩
  obtain ⟨hd, m2, m12, n1, n3⟩ := fw_yes hu
  obtain ⟨mn, rfl⟩ : ∃ mn : Nat, m = mn := ⟨m.toNat, by omega⟩
  obtain ⟨nn, rfl⟩ : ∃ nn : Nat, n = nn := ⟨n.toNat, by omega⟩
  have HD := Lib.hid hd
  have hmm : mn ≤ 12 := by omega
  have hn : nn ≤ 3 := by omega
  have HAL := Lib.hid (alL_length mn nn)
  have HAO := Lib.hid (alL_of mn nn)
  have HF : Hid (∀ i, lensF mn s nn i = fL mn s nn ((alL mn nn).getD i [])) := Lib.hid (fun i => by unfold lensF; rw [Int.toNat_natCast])
  have HZ : Hid (cbZ mn s nn l = clN (lensF mn s nn) l (mn ^ nn)) := Lib.hid (by unfold cbZ; rw [HB.out, Int.toNat_natCast, Int.toNat_natCast]; rfl)
  have hbd := pow_bd hmm hn
  obtain ⟨N, hNe⟩ : ∃ N, mn ^ nn = N := ⟨_, rfl⟩
  rw [hNe] at HAL hbd HZ
  obtain ⟨cs, hcs⟩ : ∃ cs, alL mn nn = cs := ⟨_, rfl⟩
  have HCS := Lib.hid hcs
  rw [hcs] at HAL HAO HF
  generalize lensF mn s nn = f at HF HZ
  clear hd hNe hcs hu hv
  go_enter Try.func39, Try.ntmps39
  go_wp2_with (first | (go_at_call 76; refine (diFew_any _ _ _ _ hm).mono ?_; rw [HU.out]; rintro e wq ⟨rfl, hwq⟩; replace hwq := hwq.symm; subst hwq) | (go_at_call 63; refine (l1In_any _ _ _ _).mono ?_; rw [HV.out]; rintro e wq ⟨rfl, hwq⟩; replace hwq := hwq.symm; subst hwq) | (go_at_call 82; refine (diAll_any mn nn _ hmm hn).mono ?_; rw [HCS.out]; rintro e w1 ⟨v1, rfl, hR1, hb1⟩; obtain ⟨A1, c1, rfl⟩ := hR1.slice; rw [HAL.out] at hR1 ⊢; have HR1 := Lib.hid hR1; have HB1 := Lib.hid hb1; clear hR1 hb1))
  have hH := HB1.out.size
  go_loopw [10, 27] (fun v i wr => ∃ k : Nat, k ≤ N ∧ i = .int .i64 k ∧ v = .int .i64 (clN f l k) ∧ Below w1.heap.size w1 wr) (fun _ i _ => N - (intOf i).toNat)
  case atStart => exact ⟨0, by omega, rfl, rfl, Below.refl _ _⟩
  case round =>
    obtain ⟨k, hk, rfl, rfl, hB⟩ := hrel
    have HB9 := Lib.hid hB
    clear hB
    by_cases hlt : k < N
    · obtain ⟨g, Ai, ci, rfl, hcell0, _, hin⟩ := HR1.out.at (i := k) (by rw [HAL.out]; exact hlt)
      have hcell := (HB9.out.cell (p := ⟨g, k, none⟩) (World.block_lt_of_cell? w1 _ hcell0)).trans hcell0
      clear hcell0
      have hmem := getD_mem (l := cs) (k := k) (d := []) (by rw [HAL.out]; exact hlt)
      have hlen := (HAO.out _ hmem).1
      have HCO := Lib.hid (of_code HAO.out (by omega) (by omega) (by omega) (by omega) hmem)
      have HIA : Hid (IntsA w1 Ai nn (cs.getD k [])) := Lib.hid (RowL.ints (b := 0) hin hlen rfl)
      rw [hlen] at hcell
      have HFK : Hid (fL mn s nn (cs.getD k []) = f k) := Lib.hid (HF.out k).symm
      have HST := Lib.hid (op_small HD.out HCO.out hlen m12 hn)
      have HOL := Lib.hid (opL_length (mn : Int) s (cs.getD k []) nn nn)
      have HFL : Hid (lnN (opL mn s (cs.getD k []) nn nn) nn = f k) := Lib.hid HFK.out
      have HK : Hid (clN f l (k + 1) = clN f l k + if f k = l then 1 else 0) := Lib.hid rfl
      obtain ⟨c0, c2⟩ := clN_bd f l k
      obtain ⟨cc, hcc⟩ : ∃ cc, cs.getD k [] = cc := ⟨_, rfl⟩
      rw [hcc] at hin hlen HCO HIA HST HOL HFL
      generalize f k = fk at HFL HK
      clear hcc hin hmem HFK
      by_cases hfl : fk = l
      · have HE : Hid (clN f l (k + 1) = clN f l k + 1) := Lib.hid (by rw [HK.out, if_pos hfl])
        generalize clN f l k = cn at c0 c2 HE
        go_wp2_with (first
          | (go_at_call 71; refine (diOpen_any (mn : Int) s _ nn _ cc _ (by omega) HD.out HCO.out (HIA.out.below HB9.out)).mono ?_; rintro e w2 ⟨A2, c2', rfl, hL2, hb2⟩; rw [HOL.out]; have HI2 := Lib.hid (hL2.ints_n HOL.out); have HB2 := Lib.hid (HB9.out.trans (hb2.mono HB9.out.size)); clear hL2 hb2)
          | (go_at_call 73; refine (diLength_any _ _ _ _ _ HST.out HI2.out).mono ?_; rw [HFL.out]; rintro e wq ⟨rfl, hwq⟩; replace hwq := hwq.symm; subst hwq))
        go_roundw
        case rel => exact ⟨k + 1, by omega, by go_num, by rw [HE.out], HB2.out⟩
        case measure => simp [intOf]; omega
      · have HE : Hid (clN f l (k + 1) = clN f l k) := Lib.hid (by rw [HK.out, if_neg hfl]; omega)
        generalize clN f l k = cn at c0 c2 HE
        go_wp2_with (first
          | (go_at_call 71; refine (diOpen_any (mn : Int) s _ nn _ cc _ (by omega) HD.out HCO.out (HIA.out.below HB9.out)).mono ?_; rintro e w2 ⟨A2, c2', rfl, hL2, hb2⟩; rw [HOL.out]; have HI2 := Lib.hid (hL2.ints_n HOL.out); have HB2 := Lib.hid (HB9.out.trans (hb2.mono HB9.out.size)); clear hL2 hb2)
          | (go_at_call 73; refine (diLength_any _ _ _ _ _ HST.out HI2.out).mono ?_; rw [HFL.out]; rintro e wq ⟨rfl, hwq⟩; replace hwq := hwq.symm; subst hwq))
        go_roundw
        case rel => exact ⟨k + 1, by omega, by go_num, by rw [HE.out], HB2.out⟩
        case measure => simp [intOf]; omega
    · obtain rfl : k = N := by omega
      go_wp2_with fail
      go_ret2
      rw [HZ.out, HB.out]
      exact ⟨rfl, HB1.out.trans (HB9.out.mono hH)⟩

theorem info_meas : (Try.prog.info? 64).map (fun i => (i.zero, i.size, i.bytes)) = some (some (.agg #[.slice none 0 0, .int .i64 0]), 2, 32) := by kernel_rfl

theorem new_two {W : World} {B : Nat} {x y : Value} {t : TypeId} (hB : B = W.heap.size) : ∀ j u, ([x, y] : List Value)[j]? = some u → (W.alloc (.cells #[x, y] t)).cell? ((⟨B, 0, none⟩ : Addr).add j) = some u := by
  subst hB
  intro j u hu
  rw [add_at, World.cell?_alloc_new]
  match j, hu with
  | 0, hu => simpa using hu
  | 1, hu => simpa using hu
  | j + 2, hu => simp at hu

/-- The first k measured codes: each with the numbers that lie in a block of the row of codes. -/
def PairV (w1 : World) (B n : Nat) (cs : List (List Int)) (f : Nat → Int) (k : Nat) (vs : List Value) : Prop :=
  ∀ i, i < k → ∃ A c, vs[i * 2]? = some (.slice A n c) ∧ vs[i * 2 + 1]? = some (.int .i64 (f i)) ∧ LI w1 B w1.heap.size A (cs.getD i [])

theorem PairV.snoc {w1 : World} {B n k : Nat} {cs : List (List Int)} {f : Nat → Int} {vs : List Value} {A : Option Addr} {c : Nat} (h : PairV w1 B n cs f k vs) (hl : vs.length = k * 2) (hL : LI w1 B w1.heap.size A (cs.getD k [])) :
    PairV w1 B n cs f (k + 1) (vs ++ [.slice A n c, .int .i64 (f k)]) := by
  intro i hi
  by_cases e : i = k
  · subst e
    refine ⟨A, c, ?_, ?_, hL⟩
    · rw [← hl]; simp
    · rw [← hl]; simp
  · obtain ⟨A', c', h1, h2, h3⟩ := h i (by omega)
    exact ⟨A', c', by rw [List.getElem?_append_left (by omega)]; exact h1, by rw [List.getElem?_append_left (by omega)]; exact h2, h3⟩

/-- Measured codes handed back. -/
def MeasR (w : World) (m s : Int) (n : Nat) (N : Nat) (cs : List (List Int)) (f : Nat → Int) (v : Value) (w' : World) : Prop :=
  ∃ (w1 : World) (vs : List Value), Below w.heap.size w w1 ∧ Below w1.heap.size w1 w' ∧ w'.ownsRow w1.heap.size 64 2 v N vs ∧ PairV w1 w.heap.size n cs f N vs ∧ m = m ∧ s = s

set_option maxHeartbeats 4000000 in
theorem measured_any (m s n : Int) (w : World) :
    Calls Try.prog 78 #[.int .i64 m, .int .i64 s, .int .i64 n] w fun e w' => Below w.heap.size w w' ∧ ((fwB m s n = false ∧ e = .returned (.tuple #[.slice none 0 0, .bool false])) ∨ (fwB m s n = true ∧ ∃ v, e = .returned (.tuple #[v, .bool true]) ∧ MeasR w m s n.toNat (m.toNat ^ n.toNat) (alL m.toNat n.toNat) (lensF m s n.toNat) v w')) := by
  obtain ⟨j0, hj, hz0, hz1, hz2⟩ := info_parts info_meas
  obtain ⟨u, hu⟩ : ∃ u, dmB m s = u := ⟨_, rfl⟩
  obtain ⟨y, hy⟩ : ∃ y, countB n = y := ⟨_, rfl⟩
  have HU := Lib.hid hu
  have HY := Lib.hid hy
  have HB : Hid (fwB m s n = (u && (decide (m ≤ 12) && y))) := Lib.hid (by unfold fwB; rw [hu, hy])
  rcases u with _ | _
  · go_enter Try.func78, Try.ntmps78
    go_wp2_with (go_at_call 58; refine (isValid_any _ _ _).mono ?_; rw [HU.out]; rintro e w1 ⟨rfl, hb1⟩)
    go_ret2
    exact ⟨hb1, .inl ⟨by rw [HB.out]; rfl, rfl⟩⟩
  by_cases h12 : m ≤ 12
  · rcases y with _ | _
    · go_enter Try.func78, Try.ntmps78
      go_wp2_with (first | (go_at_call 58; refine (isValid_any _ _ _).mono ?_; rw [HU.out]; rintro e w1 ⟨rfl, hb1⟩) | (go_at_call 92; refine (isAskedCount_any _ _).mono ?_; rw [HY.out]; rintro e wq ⟨rfl, hwq⟩; replace hwq := hwq.symm; subst hwq))
      go_ret2
      exact ⟨hb1, .inl ⟨by rw [HB.out, decide_eq_true h12]; rfl, rfl⟩⟩
    have HFW : Hid (fwB m s n = true) := Lib.hid (by rw [HB.out, decide_eq_true h12]; rfl)
    obtain ⟨m2, _, _, _⟩ := dm_yes hu
    obtain ⟨n1, n3⟩ := count_yes hy
    obtain ⟨mn, rfl⟩ : ∃ mn : Nat, m = mn := ⟨m.toNat, by omega⟩
    obtain ⟨nn, rfl⟩ : ∃ nn : Nat, n = nn := ⟨n.toNat, by omega⟩
    have hmm : mn ≤ 12 := by omega
    have hn : nn ≤ 3 := by omega
    have HAL := Lib.hid (alL_length mn nn)
    have HAO := Lib.hid (alL_of mn nn)
    have HF : Hid (∀ i, lensF mn s nn i = fL mn s nn ((alL mn nn).getD i [])) := Lib.hid (fun i => by unfold lensF; rw [Int.toNat_natCast])
    have hbd := pow_bd hmm hn
    obtain ⟨N, hNe⟩ : ∃ N, mn ^ nn = N := ⟨_, rfl⟩
    obtain ⟨cs, hcs⟩ : ∃ cs, alL mn nn = cs := ⟨_, rfl⟩
    obtain ⟨f, hfe⟩ : ∃ f, lensF mn s nn = f := ⟨_, rfl⟩
    have HNE := Lib.hid hNe
    have HCS := Lib.hid hcs
    have HFE := Lib.hid hfe
    rw [hNe] at hbd
    rw [hcs, hNe] at HAL
    rw [hcs] at HAO
    rw [hcs, hfe] at HF
    clear hNe hcs hfe hu hy
    go_enter Try.func78, Try.ntmps78
    go_wp2_with (first | (go_at_call 58; refine (isValid_any _ _ _).mono ?_; rw [HU.out]; rintro e w0 ⟨rfl, hb0⟩; have HB0 := Lib.hid (show Below w.heap.size w w0 from hb0)) | (go_at_call 92; refine (isAskedCount_any _ _).mono ?_; rw [HY.out]; rintro e wq ⟨rfl, hwq⟩; replace hwq := hwq.symm; subst hwq) | (go_at_call 100; refine (dialCodes_any mn nn _ hmm hn).mono ?_; rw [HCS.out]; rintro e w1 ⟨v1, rfl, hR1, hb1⟩; obtain ⟨A1, c1, rfl⟩ := hR1.slice; rw [HAL.out] at hR1 ⊢; have HR1 := Lib.hid (hR1.weak HB0.out.size); have HB1 := Lib.hid (bel_call HB0.out hb1); clear hR1 hb1))
    have hH := HB1.out.size
    go_loopw [8, 31] (fun v i wr => ∃ (k : Nat) (vs : List Value), k ≤ N ∧ i = .int .i64 k ∧ wr.ownsRow w1.heap.size 64 2 v k vs ∧ PairV w1 w.heap.size nn cs f k vs ∧ Below w1.heap.size w1 wr) (fun _ i _ => N - (intOf i).toNat)
    case atStart => exact ⟨0, [], by omega, rfl, World.ownsRow_nil _ _ _ _, fun i hi => by omega, Below.refl _ _⟩
    case round =>
      obtain ⟨k, vs, hk, rfl, hO, hP, hB⟩ := hrel
      have HO := Lib.hid hO
      have HP := Lib.hid hP
      have HB9 := Lib.hid hB
      have hsz := hB.size
      clear hB hO hP
      by_cases hlt : k < N
      · obtain ⟨g, Ai, ci, rfl, hcell0, _, hin⟩ := HR1.out.at (i := k) (by rw [HAL.out]; exact hlt)
        have hcell := (HB9.out.cell (p := ⟨g, k, none⟩) (World.block_lt_of_cell? w1 _ hcell0)).trans hcell0
        clear hcell0
        have hmem := getD_mem (l := cs) (k := k) (d := []) (by rw [HAL.out]; exact hlt)
        have hlen := (HAO.out _ hmem).1
        have HCO := Lib.hid (of_code HAO.out (by omega) (by omega) (by omega) (by omega) hmem)
        have HIA : Hid (IntsA w1 Ai nn (cs.getD k [])) := Lib.hid (RowL.ints (b := 0) hin hlen rfl)
        have HLI := Lib.hid (RowL.li hin hlen hn)
        rw [hlen] at hcell
        have HFK : Hid (fL mn s nn (cs.getD k []) = f k) := Lib.hid (HF.out k).symm
        have hol := ol_fL HU.out HCO.out hlen h12 hn
        have HOL : Hid (olZ mn s (cs.getD k []) = f k) := Lib.hid (by rw [hol.1, HFK.out])
        have HOB : Hid (opB mn s (cs.getD k []) = true) := Lib.hid hol.2
        have HNX := Lib.hid (fun c => HP.out.snoc (c := c) HO.out.1 HLI.out)
        have hvl := HO.out.1
        obtain ⟨cc, hcc⟩ : ∃ cc, cs.getD k [] = cc := ⟨_, rfl⟩
        rw [hcc] at hin hlen HCO HIA HOL HOB
        generalize f k = fk at HOL HNX
        clear hcc hin hmem HFK hol
        go_wp2_with (first
          | (go_at_call 30; refine (length_any (mn : Int) s _ nn _ cc _ (by omega) (HIA.out.below HB9.out)).mono ?_; rw [HOL.out, HOB.out]; rintro e w2 ⟨rfl, hb2⟩; have HB2 := Lib.hid (show Below wr.heap.size wr w2 from hb2); have z2 := hb2.size; clear hb2)
          | (at_builtin; refine wpList_append_own _ rfl _ _ 60 rfl w1.heap.size 64 j0 (.agg #[.slice none 0 0, .int .i64 0]) 2 32 Try.underlying60 hj hz0 hz1 hz2 rfl (by decide) _ _ _ rfl ((row_kept HO.out HB2.out).alloc _) ⟨w2.heap.size, 0, none⟩ 1 1 [.slice Ai nn ci, .int .i64 fk] rfl rfl (new_two rfl) (by simp [Value.oneCell']) (by unfold maxLen; omega) (by omega) (by simp; omega) ?_; intro v9 w9 hown9 hgrow9 hiff9; clear hiff9))
        have HO9 := Lib.hid hown9
        have HP9 := Lib.hid (HNX.out ci)
        have HB99 : Hid (Below w1.heap.size w1 w9) := Lib.hid (((HB9.out.trans (HB2.out.mono hsz)).alloc (by omega) _).grown hgrow9 (by simp; omega) (fun j hj => (HO.out.lt j hj).1))
        clear hown9 hgrow9
        refine ⟨⟨k + 1, _, by omega, by go_num, HO9.out, HP9.out, HB99.out⟩, ?_⟩
        simp [intOf]; omega
      · obtain rfl : k = N := by omega
        go_wp2_with fail
        go_ret2
        refine ⟨HB1.out.trans (HB9.out.mono hH), .inr ⟨HFW.out, _, rfl, ?_⟩⟩
        rw [Int.toNat_natCast, Int.toNat_natCast, HNE.out, HCS.out, HFE.out]
        exact ⟨w1, vs, HB1.out, HB9.out, HO.out, HP.out, rfl, rfl⟩
  · have hgt : 12 < m := by omega
    go_enter Try.func78, Try.ntmps78
    go_wp2_with (go_at_call 58; refine (isValid_any _ _ _).mono ?_; rw [HU.out]; rintro e w1 ⟨rfl, hb1⟩)
    go_ret2
    exact ⟨hb1, .inl ⟨by rw [HB.out, decide_eq_false (by omega)]; rfl, rfl⟩⟩

end Go.Proofs.Ytfcljanechlmkaa
