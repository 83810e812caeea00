/- Keys of the master that open no pins of a list, counted by the model. For pins with at most 1048576 numbers each. -/
import Derived.Test.YtaajklkldfgppaaZo
namespace Go.Proofs.Ytaajklkldfgppaa
set_option maxRecDepth 100000
open Go.ChangeShapes Go.WideShapes Go.ChangeAt Go.RowKit Go.Joins

/-- Some pins of a list, as the cells that hold them. -/
def pvL (AK : Nat → Option Addr) (CK : Nat → Nat) (ps : List Pn) (js : List Nat) : List Value := js.flatMap (fun k => [.int .i64 (ps.getD k pn0).1, .slice (AK k) (ps.getD k pn0).2.length (CK k)])

theorem pvL_length (AK : Nat → Option Addr) (CK : Nat → Nat) (ps : List Pn) (js : List Nat) : (pvL AK CK ps js).length = js.length * 2 := by
  induction js with
  | nil => rfl
  | cons k js ih => unfold pvL at ih ⊢; rw [List.flatMap_cons, List.length_append, ih, List.length_cons, List.length_cons]; simp; omega

theorem pvL_snoc (AK : Nat → Option Addr) (CK : Nat → Nat) (ps : List Pn) (js : List Nat) (k : Nat) : pvL AK CK ps (js ++ [k]) = pvL AK CK ps js ++ [.int .i64 (ps.getD k pn0).1, .slice (AK k) (ps.getD k pn0).2.length (CK k)] := by
  unfold pvL
  rw [List.flatMap_append]
  simp

theorem pvL_at {AK : Nat → Option Addr} {CK : Nat → Nat} {ps : List Pn} {js : List Nat} {j : Nat} (hj : j < js.length) : (pvL AK CK ps js)[j * 2]? = some (.int .i64 (ps.getD js[j] pn0).1) ∧ (pvL AK CK ps js)[j * 2 + 1]? = some (.slice (AK js[j]) (ps.getD js[j] pn0).2.length (CK js[j])) := by
  induction js generalizing j with
  | nil => exact absurd hj (Nat.not_lt_zero _)
  | cons k js ih =>
    have e : pvL AK CK ps (k :: js) = .int .i64 (ps.getD k pn0).1 :: .slice (AK k) (ps.getD k pn0).2.length (CK k) :: pvL AK CK ps js := by unfold pvL; rw [List.flatMap_cons]; rfl
    rw [e]
    cases j with
    | zero => exact ⟨rfl, rfl⟩
    | succ j =>
      have := ih (j := j) (by rw [List.length_cons] at hj; omega)
      rw [show (j + 1) * 2 = j * 2 + 1 + 1 by omega, show j * 2 + 1 + 1 + 1 = (j * 2 + 1) + 1 + 1 by omega]
      simpa using this

/-- What such a row is to a function that takes it. -/
theorem argP_some {w : World} {B n : Nat} {v : Value} {AK : Nat → Option Addr} {CK : Nat → Nat} {ps : List Pn} {js : List Nat} (hO : w.ownsRow B 26 2 v n (pvL AK CK ps js)) (hn : js.length = n) (hk : ∀ k, k ∈ js → (ps.getD k pn0).2.length ≤ maxLen ∧ KnobsA w (AK k) (ps.getD k pn0).2.length (ps.getD k pn0).2) :
    ∃ A c, v = .slice A n c ∧ ArgP w A n (js.map (fun k => ps.getD k pn0)) := by
  subst hn
  rcases Nat.eq_zero_or_pos js.length with h0 | h0
  · have hv : ∃ A c, v = .slice A js.length c := by
      rcases hO.2 with ⟨rfl, e⟩ | ⟨g, cap, cur, rfl, _⟩
      · exact ⟨none, 0, by rw [e]⟩
      · exact ⟨_, cap, rfl⟩
    obtain ⟨A, c, rfl⟩ := hv
    exact ⟨A, c, rfl, by rw [List.length_map], .inl h0⟩
  · obtain ⟨g, c, rfl, hb, hlt⟩ := hO.form h0
    refine ⟨_, c, rfl, by rw [List.length_map], .inr ⟨g, 0, rfl, hlt, fun j hj => ?_⟩⟩
    have hl := pvL_length AK CK ps js
    obtain ⟨e1, e2⟩ := pvL_at (AK := AK) (CK := CK) (ps := ps) hj
    have eg : (js.map (fun k => ps.getD k pn0)).getD j pn0 = ps.getD js[j] pn0 := by simp [List.getD, List.getElem?_map, List.getElem?_eq_getElem hj]
    obtain ⟨h1, h2⟩ := hk js[j] (List.getElem_mem hj)
    rw [eg]
    refine ⟨AK js[j], CK js[j], ?_, ?_, h1, h2⟩
    · rw [Nat.zero_add, hO.cellAt (j * 2) (by omega)]; exact e1
    · rw [Nat.zero_add, hO.cellAt (j * 2 + 1) (by omega)]; exact e2

set_option maxHeartbeats 8000000 in
theorem specGhost_yes (A : Option Addr) (n c : Nat) (ps : List Pn) (w : World) (hn : n ≤ maxLen) (hA : ArgP w A n ps) (hF : Few ps) (hL : listB ps = true) :
    Calls Try.prog 18 #[.slice A n c] w fun e w' => e = .returned (.tuple #[.int .i64 (ghZ ps), .bool (listB ps)]) ∧ Below w.heap.size w w' := by
  obtain ⟨i0, hi0, hy0, hy1, hy2⟩ := info_parts info_pins
  have HL := Lib.hid hL
  have HA := Lib.hid hA
  have HN := Lib.hid hA.len
  have HMX := Lib.hid hn
  obtain ⟨l1, l6, lk⟩ := listB_yes hL
  have hp0 := pinsB_yes (okP_yes (lk 0 l1)).1
  have HK9 : Hid (Nine (cbN (fun x y => x || y) ps ps.length)) := Lib.hid (cbN_nine (okP_yes (lk 0 l1)).1 _)
  have HKL : Hid ((cbN (fun x y => x || y) ps ps.length).length = (ps.getD 0 pn0).2.length) := Lib.hid (cbN_length _ _ _)
  have HZ : Hid (ghZ ps = smI (tmI (ps.getD 0 pn0).1.toNat (ps.getD 0 pn0).2.length ps (cbN (fun x y => x || y) ps ps.length)) (2 ^ n)) := Lib.hid (by unfold ghZ; rw [HL.out, if_pos rfl, ← gh_sum, HN.out])
  obtain ⟨b0, off, rfl, hb0, hc⟩ := hA.at_.resolve_left (by have := HN.out; omega)
  have hn6 : n ≤ 6 := by have := HN.out; omega
  have hn1 : 1 ≤ n := by have := HN.out; omega
  obtain ⟨AK, CK, hAC⟩ : ∃ (AK : Nat → Option Addr) (CK : Nat → Nat), ∀ k, k < n → w.cell? ⟨b0, off + k * 2, none⟩ = some (.int .i64 (ps.getD k pn0).1) ∧ w.cell? ⟨b0, off + k * 2 + 1, none⟩ = some (.slice (AK k) (ps.getD k pn0).2.length (CK k)) ∧ (ps.getD k pn0).2.length ≤ maxLen ∧ KnobsA w (AK k) (ps.getD k pn0).2.length (ps.getD k pn0).2 := by
    have h1 : ∀ k, ∃ q : Option Addr × Nat, k < n → w.cell? ⟨b0, off + k * 2, none⟩ = some (.int .i64 (ps.getD k pn0).1) ∧ w.cell? ⟨b0, off + k * 2 + 1, none⟩ = some (.slice q.1 (ps.getD k pn0).2.length q.2) ∧ (ps.getD k pn0).2.length ≤ maxLen ∧ KnobsA w q.1 (ps.getD k pn0).2.length (ps.getD k pn0).2 := fun k => by
      by_cases hk : k < n
      · obtain ⟨Ak, ck, h⟩ := hc k hk
        exact ⟨(Ak, ck), fun _ => h⟩
      · exact ⟨(none, 0), fun h => absurd h hk⟩
    obtain ⟨f, hf⟩ := Classical.skolem.1 h1
    exact ⟨fun k => (f k).1, fun k => (f k).2, hf⟩
  have HAC := Lib.hid hAC
  have HJ : Hid (∀ W, Below w.heap.size w W → Calls Try.prog 42 #[.slice (some ⟨b0, off, none⟩) n c, .bool false] W (PinsGot W (ps.getD 0 pn0).1 (cbN (fun x y => x || y) ps n))) := Lib.hid (fun W hB => by
    have h := keJoined_any _ n c ps false W (HA.out.below hB) HL.out
    rwa [orB_eq] at h)
  clear hA hc hAC lk hL
  obtain ⟨dn, hdn⟩ : ∃ dn : Nat, (ps.getD 0 pn0).1 = (dn : Int) := ⟨(ps.getD 0 pn0).1.toNat, by omega⟩
  have HSC : Hid (∀ b : Nat, (sbP ps b).length ≠ 0 → listB (sbP ps b) = true ∧ ((sbP ps b).getD 0 pn0).1 = (dn : Int) ∧ cbN (fun x y => x && y) (sbP ps b) (sbP ps b).length = itL dn (ps.getD 0 pn0).2.length (cbN (fun x y => x || y) ps ps.length) (sbP ps b)) := Lib.hid (fun b hs => by
    obtain ⟨h1, h2, h3⟩ := sbP_list HL.out hs
    refine ⟨h1, h2.trans hdn, ?_⟩
    rw [some_count HL.out hs, hdn, Int.toNat_natCast])
  rw [hdn] at HJ hp0 HZ
  rw [Int.toNat_natCast] at HZ
  rw [HN.out] at HK9 HKL HZ HSC
  generalize cbN (fun x y => x || y) ps n = K0 at HK9 HKL HZ HSC HJ
  obtain ⟨np, hnp⟩ : ∃ np, (ps.getD 0 pn0).2.length = np := ⟨_, rfl⟩
  have HNP := Lib.hid hnp
  rw [hnp] at HKL hp0 HZ HSC
  clear hnp
  clear hdn
  rw [HZ.out, HL.out]
  go_enter Try.func18, Try.ntmps18
  go_wp2_with (first
    | (go_at_call 40; refine (keList_any _ n c ps _ HMX.out HA.out hF).mono ?_; rw [HL.out]; rintro e w1 ⟨rfl, hb1⟩
       have HB1 := Lib.hid hb1
       clear hb1)
    | (go_at_call 42; refine (HJ.out _ HB1.out).mono ?_; rintro e w2 ⟨v2, rfl, hR2, hb2⟩
       obtain ⟨A2, c2, rfl⟩ := hR2.slice
       rw [HKL.out] at hR2 ⊢
       have HR2 := Lib.hid hR2
       have HB2 := Lib.hid (bel_call HB1.out hb2)
       clear hR2 hb2)
    | (go_at_call 41; refine (keCount_any _ _ np c2 K0 _ (by omega) (HR2.out.knobs (nine_max HK9.out)) HK9.out).mono ?_; rintro e w3 ⟨rfl, hb3⟩
       have HB3 := Lib.hid (bel_call HB2.out hb3)
       clear hb3))
  have hsh : wrap64 ((2 : Int) ^ n) = ((2 ^ n : Nat) : Int) := shl_small (by omega)
  have hp64 : 2 ^ n ≤ 64 := Nat.le_trans (Nat.pow_le_pow_right (by decide) hn6) (by decide)
  have HT := Lib.hid (fun b => tmI_le (d := dn) (n := np) (by omega) (by omega) (ps := ps) (K := K0) HK9.out b)
  have HS0 : Hid (smI (tmI dn np ps K0) 1 = (ctP K0 np : Int)) := Lib.hid (by
    show (0 : Int) + tmI dn np ps K0 0 = _
    rw [Int.zero_add]
    have e : sbP ps 0 = [] := by
      have : (sbP ps 0).length = 0 := by
        rw [sbP_length]
        unfold ixL
        simp
      exact List.eq_nil_of_length_eq_zero this
    unfold tmI
    rw [e]
    rfl)
  have HP1 : Hid (1 ≤ 2 ^ n) := Lib.hid (Nat.one_le_two_pow)
  have HSB : Hid (∀ b, b ≤ 64 → (-306110016 : Int) ≤ smI (tmI dn np ps K0) b ∧ smI (tmI dn np ps K0) b ≤ 306110016) := Lib.hid (fun b hb => by
    have hs1 := smI_le HT.out b
    have hs2 : b * 4782969 ≤ 64 * 4782969 := Nat.mul_le_mul_right _ (by omega)
    omega)
  have HSS : Hid (∀ b, smI (tmI dn np ps K0) (b + 1) = smI (tmI dn np ps K0) b + tmI dn np ps K0 b) := Lib.hid (fun _ => rfl)
  have HIX : Hid (∀ b, 1 ≤ b → b < 2 ^ n → ixL b n ≠ []) := Lib.hid (fun b h1 h2 => ixL_some (by omega) h2)
  have HTM : Hid (∀ b, tmI dn np ps K0 b = if (sbP ps b).length % 2 = 1 then -(ctP (itL dn np K0 (sbP ps b)) np : Int) else (ctP (itL dn np K0 (sbP ps b)) np : Int)) := Lib.hid (fun _ => rfl)
  obtain ⟨F, hF⟩ : ∃ F, smI (tmI dn np ps K0) = F := ⟨_, rfl⟩
  obtain ⟨Q2, hQ2⟩ : ∃ Q, 2 ^ n = Q := ⟨_, rfl⟩
  have HFQ : Hid (smI (tmI dn np ps K0) (2 ^ n) = F Q2) := Lib.hid (by rw [hF, hQ2])
  rw [hF] at HSB HSS HS0
  rw [hQ2] at hsh hp64 HP1 HIX
  have HSH := Lib.hid hsh
  clear hF hQ2 hsh
  generalize tmI dn np ps K0 = TF at HT HSS HTM
  rw [← HS0.out]
  go_loopw [4, 5] (fun cv bv wr => ∃ b : Nat, 1 ≤ b ∧ b ≤ Q2 ∧ bv = .int .i64 (b : Int) ∧ cv = .int .i64 (F b) ∧ Below w.heap.size w wr) (fun _ bv _ => Q2 - (intOf bv).toNat)
  case atStart => exact ⟨1, Nat.le_refl _, HP1.out, rfl, rfl, HB3.out⟩
  case round =>
    obtain ⟨b, hb1, hb2, rfl, rfl, hB⟩ := hrel
    have HB := Lib.hid hB
    clear hB HB1 HB2 HB3 HR2 HS0
    by_cases hlt : b < Q2
    · have hlti : (b : Int) < (Q2 : Int) := by omega
      have hsh := HSH.out
      go_wp2_with fail
      rw [hsh]
      clear hsh
      obtain ⟨R0, hR0⟩ : ∃ R, wr.heap.size = R := ⟨_, rfl⟩
      have HR0 : Hid (w.heap.size ≤ R0) := Lib.hid (by rw [← hR0]; exact HB.out.size)
      go_loopw [6, 25] (fun sv iv wq => ∃ i : Nat, i ≤ n ∧ iv = .int .i64 (i : Int) ∧ wq.ownsRow R0 26 2 sv (ixL b i).length (pvL AK CK ps (ixL b i)) ∧ R0 ≤ wq.heap.size ∧ Below w.heap.size w wq) (fun _ iv _ => n - (intOf iv).toNat)
      case atStart => exact ⟨0, by omega, rfl, World.ownsRow_nil _ _ _ _, by omega, HB.out⟩
      case round =>
        obtain ⟨i, hi, rfl, hO, hRz, hBq⟩ := hrel
        have HO := Lib.hid hO
        have HBq := Lib.hid hBq
        clear hO hBq HB
        by_cases hin : i < n
        · have hini : (i : Int) < (n : Int) := by omega
          obtain ⟨o0, o1, hl, hK⟩ := HAC.out i hin
          have bw : b0 < wr.heap.size := Nat.lt_of_lt_of_le hb0 HBq.out.size
          have p0 : wr.cell? ⟨b0, off + i * 2, none⟩ = some (.int .i64 (ps.getD i pn0).1) := by rw [HBq.out.cell (p := ⟨b0, off + i * 2, none⟩) hb0]; exact o0
          have p1 : wr.cell? ⟨b0, off + i * 2 + 1, none⟩ = some (.slice (AK i) (ps.getD i pn0).2.length (CK i)) := by rw [HBq.out.cell (p := ⟨b0, off + i * 2 + 1, none⟩) hb0]; exact o1
          clear o0 o1 hl hK
          obtain ⟨P, hP⟩ : ∃ P, ps.getD i pn0 = P := ⟨_, rfl⟩
          have HP := Lib.hid hP
          rw [hP] at p0 p1
          clear hP
          have HW1 := Lib.hid (show R0 ≤ ((wr.alloc (.cells #[.int .i64 P.1, .slice (AK i) P.2.length (CK i)] 26)).alloc (.cells #[.int .i64 P.1, .slice (AK i) P.2.length (CK i)] 26)).heap.size by rw [World.size_alloc, World.size_alloc]; omega)
          have HW2 := Lib.hid (show Below w.heap.size w (wr.alloc (.cells #[.int .i64 P.1, .slice (AK i) P.2.length (CK i)] 26)) from HBq.out.alloc HBq.out.size _)
          have HW3 := Lib.hid (HW2.out.alloc HW2.out.size (.cells #[.int .i64 P.1, .slice (AK i) P.2.length (CK i)] 26))
          have C2 : Hid (∀ j u, [Value.int .i64 P.1, .slice (AK i) P.2.length (CK i)][j]? = some u → ((wr.alloc (.cells #[.int .i64 P.1, .slice (AK i) P.2.length (CK i)] 26)).alloc (.cells #[.int .i64 P.1, .slice (AK i) P.2.length (CK i)] 26)).cell? ((⟨wr.heap.size + 1, 0, none⟩ : Addr).add j) = some u) := Lib.hid (fun j u hj => by
            have CB := Cells.new (W := wr.alloc (.cells #[.int .i64 P.1, .slice (AK i) P.2.length (CK i)] 26)) (cs := #[.int .i64 P.1, .slice (AK i) P.2.length (CK i)]) (t := 26) (g := wr.heap.size + 1) (n := 2) (by rw [World.size_alloc]) rfl
            have hj2 : j < 2 := (List.getElem?_eq_some_iff.1 hj).1
            rw [addr_add, Nat.zero_add, CB.cell hj2]
            have : j = 0 ∨ j = 1 := by omega
            rcases this with rfl | rfl
            · exact hj
            · exact hj)
          have hli := ixL_length b i
          have hbt : (((b : Int) / 2 ^ i).tmod 2 == 1) = b.testBit i := by
            rw [show (b : Int) / 2 ^ i = ((b / 2 ^ i : Nat) : Int) by simp, Nat.testBit_eq_decide_div_mod_eq]
            generalize b / 2 ^ i = y
            have e : ((y : Int).tmod 2) = ((y % 2 : Nat) : Int) := by
              rw [Int.tmod_eq_emod_of_nonneg (Int.natCast_nonneg y)]; omega
            rw [e]
            have h2 : y % 2 = 0 ∨ y % 2 = 1 := by omega
            rcases h2 with h2 | h2 <;> rw [h2] <;> rfl
          cases htb : b.testBit i with
          | false =>
            rw [htb] at hbt
            have HXI := Lib.hid (ixL_no htb)
            clear htb hli
            go_wp2_with fail
            go_roundw
            case rel => exact ⟨i + 1, by omega, by go_num, by rw [HXI.out]; exact HO.out.alloc _, by rw [World.size_alloc]; omega, HW2.out⟩
            case measure => simp [intOf]; omega
          | true =>
            rw [htb] at hbt
            have HXI := Lib.hid (ixL_yes htb)
            clear htb
            go_wp2_with (at_builtin; refine wpList_append_own _ rfl _ _ 37 rfl R0 26 i0 (.agg #[.int .i64 0, .slice none 0 0]) 2 32 Try.underlying37 hi0 hy0 hy1 hy2 rfl (by decide) _ _ _ rfl ((HO.out.alloc _).alloc _) ⟨wr.heap.size + 1, 0, none⟩ 1 1 [.int .i64 P.1, .slice (AK i) P.2.length (CK i)] rfl rfl C2.out (by simp [Value.oneCell']) (by unfold maxLen; omega) (by omega) HW1.out ?_; intro v9 w9 hown9 hgrow9 hiff9; clear hiff9)
            have HB9 := Lib.hid (HW3.out.grown hgrow9 HW3.out.size (fun j hj => by have := (HO.out.lt j hj).1; have := HR0.out; omega))
            have HO9 : Hid (w9.ownsRow R0 26 2 v9 (ixL b (i + 1)).length (pvL AK CK ps (ixL b (i + 1)))) := Lib.hid (by rw [HXI.out, List.length_append, pvL_snoc, HP.out]; exact hown9)
            have hz9 := hgrow9.size
            rw [World.size_alloc, World.size_alloc] at hz9
            clear hown9 hgrow9
            go_roundw
            case rel => exact ⟨i + 1, by omega, by go_num, HO9.out, by omega, HB9.out⟩
            case measure => simp [intOf]; omega
        · obtain rfl : i = n := by omega
          have HSB2 : Hid ((ixL b i).map (fun k => ps.getD k pn0) = sbP ps b) := Lib.hid (by unfold sbP; rw [HN.out])
          obtain ⟨A5, c5, rfl, hA5⟩ := argP_some (n := (ixL b i).length) HO.out rfl (fun k hk => by
            obtain ⟨_, _, h3, h4⟩ := HAC.out k (ixL_lt hk)
            exact ⟨h3, h4.below HBq.out⟩)
          rw [HSB2.out] at hA5
          have HSL : Hid ((sbP ps b).length = (ixL b i).length) := Lib.hid (by rw [sbP_length, HN.out])
          have hne : (ixL b i).length ≠ 0 := fun h => HIX.out b hb1 hlt (List.eq_nil_of_length_eq_zero h)
          obtain ⟨hS1, hS2, hS3⟩ := HSC.out b (by rw [HSL.out]; exact hne)
          have HI9 : Hid (Nine (itL dn np K0 (sbP ps b))) := Lib.hid (itL_nine (by omega) HK9.out _)
          have HIL : Hid ((itL dn np K0 (sbP ps b)).length = np) := Lib.hid (by rw [← hS3, cbN_length]; have := sbP_list HL.out (b := b) (by rw [HSL.out]; exact hne); exact this.2.2.trans HNP.out)
          rw [HSL.out] at hS3
          have hJ : Calls Try.prog 42 #[.slice A5 (ixL b i).length c5, .bool true] wr (PinsGot wr (dn : Int) (itL dn np K0 (sbP ps b))) := by
            have h := keJoined_any A5 (ixL b i).length c5 (sbP ps b) true wr hA5 hS1
            rwa [andB_eq, hS2, hS3] at h
          have HJ5 := Lib.hid hJ
          have HT5 := HTM.out b
          rw [HSL.out] at HT5
          have HSF := HSS.out b
          have hbb := HSB.out b (Nat.le_trans hb2 hp64)
          have hzz := ctP_le HI9.out np
          have hzz2 := pow9_le (show np ≤ 7 by omega)
          obtain ⟨z, hz⟩ : ∃ z, ctP (itL dn np K0 (sbP ps b)) np = z := ⟨_, rfl⟩
          have HZE := Lib.hid hz
          rw [hz] at HT5 hzz
          generalize itL dn np K0 (sbP ps b) = K5 at HI9 HIL HJ5 HZE
          clear hz hJ hS1 hS2 hS3 hA5
          obtain ⟨m, hm⟩ : ∃ m, (ixL b i).length = m := ⟨_, rfl⟩
          have hm6 := ixL_length b i
          rw [hm] at HT5 HJ5 hm6 ⊢
          generalize F b = f0 at HSF hbb ⊢
          have HFE : Hid (F (b + 1) = f0 + (if m % 2 = 1 then -(z : Int) else (z : Int))) := Lib.hid (by rw [HSF, HT5])
          clear HSF HT5 hm hne
          have hz7 : z ≤ 4782969 := Nat.le_trans hzz hzz2
          clear hzz hzz2
          have hmt : ((m : Int) % 2 == 1) = decide (m % 2 = 1) := by
            have e : ((m : Int) % 2) = ((m % 2 : Nat) : Int) := by omega
            rw [e]
            have h2 : m % 2 = 0 ∨ m % 2 = 1 := by omega
            rcases h2 with h2 | h2 <;> rw [h2] <;> rfl
          have hw1 : IntKind.i64.wrap (f0 - (z : Int)) = f0 - (z : Int) := by rw [IntKind.wrap_i64]; omega
          have hw2 : IntKind.i64.wrap (f0 + (z : Int)) = f0 + (z : Int) := by rw [IntKind.wrap_i64]; omega
          clear hbb hz7
          by_cases hodd : m % 2 = 1
          · have HFE2 : Hid (F (b + 1) = f0 - (z : Int)) := Lib.hid (by rw [HFE.out, if_pos hodd]; omega)
            rw [decide_eq_true hodd] at hmt
            clear hodd
            go_wp2_with (first
              | (go_at_call 42; refine HJ5.out.mono ?_; rintro e w6 ⟨v6, rfl, hR6, hb6⟩
                 obtain ⟨A6, c6, rfl⟩ := hR6.slice
                 rw [HIL.out] at hR6 ⊢
                 have HR6 := Lib.hid hR6
                 have HB6 := Lib.hid (bel_call HBq.out hb6)
                 clear hR6 hb6)
              | (go_at_call 41; refine (keCount_any _ _ np c6 K5 _ (by omega) (HR6.out.knobs (nine_max HI9.out)) HI9.out).mono ?_; rw [HZE.out]; rintro e w7 ⟨rfl, hb7⟩
                 have HB7 := Lib.hid (bel_call HB6.out hb7)
                 clear hb7))
            go_roundw
            case rel => exact ⟨b + 1, by omega, by omega, by go_num, by rw [HFE2.out], HB7.out⟩
            case measure => simp [intOf]; omega
          · have HFE2 : Hid (F (b + 1) = f0 + (z : Int)) := Lib.hid (by rw [HFE.out, if_neg hodd])
            rw [decide_eq_false hodd] at hmt
            clear hodd
            go_wp2_with (first
              | (go_at_call 42; refine HJ5.out.mono ?_; rintro e w6 ⟨v6, rfl, hR6, hb6⟩
                 obtain ⟨A6, c6, rfl⟩ := hR6.slice
                 rw [HIL.out] at hR6 ⊢
                 have HR6 := Lib.hid hR6
                 have HB6 := Lib.hid (bel_call HBq.out hb6)
                 clear hR6 hb6)
              | (go_at_call 41; refine (keCount_any _ _ np c6 K5 _ (by omega) (HR6.out.knobs (nine_max HI9.out)) HI9.out).mono ?_; rw [HZE.out]; rintro e w7 ⟨rfl, hb7⟩
                 have HB7 := Lib.hid (bel_call HB6.out hb7)
                 clear hb7))
            go_roundw
            case rel => exact ⟨b + 1, by omega, by omega, by go_num, by rw [HFE2.out], HB7.out⟩
            case measure => simp [intOf]; omega
    · obtain rfl : b = Q2 := by omega
      have hsh := HSH.out
      go_wp2_with fail
      go_ret2
      rw [HFQ.out]
      exact ⟨rfl, HB.out⟩

theorem specGhostKeys_any (A : Option Addr) (n c : Nat) (ps : List Pn) (w : World) (hn : n ≤ maxLen) (hA : ArgP w A n ps) (hF : Few ps) :
    Calls Try.prog 18 #[.slice A n c] w fun e w' => e = .returned (.tuple #[.int .i64 (ghZ ps), .bool (listB ps)]) ∧ Below w.heap.size w w' := by
  cases h : listB ps with
  | true => have := specGhost_yes A n c ps w hn hA hF h; rwa [h] at this
  | false =>
    have HL := Lib.hid h
    have HZ : Hid (ghZ ps = 0) := Lib.hid (by unfold ghZ; rw [h]; rfl)
    clear h
    rw [HZ.out]
    go_enter Try.func18, Try.ntmps18
    go_wp2_with (go_at_call 40; refine (keList_any _ n c ps _ hn hA hF).mono ?_; rw [HL.out]; rintro e w1 ⟨rfl, hb1⟩)
    go_ret2
    exact ⟨rfl, hb1⟩

end Go.Proofs.Ytaajklkldfgppaa
