/- Parts of a lock, as the model counts them. For lists that can be. -/
import Derived.Test.YtilnjlcljjpnmaaPt
import Derived.Test.YtilnjlcljjpnmaaQm
namespace Go.Proofs.Ytilnjlcljjpnmaa
open Go.ChangeShapes Go.WideShapes Go.ChangeAt Go.RowKit Go.Joins

theorem info_bool : (Try.prog.info? 4).map (fun i => (i.zero, i.size, i.bytes)) = some (some (.bool false), 1, 1) := by kernel_rfl

theorem make_boolsM (n : Nat) (hn : n ≤ 1000) (W : World) : (Instr.makeSlice 129 (.int .i64 (n : Int)) (.int .i64 (n : Int))).run Try.prog W = .ok (.slice (some ⟨W.heap.size, 0, none⟩) n n) (W.alloc (.cells (madeCells #[.bool false] n) 4)) := by
  obtain ⟨i0, hi, hz0, hz1, hz2⟩ := info_parts info_bool
  have := run_make_rowN (P := Try.prog) 129 4 i0 _ Try.underlying129 hi hz0 .i64 .i64 n n (Nat.le_refl _) (by rw [hz2]; omega) (by omega) W
  rw [hz1, Nat.mul_one] at this
  exact this

/-- What is seen. -/
def seF (a b : Int) (ts : List ByteArray) (n i : Nat) : Value := .bool (seB a b ts n i)

theorem seF_zero (a b : Int) (ts : List ByteArray) (i : Nat) : seF a b ts 0 i = .bool false := rfl

/-- What is seen when some more of the row are looked through. -/
def seM (a b : Int) (ts : List ByteArray) (n k i : Nat) : Value := if i < k then seF a b ts (n + 1) i else seF a b ts n i

/-- What the counting holds. -/
structure PsSt (w wr : World) (a b : Int) (g M : Nat) (f : Nat → Value) : Prop where
  box : Cells wr w.heap.size 2 (b2F a b)
  sn : Cells wr g M f
  bel : Below w.heap.size w wr

theorem PsSt.call {w wr w2 : World} {a b : Int} {g M : Nat} {f : Nat → Value} (h : PsSt w wr a b g M f) (hb : Below wr.heap.size wr w2) : PsSt w w2 a b g M f := ⟨h.box.call hb, h.sn.call hb, bel_call h.bel hb⟩

theorem PsSt.congr {w wr : World} {a b : Int} {g M : Nat} {f f' : Nat → Value} (h : PsSt w wr a b g M f) (e : ∀ i, i < M → f i = f' i) : PsSt w wr a b g M f' := ⟨h.box, h.sn.congr e, h.bel⟩

set_option maxRecDepth 100000 in
set_option maxHeartbeats 4000000 in
theorem deParts_any (an : Nat) (b : Int) (A : Option Addr) (n c : Nat) (ts : List ByteArray) (w : World) (hn : n ≤ maxLen) (hA : ArgS w A n ts) (hg : goodB an b = true) (hM : cnN an b ≤ 1000) :
    Calls Try.prog 85 #[.agg #[.int .i64 (an : Int), .int .i64 b], .slice A n c] w fun e w' => e = .returned (.int .i64 ((paN an b ts : Nat) : Int)) ∧ Below w.heap.size w w' := by
  have HA := Lib.hid hA
  have HN := Lib.hid hn
  have HG := Lib.hid hg
  have HCD : Hid (∀ k : Nat, textOf (digL b (k : Int) an) = cdN an b k) := Lib.hid (fun k => by unfold cdN; rw [Int.toNat_natCast])
  have HPW : Hid (pw b an = ((cnN an b : Nat) : Int)) := Lib.hid (by rw [cnN_cast hg, Int.toNat_natCast])
  have HPN : Hid (paN an b ts = paU an b ts (cnN an b)) := Lib.hid rfl
  have C0 := Lib.hid (box_new (W := w) (a := an) (b := b) (t := 28) rfl)
  have X0 := Lib.hid (show Below w.heap.size w (w.alloc (.cells #[.int .i64 (an : Int), .int .i64 b] 28)) from (Below.refl _ _).alloc (Nat.le_refl _) _)
  have hmk := make_boolsM (cnN an b) hM
  generalize hMe : cnN an b = M at hM hmk HPW HPN
  have HME := Lib.hid hMe
  clear hMe hA hn hg
  go_enter Try.func85, Try.ntmps85
  go_wp2_with (go_at_call 78; refine (whCount_any _ _ _ HG.out).mono ?_; rw [HPW.out]; rintro e w1 ⟨rfl, hb1⟩; have X1 := Lib.hid (bel_call X0.out hb1); have C1 := Lib.hid (C0.out.call hb1); clear hb1)
  have ST0 := Lib.hid (show PsSt w (w1.alloc (.cells (madeCells #[.bool false] M) 4)) an b w1.heap.size M (seF an b ts 0) from ⟨C1.out.alloc _, Cells.made w1 (.bool false) M 4, X1.out.alloc X1.out.size _⟩)
  have hg1 : w.heap.size < w1.heap.size := C1.out.lt
  have hwM : M ≤ 1000 := hM
  obtain ⟨g, hge⟩ : ∃ g, w1.heap.size = g := ⟨_, rfl⟩
  have HPU0 : Hid (paU an b ts 0 = 0) := Lib.hid rfl
  rw [hge] at ST0 hg1 ⊢
  clear hge hmk C0 X0 C1 X1
  go_loopw [6, 18] (fun p i wr => ∃ k : Nat, k ≤ M ∧ i = .int .i64 k ∧ p = .int .i64 ((paU an b ts k : Nat) : Int) ∧ PsSt w wr an b g M (seF an b ts k)) (fun _ i _ => M - (intOf i).toNat)
  case atStart => exact ⟨0, by omega, rfl, by rw [HPU0.out]; rfl, ST0.out⟩
  case round =>
    clear ST0
    obtain ⟨k, hk, rfl, rfl, hS⟩ := hrel
    have HS := Lib.hid hS
    clear hS
    have hpl := paU_le (an : Int) b ts k
    by_cases hlt : k < M
    · have l0 : wr.cell? ⟨w.heap.size, 0, none⟩ = some (.int .i64 (an : Int)) := HS.out.box.cell (show 0 < 2 by omega)
      have l1 : wr.cell? ⟨w.heap.size, 1, none⟩ = some (.int .i64 b) := HS.out.box.cell (show 1 < 2 by omega)
      have HTX := Lib.hid (HCD.out k)
      have HX := Lib.hid (cd_ask (a := (an : Int)) (b := b) (i := k) HG.out)
      have HUP := Lib.hid (paU_succ (an : Int) b ts k)
      have HFR : Hid (frB an b ts k = (alB an b ts (cdN an b k) && !seB an b ts k k)) := Lib.hid rfl
      have HSTY := Lib.hid (fun h => seB_stay (a := (an : Int)) (b := b) (ts := ts) HG.out (n := k) h)
      have HSUC := Lib.hid (fun i => seB_succ (an : Int) b ts k i)
      have HZ := Lib.hid (show wr.cell? ⟨g, k, none⟩ = some (.bool (seB an b ts k k)) from HS.out.sn.cell hlt)
      generalize cdN an b k = x at HTX HX HFR HSTY HSUC
      obtain ⟨u, hu⟩ : ∃ u, seB an b ts k k = u := ⟨_, rfl⟩
      rw [hu] at HFR HSTY HZ
      obtain ⟨d, hd⟩ : ∃ d, inS ts x = d := ⟨_, rfl⟩
      have HD := Lib.hid hd
      have HAL : Hid (alB an b ts x = !d) := Lib.hid (by rw [alB_of HX.out, hd])
      clear hu hd
      generalize paU an b ts k = q at hpl HUP ⊢
      rcases u with _ | _
      · rcases d with _ | _
        · have HAL2 : Hid (alB an b ts x = true) := Lib.hid HAL.out
          have HF1 : Hid (paU an b ts (k + 1) = q + 1) := Lib.hid (by rw [HUP.out, HFR.out, HAL2.out]; rfl)
          have HNW : Hid (∀ i, seB an b ts (k + 1) i = (seB an b ts k i || decide (0 ≤ lvZ an b ts x (cdN an b i)))) := Lib.hid (fun i => by rw [HSUC.out, HAL2.out, Bool.true_and]; rfl)
          clear HUP HFR HSTY HSUC HAL
          go_wp2_with (first
            | (go_at_call 79; refine (whOf_any _ _ _ _ HG.out (by omega) (by omega)).mono ?_; rw [HTX.out]; rintro e w3 ⟨rfl, hb3⟩; have S3 := Lib.hid (HS.out.call hb3); have z3 := (hb3.cell (p := ⟨g, k, none⟩) HS.out.sn.lt).trans HZ.out; have k0 : w3.cell? ⟨w.heap.size, 0, none⟩ = some (.int .i64 (an : Int)) := S3.out.box.cell (show 0 < 2 by omega); have k1 : w3.cell? ⟨w.heap.size, 1, none⟩ = some (.int .i64 b) := S3.out.box.cell (show 1 < 2 by omega); clear hb3)
            | (go_at_call 80; refine (l1HasS_any _ _ _ ts _ _ HN.out (HA.out.below S3.out.bel)).mono ?_; rw [HD.out]; rintro e w4 ⟨rfl, rfl⟩))
          refine (deFar_any _ _ _ _ _ ts _ _ HN.out (HA.out.below S3.out.bel) HAL2.out (by rw [HME.out]; exact hM)).mono ?_
          rintro e w5 ⟨gf, gw, rfl, hgf, hgw, hF, hW, hb5⟩
          rw [HME.out] at hF ⊢
          have S5 := Lib.hid (S3.out.call hb5)
          have HF := Lib.hid hF
          have hgg : g < gf := Nat.lt_of_lt_of_le S3.out.sn.lt hgf
          have hbx : w.heap.size < g := hg1
          clear hb5 hF hW hgf hgw z3 k0 k1 l0 l1 HZ HS S3
          go_wp2_with fail
          go_loopw [44] (fun i wr => ∃ m : Nat, m ≤ M ∧ i = .int .i64 m ∧ PsSt w wr an b g M (seM an b ts k m) ∧ Cells wr gf M (farF an b (lvZ an b ts x))) (fun i _ => M - (intOf i).toNat)
          case atStart => exact ⟨0, by omega, rfl, S5.out.congr (fun i _ => by unfold seM; rw [if_neg (by omega)]), HF.out⟩
          case round =>
            clear S5 HF
            obtain ⟨m, hm, rfl, hS, hF⟩ := hrel
            have HS := Lib.hid hS
            have HF := Lib.hid hF
            clear hS hF
            by_cases hmt : m < M
            · have z : wr.cell? ⟨gf, m, none⟩ = some (.int .i64 (lvZ an b ts x (cdN an b m))) := HF.out.cell hmt
              have z2 : wr.cell? ⟨g, m, none⟩ = some (.bool (seB an b ts k m)) := by
                rw [HS.out.sn.cell hmt]; unfold seM; rw [if_neg (by omega)]; rfl
              have z3 := HS.out.sn.frozen hmt
              have hbd := lv_bd (a := (an : Int)) (b := b) (ts := ts) (s := x) (cd_ask (i := m) HG.out)
              rw [HME.out] at hbd
              have HNE := Lib.hid (HNW.out m)
              have SN : ∀ v, v = .bool (seB an b ts (k + 1) m) → PsSt w (wr.setCell ⟨g, m, none⟩ v) an b g M (seM an b ts k (m + 1)) ∧ Cells (wr.setCell ⟨g, m, none⟩ v) gf M (farF an b (lvZ an b ts x)) := fun v hv => by
                refine ⟨⟨HS.out.box.far (show g ≠ w.heap.size by omega) _, (HS.out.sn.set_ hmt v).congr fun j hj => ?_, HS.out.bel.setCell (by show w.heap.size ≤ g; omega) _⟩, HF.out.far (show g ≠ gf by omega) _⟩
                unfold seM
                by_cases e : j = m
                · rw [if_pos e, if_pos (by omega), hv, e]; rfl
                · rw [if_neg e]
                  by_cases e2 : j < m
                  · rw [if_pos e2, if_pos (by omega)]
                  · rw [if_neg e2, if_neg (by omega)]
              have HSN := Lib.hid SN
              clear SN
              generalize lvZ an b ts x (cdN an b m) = y at z hbd HNE
              generalize seB an b ts k m = v at z2 HNE
              rcases v with _ | _
              · go_wp2_with fail
                go_roundw
                case rel => exact ⟨m + 1, by omega, by go_num, (HSN.out _ (by rw [HNE.out]; rfl)).1, (HSN.out _ (by rw [HNE.out]; rfl)).2⟩
                case measure => simp [intOf]; omega
              · go_wp2_with fail
                go_roundw
                case rel => exact ⟨m + 1, by omega, by go_num, (HSN.out _ (by rw [HNE.out]; rfl)).1, (HSN.out _ (by rw [HNE.out]; rfl)).2⟩
                case measure => simp [intOf]; omega
            · obtain rfl : m = M := by omega
              have SE := Lib.hid (HS.out.congr (f' := seF an b ts (k + 1)) (fun i hi => by unfold seM; rw [if_pos hi]))
              go_wp2_with fail
              go_roundw
              case rel => exact ⟨k + 1, by omega, by go_num, by rw [HF1.out]; go_num, SE.out⟩
              case measure => simp [intOf]; omega
        · have HF1 : Hid (paU an b ts (k + 1) = q) := Lib.hid (by rw [HUP.out, HFR.out, HAL.out]; rfl)
          have HSE := Lib.hid (HSTY.out (.inr HAL.out))
          go_wp2_with (first
            | (go_at_call 79; refine (whOf_any _ _ _ _ HG.out (by omega) (by omega)).mono ?_; rw [HTX.out]; rintro e w3 ⟨rfl, hb3⟩; have S3 := Lib.hid (HS.out.call hb3); have z3 := (hb3.cell (p := ⟨g, k, none⟩) HS.out.sn.lt).trans HZ.out; clear hb3)
            | (go_at_call 80; refine (l1HasS_any _ _ _ ts _ _ HN.out (HA.out.below S3.out.bel)).mono ?_; rw [HD.out]; rintro e w4 ⟨rfl, rfl⟩))
          go_roundw
          case rel => exact ⟨k + 1, by omega, by go_num, by rw [HF1.out], S3.out.congr (fun i _ => by unfold seF; rw [HSE.out])⟩
          case measure => simp [intOf]; omega
      · have HF1 : Hid (paU an b ts (k + 1) = q) := Lib.hid (by rw [HUP.out, HFR.out]; simp)
        have HSE := Lib.hid (HSTY.out (.inl rfl))
        go_wp2_with (go_at_call 79; refine (whOf_any _ _ _ _ HG.out (by omega) (by omega)).mono ?_; rw [HTX.out]; rintro e w3 ⟨rfl, hb3⟩; have S3 := Lib.hid (HS.out.call hb3); have z3 := (hb3.cell (p := ⟨g, k, none⟩) HS.out.sn.lt).trans HZ.out; clear hb3)
        go_roundw
        case rel => exact ⟨k + 1, by omega, by go_num, by rw [HF1.out], S3.out.congr (fun i _ => by unfold seF; rw [HSE.out])⟩
        case measure => simp [intOf]; omega
    · obtain rfl : k = M := by omega
      go_wp2_with fail
      go_ret
      exact ⟨ret_int (by rw [HPN.out]), HS.out.bel⟩

set_option maxHeartbeats 2000000 in
theorem specParts_any (a b : Int) (A : Option Addr) (n c : Nat) (ts : List ByteArray) (w : World) (hn : n ≤ maxLen) (hA : ArgS w A n ts) :
    Calls Try.prog 44 #[.agg #[.int .i64 a, .int .i64 b], .slice A n c] w fun e w' => e = .returned (.tuple #[.int .i64 (paA a b ts), .bool (areZ a b ts)]) ∧ Below w.heap.size w w' := by
  have HA := Lib.hid hA
  have HN := Lib.hid hn
  clear hA hn
  by_cases h1 : searchB a b = true
  · have H1 := Lib.hid h1
    clear h1
    obtain ⟨an, hae⟩ : ∃ an : Nat, a = an := ⟨a.toNat, by have := good_yes (searchB_good H1.out).1; omega⟩
    subst hae
    by_cases h2 : deadB an b ts = true
    · have H2 := Lib.hid h2
      have HZ : Hid (areZ an b ts = true) := Lib.hid (by unfold areZ; rw [H1.out, h2]; rfl)
      have HP := Lib.hid (areZ_parts HZ.out)
      have HV : Hid (paA an b ts = ((paN an b ts : Nat) : Int)) := Lib.hid (by unfold paA; rw [HZ.out, if_pos rfl])
      clear h2
      go_enter Try.func44, Try.ntmps44
      go_wp2_with (first
        | (go_at_call 59; refine (deSmall_any _ _ _).mono ?_; rw [H1.out]; rintro e w1 ⟨rfl, hb1⟩; obtain ⟨C1, X1⟩ := box_below hb1; have HX1 := Lib.hid X1; have HC1 := Lib.hid C1; clear hb1 C1 X1; have l0 : w1.cell? ⟨w.heap.size, 0, none⟩ = some (.int .i64 (an : Int)) := HC1.out.cell (show 0 < 2 by omega); have l1 : w1.cell? ⟨w.heap.size, 1, none⟩ = some (.int .i64 b) := HC1.out.cell (show 1 < 2 by omega))
        | (go_at_call 60; refine (deList_any _ _ _ _ _ ts _ HN.out (searchB_good H1.out).1 (HA.out.below HX1.out)).mono ?_; rw [H2.out]; rintro e w2 ⟨rfl, hb2⟩; have HC2 := Lib.hid (HC1.out.call hb2); have HX2 := Lib.hid (bel_call HX1.out hb2); have m0 : w2.cell? ⟨w.heap.size, 0, none⟩ = some (.int .i64 (an : Int)) := HC2.out.cell (show 0 < 2 by omega); have m1 : w2.cell? ⟨w.heap.size, 1, none⟩ = some (.int .i64 b) := HC2.out.cell (show 1 < 2 by omega); clear hb2)
        | (go_at_call 85; refine (deParts_any _ _ _ _ _ ts _ HN.out (HA.out.below HX2.out) HP.out.2.2.1 HP.out.2.2.2).mono ?_; rintro e w3 ⟨rfl, hb3⟩; have HX3 := Lib.hid (bel_call HX2.out hb3)))
      go_ret2
      exact ⟨by rw [HV.out, HZ.out]; first | done | rfl, HX3.out⟩
    · have H2 := Lib.hid (Bool.eq_false_iff.2 h2)
      have HZ : Hid (areZ an b ts = false) := Lib.hid (by unfold areZ; rw [H1.out, H2.out]; rfl)
      have HV : Hid (paA an b ts = 0) := Lib.hid (by unfold paA; rw [HZ.out]; rfl)
      clear h2
      go_enter Try.func44, Try.ntmps44
      go_wp2_with (first
        | (go_at_call 59; refine (deSmall_any _ _ _).mono ?_; rw [H1.out]; rintro e w1 ⟨rfl, hb1⟩; obtain ⟨C1, X1⟩ := box_below hb1; have HX1 := Lib.hid X1; have HC1 := Lib.hid C1; clear hb1 C1 X1; have l0 : w1.cell? ⟨w.heap.size, 0, none⟩ = some (.int .i64 (an : Int)) := HC1.out.cell (show 0 < 2 by omega); have l1 : w1.cell? ⟨w.heap.size, 1, none⟩ = some (.int .i64 b) := HC1.out.cell (show 1 < 2 by omega))
        | (go_at_call 60; refine (deList_any _ _ _ _ _ ts _ HN.out (searchB_good H1.out).1 (HA.out.below HX1.out)).mono ?_; rw [H2.out]; rintro e w2 ⟨rfl, hb2⟩; have HX2 := Lib.hid (bel_call HX1.out hb2); clear hb2))
      go_ret2
      exact ⟨by rw [HV.out, HZ.out]; first | done | rfl, HX2.out⟩
  · have H1 := Lib.hid (Bool.eq_false_iff.2 h1)
    have HZ : Hid (areZ a b ts = false) := Lib.hid (by unfold areZ; rw [H1.out]; rfl)
    have HV : Hid (paA a b ts = 0) := Lib.hid (by unfold paA; rw [HZ.out]; rfl)
    clear h1
    go_enter Try.func44, Try.ntmps44
    go_wp2_with (go_at_call 59; refine (deSmall_any _ _ _).mono ?_; rw [H1.out]; rintro e w1 ⟨rfl, hb1⟩; obtain ⟨C1, X1⟩ := box_below hb1; have HX1 := Lib.hid X1; have HC1 := Lib.hid C1; clear hb1 C1 X1; have l0 : w1.cell? ⟨w.heap.size, 0, none⟩ = some (.int .i64 a) := HC1.out.cell (show 0 < 2 by omega); have l1 : w1.cell? ⟨w.heap.size, 1, none⟩ = some (.int .i64 b) := HC1.out.cell (show 1 < 2 by omega))
    go_ret2
    exact ⟨by rw [HV.out, HZ.out]; first | done | rfl, HX1.out⟩

end Go.Proofs.Ytilnjlcljjpnmaa
