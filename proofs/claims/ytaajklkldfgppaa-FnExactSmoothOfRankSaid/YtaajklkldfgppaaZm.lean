/- The smooth key of a rank, by the model. For ranks of 64 bits. -/
import Derived.Test.YtaajklkldfgppaaZl
namespace Go.Proofs.Ytaajklkldfgppaa
set_option maxRecDepth 100000
open Go.ChangeShapes Go.WideShapes Go.ChangeAt Go.RowKit Go.Joins

theorem dg_textM {ds : List Int} (h : Digits ds) : dg (textOf ds) = ds := by
  unfold dg textOf
  rw [strOfNums_data, List.map_map, List.map_map]
  refine (List.map_congr_left (fun d hd => ?_)).trans (List.map_id ds)
  obtain ⟨j, hj, rfl⟩ := List.getElem_of_mem hd
  have := h j hj
  simp only [List.getD, List.getElem?_eq_getElem hj, Option.getD_some] at this
  show ((UInt8.ofNat (48 + ds[j]).toNat).toNat : Int) - 48 = ds[j]
  rw [UInt8.toNat_ofNat']
  omega

theorem textOf_end (xs : List Int) (x : Int) : textOf (xs ++ [x]) = textOf xs ++ strOfNums [48 + x] := by
  have h := textOf_snoc (xs ++ [x]) (k := xs.length) (by simp)
  rw [List.take_left, List.take_of_length_le (by simp)] at h
  rw [← h]
  simp [List.getD]

theorem toS_up (f : Nat → Nat) {a b : Nat} (h : a ≤ b) : toS f 0 a ≤ toS f 0 b := by
  induction b with
  | zero => obtain rfl : a = 0 := by omega
            exact Nat.le_refl _
  | succ b ih =>
    by_cases e : a = b + 1
    · rw [e]; exact Nat.le_refl _
    · have := ih (by omega)
      rw [toS]; omega

def strSz : Value → Nat
  | .string s => s.size
  | _ => 0

set_option maxHeartbeats 8000000 in
theorem specSmooth_yes (dn n r : Nat) (m : Int) (w : World) (h : soB (dn : Int) (n : Int) m (r : Int) = true) :
    Calls Try.prog 22 #[.int .i64 (dn : Int), .int .i64 (n : Int), .int .i64 m, .int .i64 (r : Int)] w fun e w' => e = .returned (.tuple #[.string (textOf (skI m dn n r n)), .bool true]) ∧ Below w.heap.size w w' := by
  obtain ⟨hcm, -, -⟩ := soB_yes h
  obtain ⟨-, hr, hz⟩ := soS_yes h
  have HCM := Lib.hid hcm
  have HR := Lib.hid hr
  obtain ⟨d1, d9, n1, n7, m0, m9⟩ := cmB_yes hcm
  have hm09 : 0 ≤ m ∧ m ≤ 9 := ⟨m0, m9⟩
  have hr9 : r ≤ 43046721 := by
    have h1 := toS_le (lo := 0) (f := gwN m dn (n - 1)) (fun j => Nat.le_trans (gwN_le (show dn ≤ 9 by omega) _ j) (pow9_le' (show n - 1 ≤ 7 by omega))) dn
    have h2 : dn * 4782969 ≤ 9 * 4782969 := Nat.mul_le_mul_right _ (by omega)
    omega
  clear h hcm hr hz
  go_enter Try.func22, Try.ntmps22
  go_wp2_with (go_at_call 45; refine (keSize_any _ _ _ _).mono ?_; rw [HCM.out]; rintro e wq ⟨rfl, hwq⟩; replace hwq := hwq.symm; subst hwq)
  go_loopw [3, 10] (fun rv sv wr => ∃ k : Nat, k ≤ n ∧ sv = .string (textOf (skI m dn n r k)) ∧ rv = .int .i64 (skR m dn n r k : Int) ∧ Below w.heap.size w wr) (fun _ sv _ => n - strSz sv)
  case atStart => exact ⟨0, by omega, rfl, rfl, Below.refl _ _⟩
  case round =>
    obtain ⟨k, hk, rfl, rfl, hB⟩ := hrel
    have HBk := Lib.hid hB
    clear hB
    have HIL := Lib.hid (skI_length m dn n r k)
    have HDI : Hid (Digits (skI m dn n r k)) := Lib.hid (sk_digits (by omega) HR.out k hk)
    have hsS : (textOf (skI m dn n r k)).size = k := by rw [textOf_size, HIL.out]
    by_cases hlt : k < n
    · have hsk := sk_all HR.out k hk
      have HT0 := Lib.hid (hsk.2.2.1 hlt)
      have HXD := Lib.hid hsk.1
      have hR9 : skR m dn n r k ≤ 43046721 := Nat.le_trans hsk.2.2.2 hr9
      have HIS := Lib.hid (skI_succ m dn n r k)
      have HRS := Lib.hid (skR_succ m dn n r k)
      have HGL : Hid (∀ t, gwN m dn (n - k - 1) t ≤ 4782969) := Lib.hid (fun t => Nat.le_trans (gwN_le (by omega) _ _) (pow9_le' (by omega)))
      have HPK : Hid (pkN (wtN m dn n k (skX m dn n r k)) dn 0 (skR m dn n r k) = skP m dn n r k) := Lib.hid rfl
      have HF : Hid (∀ t, wtN m dn n k (skX m dn n r k) t = if folB m (skX m dn n r k) k t then gwN m dn (n - k - 1) t else 0) := Lib.hid (fun t => by unfold wtN; rw [show n - 1 - k = n - k - 1 by omega])
      have HBY : Hid (∀ (q : Nat) (hq : q < (textOf (skI m dn n r k)).size), ((textOf (skI m dn n r k))[q].toNat : Int) = 48 + (skX m dn n r k q : Int)) := Lib.hid (fun q hq => by
        have h1 := dg_at hq
        rw [dg_textM HDI.out, skI_at (by omega)] at h1
        omega)
      have HTE : Hid (∀ d : Int, (d = ((skP m dn n r k).1 : Int)) → textOf (skI m dn n r (k + 1)) = textOf (skI m dn n r k) ++ strOfNums [48 + d]) := Lib.hid (fun d e => by rw [HIS.out, textOf_end, e])
      clear hsk HIS
      generalize wtN m dn n k (skX m dn n r k) = f at HT0 HPK HF
      generalize skP m dn n r k = pk at HPK HTE HRS
      generalize skR m dn n r k = R0 at HT0 hR9 HPK ⊢
      generalize textOf (skI m dn n r k) = S at hsS HBY HTE ⊢
      have hsub : IntKind.i64.wrap ((n : Int) - (k : Int)) = ((n - k : Nat) : Int) := by rw [IntKind.wrap_i64]; omega
      have hkn : (k : Int) < (n : Int) := by omega
      go_wp2_with (first
        | (go_at_call 46; refine (keSmooth_any dn (n - k) m _ ⟨m0, m9⟩ (by omega) (by omega) (by omega)).mono ?_; rintro e w5 ⟨g, rfl, hg, hC, hb5⟩
           have HC := Lib.hid hC
           have HB5 := Lib.hid (bel_call HBk.out hb5)
           clear hC hb5))
      go_loopw [3, 10, 11, 35] (fun rv sv fv iv wq => ∃ t rt : Nat, t ≤ dn ∧ iv = .int .i64 (t : Int) ∧ sv = .string S ∧ fv = .bool false ∧ rv = .int .i64 (rt : Int) ∧ pkN f (dn - t) t rt = pk ∧ rt < toS f t (dn - t) ∧ rt ≤ R0 ∧ Cells wq g dn (fun j => .int .i64 (gwN m dn (n - k - 1) j : Int)) ∧ Below w.heap.size w wq) (fun _ _ _ iv _ => dn - (intOf iv).toNat)
      case atStart => exact ⟨0, R0, by omega, rfl, rfl, rfl, rfl, HPK.out, HT0.out, Nat.le_refl _, HC.out, HB5.out⟩
      case round =>
        obtain ⟨t, rt, ht, rfl, rfl, rfl, rfl, hpk, hrt, hrR, hCt, hBt⟩ := hrel
        have HPK1 := Lib.hid hpk
        have HRT := Lib.hid hrt
        have HCt := Lib.hid hCt
        have HBt := Lib.hid hBt
        clear hpk hCt hBt HBk HC HB5
        by_cases htd : t < dn
        · have o1 := HCt.out.cell htd
          have hgw := HGL.out t
          have hft := HF.out t
          obtain ⟨gt, hgt⟩ : ∃ z, gwN m dn (n - k - 1) t = z := ⟨_, rfl⟩
          have HGT := Lib.hid hgt
          rw [hgt] at o1 hgw hft
          obtain ⟨ft, hfe⟩ : ∃ z, f t = z := ⟨_, rfl⟩
          have HFE := Lib.hid hfe
          rw [hfe] at hft
          have HPE : Hid (rt < ft → pk = (t, rt)) := Lib.hid (fun hl => by rw [← HPK1.out, show dn - t = (dn - t - 1) + 1 by omega, pkN, if_pos (by rw [HFE.out]; exact hl)])
          have HTN : Hid (rt < ft → textOf (skI m dn n r (k + 1)) = S ++ strOfNums [48 + (t : Int)]) := Lib.hid (fun hl => HTE.out _ (by rw [HPE.out hl]))
          have HRN : Hid (rt < ft → skR m dn n r (k + 1) = rt) := Lib.hid (fun hl => by rw [HRS.out, HPE.out hl])
          have HPN : Hid (¬ rt < ft → pkN f (dn - (t + 1)) (t + 1) (rt - ft) = pk ∧ rt - ft < toS f (t + 1) (dn - (t + 1))) := Lib.hid (fun hl => by
            have h1 := HPK1.out
            have h2 := HRT.out
            rw [show dn - t = (dn - (t + 1)) + 1 by omega, pkN, if_neg (by rw [HFE.out]; exact hl), HFE.out] at h1
            rw [show dn - t = (dn - (t + 1)) + 1 by omega, toS_front, HFE.out] at h2
            exact ⟨h1, by omega⟩)
          have hadd : ∀ W : World, (Op.stringOp .add S (strOfNums [48 + (t : Int)])).run Try.prog W = .ok (.string (S ++ strOfNums [48 + (t : Int)])) W := fun W => run_string_add_sum _ _ _ (by rw [strOne_size]; omega)
          clear hfe hgt hrt
          have hwr : IntKind.i64.wrap ((rt : Int) - (gt : Int)) = (rt : Int) - (gt : Int) := by rw [IntKind.wrap_i64]; omega
          by_cases hk0 : k = 0
          · have HF0 : ft = gt := by rw [hft, if_pos (by unfold folB; rw [decide_eq_true hk0]; rfl)]
            subst HF0
            have hk0i : ¬ (0 : Int) < (k : Int) := by omega
            clear hft
            have HAB : Hid ((0 : Int) = 0) := Lib.hid rfl
            by_cases hlf : rt < ft
            · have hlfi : (rt : Int) < (ft : Int) := by omega
              have HTN := Lib.hid (HTN.out hlf)
              have HRN := Lib.hid (HRN.out hlf)
              go_wp2_with (first
                | (go_at_call 48; refine (l1Num_any (t : Int) _ (by omega) (by omega)).mono ?_; rintro e w8 ⟨rfl, hb8⟩
                   have HB8 := Lib.hid (bel_call HBt.out hb8)
                   clear hb8)
                | (go_at_call 47; refine (l1Abs_any _ _ (by omega)).mono ?_; rw [HAB.out]; rintro e wq ⟨rfl, hwq⟩; replace hwq := hwq.symm; subst hwq))
              go_roundw
              case rel => exact ⟨k + 1, by omega, by rw [HTN.out], by rw [HRN.out], HB8.out⟩
              case measure => simp [strSz, ByteArray.size_append, strOne_size, hsS]; omega
            · have hlfi : ¬ (rt : Int) < (ft : Int) := by omega
              have HPN := Lib.hid (HPN.out hlf)
              go_wp2_with (go_at_call 47; refine (l1Abs_any _ _ (by omega)).mono ?_; rw [HAB.out]; rintro e wq ⟨rfl, hwq⟩; replace hwq := hwq.symm; subst hwq)
              go_roundw
              case rel => exact ⟨t + 1, rt - ft, by omega, by go_num, rfl, rfl, by congr 1; omega, HPN.out.1, HPN.out.2, by omega, HCt.out, HBt.out⟩
              case measure => simp [intOf]; omega
          · obtain ⟨q, hq⟩ : ∃ q, q + 1 = k := ⟨k - 1, by omega⟩
            have hk0i : (0 : Int) < (k : Int) := by omega
            have hq1 : q < S.size := by omega
            have hqk : (k : Int) - 1 = (q : Int) := by omega
            have hkw : IntKind.i64.wrap (q : Int) = (q : Int) := by rw [IntKind.wrap_i64]; omega
            have hqw : IntKind.i64.wrap ((k : Int) - 1) = (q : Int) := by rw [IntKind.wrap_i64]; omega
            have hby := HBY.out q hq1
            have hxd := HXD.out q (by omega)
            have hF1 : folB m (skX m dn n r k) k t = closeB m t (skX m dn n r k q) := by unfold folB; rw [decide_eq_false hk0, Bool.false_or, show k - 1 = q by omega]
            rw [hF1] at hft
            obtain ⟨y, hy⟩ : ∃ y, skX m dn n r k q = y := ⟨_, rfl⟩
            rw [hy] at hby hxd hft
            clear hF1 hy
            have hy8 : IntKind.u8.wrap (((S[q]'hq1).toNat : Int) - 48) = (y : Int) := by rw [IntKind.wrap_u8]; omega
            have hyw : IntKind.i64.wrap (y : Int) = (y : Int) := by rw [IntKind.wrap_i64]; omega
            have hdw : IntKind.i64.wrap ((t : Int) - (y : Int)) = (t : Int) - (y : Int) := by rw [IntKind.wrap_i64]; omega
            obtain ⟨a, ha⟩ : ∃ a : Int, max ((t : Int) - (y : Int)) (-((t : Int) - (y : Int))) = a := ⟨_, rfl⟩
            have HAB := Lib.hid ha
            by_cases hcl : a ≤ m
            · have HCL : closeB m t y = true := decide_eq_true ⟨by omega, by omega⟩
              have HF0 : ft = gt := by rw [hft, HCL]; rfl
              subst HF0
              clear hft HCL ha hk0 hby
              have hcl2 : ¬ m < a := by omega
              by_cases hlf : rt < ft
              · have hlfi : (rt : Int) < (ft : Int) := by omega
                have HTN := Lib.hid (HTN.out hlf)
                have HRN := Lib.hid (HRN.out hlf)
                go_wp2_with (first
                  | (go_at_call 48; refine (l1Num_any (t : Int) _ (by omega) (by omega)).mono ?_; rintro e w8 ⟨rfl, hb8⟩
                     have HB8 := Lib.hid (bel_call HBt.out hb8)
                     clear hb8)
                  | (go_at_call 47; refine (l1Abs_any _ _ (by omega)).mono ?_; rw [HAB.out]; rintro e wq ⟨rfl, hwq⟩; replace hwq := hwq.symm; subst hwq))
                go_roundw
                case rel => exact ⟨k + 1, by omega, by rw [HTN.out], by rw [HRN.out], HB8.out⟩
                case measure => simp [strSz, ByteArray.size_append, strOne_size, hsS]; omega
              · have hlfi : ¬ (rt : Int) < (ft : Int) := by omega
                have HPN := Lib.hid (HPN.out hlf)
                go_wp2_with (go_at_call 47; refine (l1Abs_any _ _ (by omega)).mono ?_; rw [HAB.out]; rintro e wq ⟨rfl, hwq⟩; replace hwq := hwq.symm; subst hwq)
                go_roundw
                case rel => exact ⟨t + 1, rt - ft, by omega, by go_num, rfl, rfl, by congr 1; omega, HPN.out.1, HPN.out.2, by omega, HCt.out, HBt.out⟩
                case measure => simp [intOf]; omega
            · have HCL : closeB m t y = false := decide_eq_false (fun h => by omega)
              obtain rfl : ft = 0 := by rw [hft, HCL]; rfl
              have HPN := Lib.hid (HPN.out (Nat.not_lt_zero _))
              clear hft HCL ha hk0 hby
              have hcl2 : m < a := by omega
              go_wp2_with (go_at_call 47; refine (l1Abs_any _ _ (by omega)).mono ?_; rw [HAB.out]; rintro e wq ⟨rfl, hwq⟩; replace hwq := hwq.symm; subst hwq)
              go_roundw
              case rel => exact ⟨t + 1, rt - 0, by omega, by go_num, rfl, rfl, rfl, HPN.out.1, HPN.out.2, by omega, HCt.out, HBt.out⟩
              case measure => simp [intOf]; omega
        · exfalso
          rw [show dn - t = 0 by omega] at hrt
          exact Nat.not_lt_zero _ hrt
    · obtain rfl : k = n := by omega
      go_wp2_with fail
      go_ret2
      exact ⟨rfl, HBk.out⟩

set_option maxHeartbeats 2000000 in
theorem specSmooth_no (d n m r : Int) (w : World) (hb : r ≤ 9223372036854775807) (h : soB d n m r = false) :
    Calls Try.prog 22 #[.int .i64 d, .int .i64 n, .int .i64 m, .int .i64 r] w fun e w' => e = .returned (.tuple #[.string (soS d n m r), .bool (soB d n m r)]) ∧ Below w.heap.size w w' := by
  have HV : Hid (soS d n m r = ⟨#[]⟩ ∧ soB d n m r = false) := Lib.hid ⟨by unfold soS; rw [h]; rfl, h⟩
  unfold soB at h
  obtain ⟨x, hx⟩ : ∃ x, cmB d n m = x := ⟨_, rfl⟩
  have HX := Lib.hid hx
  rcases x with _ | _
  · clear h hx
    go_enter Try.func22, Try.ntmps22
    go_wp2_with (go_at_call 45; refine (keSize_any _ _ _ _).mono ?_; rw [HX.out]; rintro e wq ⟨rfl, hwq⟩; replace hwq := hwq.symm; subst hwq)
    go_ret2
    rw [HV.out.1, HV.out.2]
    exact ⟨rfl, Below.refl _ _⟩
  by_cases h0 : r < 0
  · clear h hx
    go_enter Try.func22, Try.ntmps22
    go_wp2_with (go_at_call 45; refine (keSize_any _ _ _ _).mono ?_; rw [HX.out]; rintro e wq ⟨rfl, hwq⟩; replace hwq := hwq.symm; subst hwq)
    go_ret2
    rw [HV.out.1, HV.out.2]
    exact ⟨rfl, Below.refl _ _⟩
  obtain ⟨d1, d9, n1, n7, m0, m9⟩ := cmB_yes hx
  obtain ⟨dn, rfl⟩ : ∃ dn : Nat, d = dn := ⟨d.toNat, by omega⟩
  obtain ⟨nn, rfl⟩ : ∃ nn : Nat, n = nn := ⟨n.toNat, by omega⟩
  have hz : ¬ r < (toS (gwN m dn (nn - 1)) 0 dn : Nat) := by
    rw [hx, decide_eq_true (by omega : 0 ≤ r)] at h
    have h1 := of_decide_eq_false (show decide (r < cmZ (dn : Int) (nn : Int) m) = false by simpa using h)
    unfold cmZ at h1
    rw [hx, if_pos rfl, Int.toNat_natCast, Int.toNat_natCast] at h1
    exact h1
  have HZ := Lib.hid hz
  clear h hx hz
  have HGL : Hid (∀ t, gwN m dn (nn - 1) t ≤ 4782969) := Lib.hid (fun t => Nat.le_trans (gwN_le (by omega) _ _) (pow9_le' (by omega)))
  go_enter Try.func22, Try.ntmps22
  go_wp2_with (go_at_call 45; refine (keSize_any _ _ _ _).mono ?_; rw [HX.out]; rintro e wq ⟨rfl, hwq⟩; replace hwq := hwq.symm; subst hwq)
  go_loopw [3, 10] (fun rv sv wr => sv = .string ⟨#[]⟩ ∧ rv = .int .i64 r ∧ Below w.heap.size w wr) (fun _ _ _ => 0)
  case atStart => exact ⟨rfl, rfl, Below.refl _ _⟩
  case round =>
    obtain ⟨rfl, rfl, hB⟩ := hrel
    have HBk := Lib.hid hB
    clear hB
    have hsub : IntKind.i64.wrap ((nn : Int) - 0) = ((nn : Nat) : Int) := by rw [IntKind.wrap_i64]; omega
    have hsub2 : IntKind.i64.wrap (nn : Int) = ((nn : Nat) : Int) := by rw [IntKind.wrap_i64]; omega
    have hkn : (0 : Int) < (nn : Int) := by omega
    have hkn' : 0 < nn := by omega
    go_wp2_with (first
      | (go_at_call 46; refine (keSmooth_any dn nn m _ ⟨m0, m9⟩ (by omega) (by omega) (by omega)).mono ?_; rintro e w5 ⟨g, rfl, hg, hC, hb5⟩
         have HC := Lib.hid hC
         have HB5 := Lib.hid (bel_call HBk.out hb5)
         clear hC hb5))
    go_loopw [3, 10, 11, 35] (fun rv sv fv iv wq => ∃ t : Nat, t ≤ dn ∧ iv = .int .i64 (t : Int) ∧ sv = .string ⟨#[]⟩ ∧ fv = .bool false ∧ rv = .int .i64 (r - (toS (gwN m dn (nn - 1)) 0 t : Nat)) ∧ Cells wq g dn (fun j => .int .i64 (gwN m dn (nn - 1) j : Int)) ∧ Below w.heap.size w wq) (fun _ _ _ iv _ => dn - (intOf iv).toNat)
    case atStart => exact ⟨0, by omega, rfl, rfl, rfl, by simp [toS], HC.out, HB5.out⟩
    case round =>
      obtain ⟨t, ht, rfl, rfl, rfl, rfl, hCt, hBt⟩ := hrel
      have HCt := Lib.hid hCt
      have HBt := Lib.hid hBt
      clear hCt hBt HBk HC HB5
      by_cases htd : t < dn
      · have o1 := HCt.out.cell htd
        have hgw := HGL.out t
        have hle : toS (gwN m dn (nn - 1)) 0 (t + 1) ≤ toS (gwN m dn (nn - 1)) 0 dn := toS_up _ (by omega)
        have HST : Hid (toS (gwN m dn (nn - 1)) 0 (t + 1) = toS (gwN m dn (nn - 1)) 0 t + gwN m dn (nn - 1) t) := Lib.hid (by rw [toS, Nat.zero_add])
        rw [HST.out] at hle
        have hz := HZ.out
        generalize gwN m dn (nn - 1) t = gt at o1 hgw hle HST
        generalize toS (gwN m dn (nn - 1)) 0 t = st at hle HST
        have hlfi : ¬ r - (st : Int) < (gt : Int) := by omega
        have hwr : IntKind.i64.wrap (r - (st : Int) - (gt : Int)) = r - (st : Int) - (gt : Int) := by rw [IntKind.wrap_i64]; omega
        clear hle hz
        go_wp2_with fail
        go_roundw
        case rel => exact ⟨t + 1, by omega, by go_num, rfl, rfl, by rw [HST.out]; congr 1; omega, HCt.out, HBt.out⟩
        case measure => simp [intOf]; omega
      · obtain rfl : t = dn := by omega
        go_wp2_with fail
        go_ret2
        rw [HV.out.1, HV.out.2]
        exact ⟨rfl, HBt.out⟩

theorem specSmoothOfRank_any (d n m r : Int) (w : World) (hb : r ≤ 9223372036854775807) :
    Calls Try.prog 22 #[.int .i64 d, .int .i64 n, .int .i64 m, .int .i64 r] w fun e w' => e = .returned (.tuple #[.string (soS d n m r), .bool (soB d n m r)]) ∧ Below w.heap.size w w' := by
  cases h : soB d n m r with
  | false => have := specSmooth_no d n m r w hb h; rwa [h] at this
  | true =>
    obtain ⟨hc, h0, -⟩ := soB_yes h
    obtain ⟨d1, -, n1, -⟩ := cmB_yes hc
    obtain ⟨dn, rfl⟩ : ∃ dn : Nat, d = dn := ⟨d.toNat, by omega⟩
    obtain ⟨nn, rfl⟩ : ∃ nn : Nat, n = nn := ⟨n.toNat, by omega⟩
    obtain ⟨rr, rfl⟩ : ∃ rr : Nat, r = rr := ⟨r.toNat, by omega⟩
    rw [(soS_yes h).1]
    exact specSmooth_yes dn nn rr m w h

end Go.Proofs.Ytaajklkldfgppaa
