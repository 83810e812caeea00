/- Parts of a lock, as the program takes them. For lists that can be. -/
import Derived.Test.YtilnjlcljjpnmaaPa
import Derived.Test.YtilnjlcljjpnmaaMz
namespace Go.Proofs.Ytilnjlcljjpnmaa
open Go.ChangeShapes Go.WideShapes Go.ChangeAt Go.RowKit Go.Joins

theorem bel_grownP {w w1 w2 : World} {B : Nat} (h : Below w.heap.size w w1) (hB : w.heap.size ≤ B) (hg : w1.grownBy w2 (some B)) : Below w.heap.size w w2 := h.grown hg h.size (fun j hj => by injection hj with hj; omega)

theorem paN_le (a b : Int) (ts : List ByteArray) : paN a b ts ≤ cnN a b := paU_le a b ts (cnN a b)

set_option maxRecDepth 100000 in
set_option maxHeartbeats 4000000 in
theorem takeParts_any (a b : Int) (B : Nat) (ts : List ByteArray) (w : World) (hL : LiveM w B (alB a b ts)) (hgd : goodB a b = true) (hc : cnN a b ≤ 1000) :
    Calls Try.prog 86 #[mzV a b (.map (some B))] w fun e w' => e = .returned (.int .i64 ((paN a b ts : Nat) : Int)) ∧ w.grownBy w' (some B) := by
  have HGD := Lib.hid hgd
  have HC := Lib.hid hc
  have hBv : B < w.heap.size := hL.lt
  obtain ⟨L0, hL0, hm0⟩ := hL
  have HPN : Hid (paL a b ts (alB a b ts) = paN a b ts) := Lib.hid paL_all
  have hPM : paN a b ts ≤ 1000 := Nat.le_trans (paN_le a b ts) hc
  have C0 := Lib.hid (m3_new (W := w) (a := a) (b := b) (v := .map (some B)) (t := 72) rfl)
  have X0 := Lib.hid (show Below w.heap.size w (w.alloc (.cells #[.int .i64 a, .int .i64 b, .map (some B)] 72)) from (Below.refl _ _).alloc (Nat.le_refl _) _)
  have HL0 := Lib.hid hL0
  have HM0 := Lib.hid hm0
  clear hgd hc hL0 hm0
  generalize paN a b ts = Z at HPN hPM
  unfold mzV
  go_enter Try.func86, Try.ntmps86
  go_wp2_with (at_range; refine wpList_range_S rfl _ _ _ rfl Try.underlying70 (HL0.out.alloc _) rfl ?_; intro w2 hrg2 hg2 hs2)
  go_frame
  have hr0 : (w.alloc (.cells #[.int .i64 a, .int .i64 b, .map (some B)] 72)).heap.size = w.heap.size + 1 := by simp
  obtain ⟨r, hr⟩ : ∃ r, w.heap.size + 1 = r := ⟨_, rfl⟩
  have HR := Lib.hid hr
  try simp only [hr0] at hrg2 hs2 ⊢
  rw [hr] at hrg2 hs2 ⊢
  clear hr
  have ST2 := Lib.hid (show Cells w2 w.heap.size 3 (m3F a b (.map (some B))) ∧ w.grownBy w2 (some B) from ⟨C0.out.grownM hg2 (by simp), ((grown_none X0.out).andThen hg2 (fun j hj => by cases hj)).but _⟩)
  clear hg2 hs2 hr0 X0 C0 HL0
  go_loopw [3, 4] (fun p _ wr => ∃ (q : Nat) (Lw Ds : List ByteArray) (Al : ByteArray → Bool), p = .int .i64 q ∧ q + paL a b ts Al = Z ∧ RgS wr RdB B r Lw ltB Ds ∧ (∀ t, t ∈ Lw ↔ Al t = true) ∧ (∀ t, t ∈ Ds → t ∉ Lw) ∧ (∀ t, Al t = true → alB a b ts t = true) ∧
    (∀ t u, Al t = true → askB a b u = true → rcB a b ts t u = true → Al u = true) ∧ Cells wr w.heap.size 3 (m3F a b (.map (some B))) ∧ w.grownBy wr (some B)) (fun _ _ wr => wr.rangeLeft B r)
  case atStart => exact ⟨0, L0, [], alB a b ts, rfl, by rw [HPN.out]; omega, hrg2, HM0.out, fun t ht => by (cases ht), fun t h => h, fun t u h hu hr => rcB_al h hu hr, ST2.out.1, ST2.out.2⟩
  case round =>
    clear ST2 hrg2 HM0 HPN
    obtain ⟨q, Lw, Ds, Al, rfl, hq, hRg, hmem, hds, hal, hcl, hbx, hgr⟩ := hrel
    have HRG := Lib.hid hRg
    have HMEM := Lib.hid hmem
    have HDS := Lib.hid hds
    have HAL := Lib.hid hal
    have HCL := Lib.hid hcl
    have HBX := Lib.hid hbx
    have HGR := Lib.hid hgr
    have hrl : r < wr.heap.size := hRg.lt
    clear hRg hmem hds hal hcl hbx hgr
    go_wp2_with (at_next; refine wpList_next_S rfl _ rfl _ rdB_val rfl HRG.out ?_ ?_)
    · intro hall
      have h0 : paL a b ts Al = 0 := paL_none fun i hi => by
        rw [Bool.eq_false_iff]
        intro h
        have h1 := (HMEM.out _).2 h
        exact HDS.out _ (hall _ h1) h1
      have hqz : q = Z := by omega
      clear hall
      go_wp2_with fail
      go_ret
      exact ⟨ret_int (by rw [hqz]), HGR.out⟩
    · intro x w3 hxL hxD hrg3 hlt3 hgr3 hsz3 hen3
      have hrB : r ≠ B := HRG.out.ne
      have BX3 := Lib.hid (HBX.out.grownM hgr3 (fun e => by injection e with e; have := HR.out; omega))
      have GR3 := Lib.hid (HGR.out.andThen hgr3 (fun j hj => .inl (by injection hj with hj; have := HR.out; omega)))
      have HRG3 := Lib.hid hrg3
      have HLT3 := Lib.hid hlt3
      have HXA := Lib.hid ((HMEM.out x).1 hxL)
      have m0 : w3.cell? ⟨w.heap.size, 0, none⟩ = some (.int .i64 a) := BX3.out.cell (show 0 < 3 by omega)
      have m1 : w3.cell? ⟨w.heap.size, 1, none⟩ = some (.int .i64 b) := BX3.out.cell (show 1 < 3 by omega)
      have m2 : w3.cell? ⟨w.heap.size, 2, none⟩ = some (.map (some B)) := BX3.out.cell (show 2 < 3 by omega)
      have hsz : r < w3.heap.size := by omega
      clear hxL hxD hrg3 hlt3 hgr3 hrl
      go_wp2_with fail
      refine (layersFrom_any _ _ _ Al _ _ ⟨Lw, HRG3.out.owns, HMEM.out⟩ (fun t h => alB_ask (HAL.out t h)) HXA.out HGD.out HC.out).mono ?_
      rintro e w4 ⟨v, N, G, rfl, hN0, hN1, hrow, hly, hne, hend, hlv4, hgr4, hsh4⟩
      obtain ⟨L4, hL4, hm4⟩ := hlv4
      obtain ⟨h5, h6, h7⟩ := HRG3.out.shrunk hsh4 (hgr4.block r hsz (fun e => by injection e with e; exact hrB e)) hL4
      have HRG5 := Lib.hid h5
      have hlt5 : w4.rangeLeft B r < wr.rangeLeft B r := Nat.lt_of_le_of_lt h6 HLT3.out
      have HLF := Lib.hid (fun t => left_next (N := N) HAL.out HCL.out HXA.out hend t)
      have HTK := Lib.hid (paL_take (A' := lvK a b Al x N) HGD.out HAL.out HCL.out HXA.out (fun t _ => HLF.out t))
      have BX5 := Lib.hid (BX3.out.grownM hgr4 (fun e => by injection e with e; have := HR.out; have := HRG3.out.owns.lt; omega))
      have GR5 := Lib.hid (GR3.out.andThen hgr4 (fun j hj => .inr hj))
      have HM5 := Lib.hid hm4
      have HDS5 : Hid (∀ t, t ∈ x :: Ds → t ∉ L4) := Lib.hid (fun t ht h => by
        rcases List.mem_cons.1 ht with rfl | ht
        · have h1 := (hm4 t).1 h
          rw [HLF.out, rcB_refl (HAL.out t HXA.out)] at h1
          simp at h1
        · exact HDS.out t ht (h7 t h))
      have HAL5 : Hid (∀ t, lvK a b Al x N t = true → alB a b ts t = true) := Lib.hid (fun t h => by
        rw [HLF.out, Bool.and_eq_true] at h
        exact HAL.out t h.1)
      have HCL5 : Hid (∀ t u, lvK a b Al x N t = true → askB a b u = true → rcB a b ts t u = true → lvK a b Al x N u = true) := Lib.hid (fun t u h hu hr => by
        rw [HLF.out] at h ⊢
        exact left_closed HAL.out HCL.out HXA.out t u h hu hr)
      have hq5 : q + 1 + paL a b ts (lvK a b Al x N) = Z := by have := HTK.out; omega
      clear hrow hly hne hend hgr4 hsh4 hL4 hm4 h5 h6 h7 m0 m1 m2 hen3
      go_wp2_with fail
      go_roundw
      case rel => exact ⟨q + 1, L4, x :: Ds, _, by go_num, hq5, HRG5.out, HM5.out, HDS5.out, HAL5.out, HCL5.out, BX5.out, GR5.out⟩
      case measure => exact hlt5

def paA (a b : Int) (ts : List ByteArray) : Int := if areZ a b ts then ((paN a b ts : Nat) : Int) else 0

theorem argS_nil (w : World) : ArgS w none 0 [] := ⟨rfl, .inl rfl, fun k hk => by omega⟩

theorem mzB_none (a b : Int) (ts : List ByteArray) : mzB a b ts [] = areZ a b ts := by unfold mzB; simp

theorem areZ_parts {a b : Int} {ts : List ByteArray} (h : areZ a b ts = true) : searchB a b = true ∧ deadB a b ts = true ∧ goodB a b = true ∧ cnN a b ≤ 1000 := by
  unfold areZ at h
  rw [Bool.and_eq_true] at h
  obtain ⟨g1, g2⟩ := searchB_good h.1
  have hc := cnN_cast g1
  unfold countZ at g2
  rw [g1, if_pos rfl] at g2
  exact ⟨h.1, h.2, g1, by omega⟩

set_option maxRecDepth 100000 in
set_option maxHeartbeats 2000000 in
theorem parts_any (a b : Int) (A : Option Addr) (n c : Nat) (ts : List ByteArray) (w : World) (hn : n ≤ maxLen) (hA : ArgS w A n ts) :
    Calls Try.prog 45 #[.agg #[.int .i64 a, .int .i64 b], .slice A n c] w fun e w' => e = .returned (.tuple #[.int .i64 (paA a b ts), .bool (areZ a b ts)]) ∧ Below w.heap.size w w' := by
  have HA := Lib.hid hA
  have HN := Lib.hid hn
  have X0 := Lib.hid (show Below w.heap.size w (w.alloc (.cells #[.int .i64 a, .int .i64 b] 28)) from (Below.refl _ _).alloc (Nat.le_refl _) _)
  clear hA hn
  go_enter Try.func45, Try.ntmps45
  go_wp2_with fail
  refine (mazeOf_any _ _ _ _ _ ts none 0 _ [] _ HN.out (HA.out.below X0.out) (by unfold maxLen; omega) (argS_nil _)).mono ?_
  rintro e w1 h1
  rcases h1 with ⟨hd, B, rfl, hB, hlv, hb1⟩ | ⟨hd, rfl, hb1⟩
  · rw [mzB_none] at hd
    unfold mzV
    have HD := Lib.hid hd
    have HP := Lib.hid (areZ_parts hd)
    have HV : Hid (paA a b ts = ((paN a b ts : Nat) : Int)) := Lib.hid (by unfold paA; rw [hd, if_pos rfl])
    have hwB : w.heap.size ≤ B := by have := X0.out.size; omega
    have X1 := Lib.hid ((bel_call X0.out hb1).alloc (bel_call X0.out hb1).size (.cells #[.int .i64 a, .int .i64 b, .map (some B)] 72))
    have M1 := Lib.hid (m3_new (W := w1) (a := a) (b := b) (v := .map (some B)) (t := 72) rfl)
    have L1 := Lib.hid (hlv.call ((Below.refl _ _).alloc (Nat.le_refl _) (.cells #[.int .i64 a, .int .i64 b, .map (some B)] 72)))
    have k0 : (w1.alloc (.cells #[.int .i64 a, .int .i64 b, .map (some B)] 72)).cell? ⟨w1.heap.size, 0, none⟩ = some (.int .i64 a) := M1.out.cell (show 0 < 3 by omega)
    have k1 : (w1.alloc (.cells #[.int .i64 a, .int .i64 b, .map (some B)] 72)).cell? ⟨w1.heap.size, 1, none⟩ = some (.int .i64 b) := M1.out.cell (show 1 < 3 by omega)
    have k2 : (w1.alloc (.cells #[.int .i64 a, .int .i64 b, .map (some B)] 72)).cell? ⟨w1.heap.size, 2, none⟩ = some (.map (some B)) := M1.out.cell (show 2 < 3 by omega)
    clear hd hb1 hlv X0 hB
    go_wp2_with fail
    refine (takeParts_any _ _ _ ts _ L1.out HP.out.2.2.1 HP.out.2.2.2).mono ?_
    rintro e w3 ⟨rfl, hgr3⟩
    have X3 := Lib.hid (bel_grownP X1.out hwB hgr3)
    clear hgr3
    go_wp2_with fail
    go_ret2
    exact ⟨by rw [HV.out, HD.out]; first | done | rfl, X3.out⟩
  · rw [mzB_none] at hd
    unfold mzV
    have HD := Lib.hid hd
    have X1 := Lib.hid ((bel_call X0.out hb1).alloc (bel_call X0.out hb1).size (.cells #[.int .i64 0, .int .i64 0, .map none] 72))
    have HV : Hid (paA a b ts = 0) := Lib.hid (by unfold paA; rw [hd]; rfl)
    clear hd hb1
    go_wp2_with fail
    go_ret2
    exact ⟨by rw [HV.out, HD.out]; first | done | rfl, X1.out⟩

end Go.Proofs.Ytilnjlcljjpnmaa
