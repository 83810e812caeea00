/- The greatest ring: both programs' answers. No conditions. -/
import Derived.Test.YteolmplbgmfhmaaDoorRf
namespace Go.Proofs.YteolmplbgmfhmaaDoor
open Go.ChangeShapes Go.WideShapes Go.ChangeAt Go.RowKit Go.Joins

/-- Digits told from the greatest one on. -/
def grL (b : Int) (ds : List Int) : List Int := ds.map fun d => b - 1 - d

def grT (a b : Int) : ByteArray := if riB a b then textOf (grL b (ringW b a.toNat)) else ⟨#[]⟩

theorem grT_yes {n : Nat} {b : Int} (h : riB n b = true) : grT n b = textOf (grL b (ringW b n)) := by unfold grT; rw [h]; rfl

theorem grT_no {a b : Int} (h : riB a b = false) : grT a b = ⟨#[]⟩ := by unfold grT; rw [h]; rfl

theorem grL_length (b : Int) (ds : List Int) : (grL b ds).length = ds.length := by unfold grL; rw [List.length_map]

theorem grL_at {b : Int} {ds : List Int} {k : Nat} (h : k < ds.length) : (grL b ds).getD k 0 = b - 1 - ds.getD k 0 := by
  unfold grL
  simp [List.getD, List.getElem?_eq_getElem h]

theorem grL_digits {b : Int} {ds : List Int} (h : Low b ds) (h10 : b ≤ 10) : Digits (grL b ds) := fun j hj => by
  rw [grL_length] at hj
  rw [grL_at hj]
  have := h j hj
  omega

theorem great1_any (b d : Int) (L : Nat) (w : World) (h2 : 2 ≤ b) (h10 : b ≤ 10) (hd : 0 ≤ d ∧ d ≤ 9) (c1 : w.cell? ⟨L, 1, none⟩ = some (.int .i64 b)) :
    Calls Tryd.prog 31 #[.int .i64 d, .pointer (some ⟨L, 0, none⟩)] w fun e w' => e = .returned (.int .i64 (b - 1 - d)) ∧ w' = w := by
  go_enter Tryd.func31, Tryd.ntmps31
  go_wp2
  go_ret
  exact ⟨rfl, rfl⟩

set_option maxRecDepth 100000 in
set_option maxHeartbeats 4000000 in
theorem replaceG_any (b : Int) (L : Nat) (s : ByteArray) (w : World) (h2 : 2 ≤ b) (h10 : b ≤ 10) (hsz : s.size ≤ 1000) (hl : Low b (dg s)) (c1 : w.cell? ⟨L, 1, none⟩ = some (.int .i64 b)) :
    Calls Tryd.prog 30 #[.string s, .func (.func 31) #[] #[.pointer (some ⟨L, 0, none⟩)]] w fun e w' => e = .returned (.string (textOf (grL b (dg s)))) ∧ Below w.heap.size w w' := by
  have HD := Lib.hid (hl.digits h10)
  have hL := cell_ltR c1
  have C1 := Lib.hid c1
  have HLEN : Hid ((grL b (dg s)).length = s.size) := Lib.hid (by rw [grL_length, dg_length])
  have HAT := Lib.hid (fun k (hk : k < s.size) => (grL_at (b := b) (ds := dg s) (by rw [dg_length]; exact hk)))
  have HDR := Lib.hid (grL_digits hl h10)
  clear hl c1
  generalize grL b (dg s) = Z at HLEN HAT HDR
  go_enter Tryd.func30, Tryd.ntmps30
  go_wp2_with (go_at_call 47; refine (digitsOf_any _ _ HD.out hsz).mono ?_; rintro e w1 ⟨g, c, rfl, hg, hC, hb⟩; have HC := Lib.hid hC; have HB := Lib.hid hb; clear hC hb)
  go_loopw [12] (fun i wr => ∃ k : Nat, k ≤ s.size ∧ i = .int .i64 k ∧ Cells wr g s.size (fun j => if j < k then digF Z j else digF (dg s) j) ∧ Below w.heap.size w wr) (fun i _ => s.size - (intOf i).toNat)
  case atStart => exact ⟨0, by omega, rfl, HC.out.congr (fun j _ => by simp), HB.out⟩
  case round =>
    obtain ⟨k, hk, rfl, hCr, hB⟩ := hrel
    have HCR := Lib.hid hCr
    clear hCr
    by_cases hlt : k < s.size
    · have o1 : wr.cell? ⟨g, k, none⟩ = some (.int .i64 ((dg s).getD k 0)) := by rw [HCR.out.cell hlt, if_neg (by omega)]; rfl
      have hf : wr.frozen? ⟨g, k, none⟩ = false := HCR.out.frozen hlt
      have hdk := HD.out k (by rw [dg_length]; exact hlt)
      have HV := Lib.hid (HAT.out k hlt)
      have e1 : Hid (wr.cell? ⟨L, 1, none⟩ = some (.int .i64 b)) := Lib.hid (by rw [hB.cell (p := ⟨L, 1, none⟩) hL]; exact C1.out)
      generalize (dg s).getD k 0 = d at o1 hdk HV
      have HS := Lib.hid ((HCR.out.set_ hlt (.int .i64 (b - 1 - d))).congr (f' := fun j => if j < k + 1 then digF Z j else digF (dg s) j) (fun j hj => by
        have hv : Value.int .i64 (b - 1 - d) = digF Z k := by rw [digF, HV.out]
        rw [hv]
        by_cases e : j = k
        · subst e; rw [if_pos rfl, if_pos (by omega)]
        · rw [if_neg e]
          by_cases e2 : j < k
          · rw [if_pos e2, if_pos (by omega)]
          · rw [if_neg e2, if_neg (by omega)]))
      go_wp2_with (go_at_call 31; refine (great1_any b d L _ h2 h10 hdk e1.out).mono ?_; rintro e w3 ⟨rfl, rfl⟩)
      go_roundw
      case rel => exact ⟨k + 1, by omega, by go_num, HS.out, hB.setCell hg _⟩
      case measure => simp [intOf]; omega
    · have HCC : Hid (Cells wr g s.size (digF Z)) := Lib.hid (HCR.out.congr (fun j hj => by rw [if_pos (by omega)]))
      go_wp2_with (go_at_call 48; refine (codeOf_n _ _ Z HLEN.out _ HCC.out HDR.out hsz).mono ?_; rintro e w4 ⟨rfl, hb4⟩)
      go_ret
      exact ⟨rfl, bel_call hB hb4⟩

theorem dg_empty : dg ⟨#[]⟩ = [] := rfl

set_option maxHeartbeats 2000000 in
/-- Nothing is replaced in an empty text, whatever the closure's lock. -/
theorem replaceG_none (L : Nat) (w : World) :
    Calls Tryd.prog 30 #[.string ⟨#[]⟩, .func (.func 31) #[] #[.pointer (some ⟨L, 0, none⟩)]] w fun e w' => e = .returned (.string ⟨#[]⟩) ∧ Below w.heap.size w w' := by
  have HD : Hid (Digits (dg ⟨#[]⟩)) := Lib.hid (fun j hj => by simp [dg_empty] at hj)
  go_enter Tryd.func30, Tryd.ntmps30
  go_wp2_with (go_at_call 47; refine (digitsOf_any ⟨#[]⟩ _ HD.out (by decide)).mono ?_; rintro e w1 ⟨g, c, rfl, hg, hC, hb⟩; have HC := Lib.hid hC; have HB := Lib.hid hb; clear hC hb)
  go_loopw [12] (fun i wr => i = .int .i64 0 ∧ Cells wr g 0 (digF []) ∧ Below w.heap.size w wr) (fun _ _ => 0)
  case atStart => exact ⟨rfl, HC.out, HB.out⟩
  case round =>
    obtain ⟨rfl, hCr, hB⟩ := hrel
    have HCC := Lib.hid hCr
    clear hCr
    go_wp2_with (go_at_call 48; refine (codeOf_n (n := 0) g c [] rfl _ HCC.out (fun j hj => by simp at hj) (by decide)).mono ?_; rintro e w4 ⟨rfl, hb4⟩)
    go_ret
    exact ⟨rfl, bel_call hB hb4⟩

set_option maxHeartbeats 2000000 in
theorem greatestRing_any (a b : Int) (w : World) :
    Calls Tryd.prog 13 #[.agg #[.int .i64 a, .int .i64 b]] w fun e w' => e = .returned (.tuple #[.string (grT a b), .bool (riB a b)]) ∧ Below w.heap.size w w' := by
  by_cases hg : riB a b = true
  · have HG := Lib.hid hg
    obtain ⟨n, rfl⟩ : ∃ n : Nat, a = n := ⟨a.toNat, by have := good_yes (riB_good hg); omega⟩
    obtain ⟨_, _, h2, h10⟩ := good_yes (riB_good hg)
    have HLR := Lib.hid (lrT_yes hg)
    have HGR := Lib.hid (grT_yes hg)
    have HLW := Lib.hid (ringW_low hg)
    have HDG : Hid (dg (textOf (ringW b n)) = ringW b n) := Lib.hid (dg_textOf ((ringW_low hg).digits h10))
    have hsz : (textOf (ringW b n)).size ≤ 1000 := by
      have := riB_pw hg
      rw [textOf_size, ringW_length hg]
      omega
    have HSZ := Lib.hid hsz
    clear hg hsz
    go_enter Tryd.func13, Tryd.ntmps13
    go_wp2_with (first | (go_at_call 11; refine (leastRing_any _ _ _).mono ?_; rw [HG.out, HLR.out]; rintro e w1 ⟨rfl, hb⟩; have HB := Lib.hid (show Below w.heap.size w w1 from by (repeat (first | assumption | exact Below.refl _ _ | (refine Below.alloc ?_ (by first | omega | (simp; done) | (simp; omega)) _) | (refine Below.setCell ?_ (by first | omega | (simp; done) | (simp; omega)) _) | refine bel_drewN ?_ _ | refine bel_drew ?_ | (refine bel_call ?_ (by assumption))))); have m1 : w1.cell? ⟨w.heap.size, 1, none⟩ = some (.int .i64 b) := (by rw [hb.cell (p := ⟨w.heap.size, 1, none⟩) (by simp)]; simp); clear hb) | (go_at_call 30; refine (replaceG_any b _ _ _ h2 h10 HSZ.out (by rw [HDG.out]; exact HLW.out) m1).mono ?_; rw [HDG.out, ← HGR.out]; rintro e w2 ⟨rfl, hb2⟩; have HB2 := Lib.hid (bel_call HB.out hb2)))
    go_ret2
    exact ⟨by rw [HG.out]; rfl, HB2.out⟩
  · have HG := Lib.hid (Bool.eq_false_iff.2 hg)
    have HLR := Lib.hid (lrT_no HG.out)
    clear hg
    go_enter Tryd.func13, Tryd.ntmps13
    go_wp2_with (first | (go_at_call 11; refine (leastRing_any _ _ _).mono ?_; rw [HG.out, HLR.out]; rintro e w1 ⟨rfl, hb⟩; have HB := Lib.hid (show Below w.heap.size w w1 from by (repeat (first | assumption | exact Below.refl _ _ | (refine Below.alloc ?_ (by first | omega | (simp; done) | (simp; omega)) _) | (refine Below.setCell ?_ (by first | omega | (simp; done) | (simp; omega)) _) | refine bel_drewN ?_ _ | refine bel_drew ?_ | (refine bel_call ?_ (by assumption))))); clear hb) | (go_at_call 30; refine (replaceG_none _ _).mono ?_; rintro e w2 ⟨rfl, hb2⟩; have HB2 := Lib.hid (bel_call HB.out hb2)))
    go_ret2
    exact ⟨by rw [HG.out, grT_no HG.out]; rfl, HB2.out⟩

theorem grL_snoc {b : Int} {ds : List Int} {k : Nat} (h : k < ds.length) : textOf ((grL b ds).take k) ++ strOfNums [48 + (b - 1 - ds.getD k 0)] = textOf ((grL b ds).take (k + 1)) := by
  rw [← textOf_snoc (grL b ds) (by rw [grL_length]; exact h), grL_at h]

set_option maxHeartbeats 4000000 in
theorem specGreatestRing_any (a b : Int) (w : World) :
    Calls Tryd.prog 12 #[.agg #[.int .i64 a, .int .i64 b]] w fun e w' => e = .returned (.tuple #[.string (grT a b), .bool (riB a b)]) ∧ Below w.heap.size w w' := by
  by_cases hg : riB a b = true
  · have HG := Lib.hid hg
    obtain ⟨n, rfl⟩ : ∃ n : Nat, a = n := ⟨a.toNat, by have := good_yes (riB_good hg); omega⟩
    obtain ⟨_, _, h2, h10⟩ := good_yes (riB_good hg)
    have HGR := Lib.hid (grT_yes hg)
    have HLW := Lib.hid (ringW_low hg)
    have HDG : Hid (dg (textOf (ringW b n)) = ringW b n) := Lib.hid (dg_textOf ((ringW_low hg).digits h10))
    have hcge := cn_ge (riB_good hg)
    have hN : (ringW b n).length = cnN n b := by rw [ringW_length hg]; unfold cnN; rw [Int.toNat_natCast]
    have hcn := cn_le hg
    obtain ⟨N, hNN⟩ : ∃ N, (ringW b n).length = N := ⟨_, rfl⟩
    have HSZ : Hid ((textOf (ringW b n)).size = N) := Lib.hid (by rw [textOf_size]; exact hNN)
    have hN1 : 0 < N ∧ N ≤ 1000 := by omega
    obtain ⟨hN0, hN1⟩ := hN1
    have HNN := Lib.hid hNN
    clear hg hN hNN hcge hcn
    go_enter Tryd.func12, Tryd.ntmps12
    go_wp2_with (first | (go_at_call 25; refine (riGood_any _ _ _).mono ?_; rw [HG.out]; rintro e w1 ⟨rfl, hb⟩; have HB := Lib.hid (show Below w.heap.size w w1 from by (repeat (first | assumption | exact Below.refl _ _ | (refine Below.alloc ?_ (by first | omega | (simp; done) | (simp; omega)) _) | (refine Below.setCell ?_ (by first | omega | (simp; done) | (simp; omega)) _) | refine bel_drewN ?_ _ | refine bel_drew ?_ | (refine bel_call ?_ (by assumption))))); have z1 : w.heap.size < w1.heap.size := (by have := hb.size; simp at this; omega); have m0 : w1.cell? ⟨w.heap.size, 0, none⟩ = some (.int .i64 n) := (by rw [hb.cell (p := ⟨w.heap.size, 0, none⟩) (by simp)]; simp); have m1 : w1.cell? ⟨w.heap.size, 1, none⟩ = some (.int .i64 b) := (by rw [hb.cell (p := ⟨w.heap.size, 1, none⟩) (by simp)]; simp); clear hb) | (go_at_call 26; refine (riLeast_any _ _ _ HG.out).mono ?_; rintro e w2 ⟨rfl, hb2⟩; have HB2 := Lib.hid (bel_call HB.out hb2); have z2 : w.heap.size < w2.heap.size := (by have := hb2.size; omega); have q1 : w2.cell? ⟨w.heap.size, 1, none⟩ = some (.int .i64 b) := (by rw [hb2.cell (p := ⟨w.heap.size, 1, none⟩) z1]; exact m1); clear hb2) | (go_at_call 28; refine (whDigits_any _ _ (by rw [HDG.out]; exact HLW.out.digits h10) (by rw [HSZ.out]; exact hN1) (by rw [HSZ.out]; exact hN0)).mono ?_; rw [HDG.out, HSZ.out]; rintro e w4 ⟨g, c, rfl, hgg, hC, hb4⟩; have HC := Lib.hid hC; have HB4 := Lib.hid (bel_call HB2.out hb4); have r1 : w4.cell? ⟨w.heap.size, 1, none⟩ = some (.int .i64 b) := (by rw [hb4.cell (p := ⟨w.heap.size, 1, none⟩) z2]; exact q1); have z4 : w.heap.size < w4.heap.size := (by have := hb4.size; omega); clear hC hb4))
    go_loopw [4, 14] (fun v i wr => ∃ k : Nat, k ≤ N ∧ i = .int .i64 k ∧ v = .string (textOf ((grL b (ringW b n)).take k)) ∧ Cells wr g N (digF (ringW b n)) ∧ wr.cell? ⟨w.heap.size, 1, none⟩ = some (.int .i64 b) ∧ Below w.heap.size w wr ∧ w.heap.size < wr.heap.size) (fun _ i _ => N - (intOf i).toNat)
    case atStart => exact ⟨0, by omega, rfl, rfl, HC.out, r1, HB4.out, z4⟩
    case round =>
      clear r1 z4
      obtain ⟨k, hk, rfl, rfl, hCr, c1, hB, hz⟩ := hrel
      have HCR := Lib.hid hCr
      clear hCr
      by_cases hlt : k < N
      · have hct := HCR.out.cell hlt
        unfold digF at hct
        have hdk := HLW.out k (by rw [HNN.out]; exact hlt)
        have hsn := grL_snoc (b := b) (ds := ringW b n) (k := k) (by rw [HNN.out]; exact hlt)
        have hsize : (textOf ((grL b (ringW b n)).take k)).size ≤ 1000 := by rw [textOf_size, List.length_take]; omega
        generalize (ringW b n).getD k 0 = d at hct hdk hsn
        obtain ⟨d0, d9⟩ := hdk
        have hadd : ∀ W : World, (Op.stringOp .add (textOf ((grL b (ringW b n)).take k)) (strOfNums [48 + (b - 1 - d)])).run Tryd.prog W = .ok (.string (textOf ((grL b (ringW b n)).take (k + 1)))) W := fun W => by
          rw [run_string_add_sum _ _ _ (by rw [strOne_size]; omega), ← hsn]
        clear hsn
        go_wp2_with (go_at_call 29; refine (l1Num_any _ _ (by omega) (by omega)).mono ?_; rintro e w5 ⟨rfl, hb5⟩)
        go_roundw
        case rel => exact ⟨k + 1, by omega, by go_num, rfl, HCR.out.call hb5, by rw [hb5.cell (p := ⟨w.heap.size, 1, none⟩) hz]; exact c1, bel_call hB hb5, Nat.lt_of_lt_of_le hz hb5.size⟩
        case measure => simp [intOf]; omega
      · have HF : Hid (textOf ((grL b (ringW b n)).take k) = grT n b) := Lib.hid (by rw [HGR.out]; exact textOf_all _ (by rw [grL_length, HNN.out]; omega))
        go_wp2
        go_ret2
        exact ⟨by rw [HG.out, HF.out]; rfl, hB⟩
  · have HG := Lib.hid (Bool.eq_false_iff.2 hg)
    clear hg
    go_enter Tryd.func12, Tryd.ntmps12
    go_wp2_with (go_at_call 25; refine (riGood_any _ _ _).mono ?_; rw [HG.out]; rintro e w1 ⟨rfl, hb⟩; obtain ⟨hc, hf, hz⟩ := bcell hb; have hz0 : w.heap.size < w1.heap.size := by (try simp at hz); omega)
    go_ret2
    refine ⟨by rw [HG.out, grT_no HG.out]; rfl, ?_⟩
    (repeat (first | assumption | exact Below.refl _ _ | (refine Below.alloc ?_ (by first | omega | (simp; done) | (simp; omega)) _) | (refine Below.setCell ?_ (by first | omega | (simp; done) | (simp; omega)) _) | refine bel_drewN ?_ _ | refine bel_drew ?_ | (refine bel_call ?_ (by assumption))))

end Go.Proofs.YteolmplbgmfhmaaDoor
