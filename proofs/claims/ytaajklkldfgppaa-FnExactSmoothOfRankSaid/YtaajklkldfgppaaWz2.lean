/- How many smooth keys begin with each depth, and how many there are, as the model counts them. No conditions beyond those of each. -/
import Derived.Test.YtaajklkldfgppaaWz1
namespace Go.Proofs.Ytaajklkldfgppaa
open Go.ChangeShapes Go.WideShapes Go.ChangeAt Go.RowKit Go.Joins

theorem keSize_any (d n m : Int) (w : World) :
    Calls Try.prog 45 #[.int .i64 d, .int .i64 n, .int .i64 m] w fun e w' => e = .returned (.bool (cmB d n m)) ∧ w' = w := by
  obtain ⟨v1, HV1⟩ : ∃ v, Hid (inB d 1 9 = v) := ⟨_, Lib.hid rfl⟩
  obtain ⟨v2, HV2⟩ : ∃ v, Hid (inB n 1 7 = v) := ⟨_, Lib.hid rfl⟩
  obtain ⟨v3, HV3⟩ : ∃ v, Hid (inB m 0 9 = v) := ⟨_, Lib.hid rfl⟩
  have HC : Hid (cmB d n m = (v1 && v2 && v3)) := Lib.hid (by unfold cmB wpB; rw [HV1.out, HV2.out, HV3.out])
  rw [HC.out]
  rcases v1 with _ | _ <;> rcases v2 with _ | _ <;> rcases v3 with _ | _
  all_goals
    go_enter Try.func45, Try.ntmps45
    go_wp2_with (first
      | (go_at_call_of 61 d; refine (l1In_any _ _ _ _).mono ?_; rw [HV1.out]; rintro e w3 ⟨rfl, rfl⟩)
      | (go_at_call_of 61 n; refine (l1In_any _ _ _ _).mono ?_; rw [HV2.out]; rintro e w4 ⟨rfl, rfl⟩)
      | (go_at_call 61; refine (l1In_any _ _ _ _).mono ?_; rw [HV3.out]; rintro e w5 ⟨rfl, rfl⟩))
    go_ret
    exact ⟨rfl, rfl⟩

/-- A row of sums, with the depth d under way. -/
def nyF (m : Int) (fk : Nat → Nat) (dn d t j : Nat) : Value :=
  if j = d then .int .i64 (scS m d fk t : Int) else .int .i64 ((if j < d then scS m j fk dn else 0 : Nat) : Int)

theorem nyF_start {m : Int} {fk : Nat → Nat} {dn d : Nat} (j : Nat) : Value.int .i64 ((if j < d then scS m j fk dn else 0 : Nat) : Int) = nyF m fk dn d 0 j := by
  unfold nyF
  by_cases hj : j = d
  · subst hj; rw [if_pos rfl, if_neg (by omega)]; rfl
  · rw [if_neg hj]

theorem nyF_end {m : Int} {fk : Nat → Nat} {dn d : Nat} (j : Nat) : nyF m fk dn d dn j = Value.int .i64 ((if j < d + 1 then scS m j fk dn else 0 : Nat) : Int) := by
  unfold nyF
  by_cases hj : j = d
  · subst hj; rw [if_pos rfl, if_pos (by omega)]
  · rw [if_neg hj]
    by_cases h2 : j < d
    · rw [if_pos h2, if_pos (by omega)]
    · rw [if_neg h2, if_neg (by omega)]

theorem nyF_same {m : Int} {fk : Nat → Nat} {dn d t : Nat} (h : closeB m d t = false) (j : Nat) : nyF m fk dn d t j = nyF m fk dn d (t + 1) j := by
  unfold nyF
  rw [scS, h]
  rfl

theorem nyF_more {m : Int} {fk : Nat → Nat} {dn d t : Nat} {z : Int} (h : closeB m d t = true) (hz : z = (scS m d fk t + fk t : Nat)) (j : Nat) : (if j = d then Value.int .i64 z else nyF m fk dn d t j) = nyF m fk dn d (t + 1) j := by
  unfold nyF
  by_cases hj : j = d
  · rw [if_pos hj, if_pos hj, hz, scS, h, if_pos rfl]
  · rw [if_neg hj, if_neg hj, if_neg hj]

set_option maxRecDepth 100000 in
set_option maxHeartbeats 8000000 in
theorem keSmooth_any (dn p : Nat) (m : Int) (w : World) (hm : 0 ≤ m ∧ m ≤ 9) (hd9 : dn ≤ 9) (hp1 : 1 ≤ p) (hp7 : p ≤ 7) :
    Calls Try.prog 46 #[.int .i64 (dn : Int), .int .i64 (p : Int), .int .i64 m] w fun e w' => ∃ g, e = .returned (.slice (some ⟨g, 0, none⟩) dn dn) ∧ w.heap.size ≤ g ∧ Cells w' g dn (fun j => .int .i64 (gwN m dn (p - 1) j : Int)) ∧ Below w.heap.size w w' := by
  obtain ⟨hm0, hm9⟩ := hm
  have hmk := make_intsN dn (by omega)
  have HMP := Lib.hid (Cells.made w (.int .i64 0) dn 3)
  have HBP := Lib.hid (show Below w.heap.size w (w.alloc (.cells (madeCells #[.int .i64 0] dn) 3)) from (Below.refl _ _).alloc (Nat.le_refl _) _)
  go_enter Try.func46, Try.ntmps46
  go_wp2_with fail
  obtain ⟨g, hg⟩ : ∃ g, w.heap.size = g := ⟨_, rfl⟩
  have hgw : w.heap.size ≤ g := by omega
  have HGW := Lib.hid hg
  rw [hg] at HMP
  try rw [hg]
  clear hg
  go_loopw [17] (fun iv wr => ∃ i : Nat, i ≤ dn ∧ iv = .int .i64 i ∧ Cells wr g dn (fun j => .int .i64 ((if j < i then 1 else 0 : Nat) : Int)) ∧ Below w.heap.size w wr) (fun iv _ => dn - (intOf iv).toNat)
  case atStart => exact ⟨0, by omega, rfl, HMP.out.congr (fun j _ => by rw [if_neg (by omega)]; rfl), HBP.out⟩
  case round =>
    clear HMP HBP hmk
    obtain ⟨i, hi, rfl, hE, hB⟩ := hrel
    have HE := Lib.hid hE
    have HB := Lib.hid hB
    clear hE hB
    by_cases hlt : i < dn
    · have p1 := HE.out.cell hlt
      have p2 := HE.out.frozen hlt
      have HEN := Lib.hid ((HE.out.set_ hlt (.int .i64 1)).congr (f' := fun j => .int .i64 ((if j < i + 1 then 1 else 0 : Nat) : Int)) (fun j _ => by
        by_cases hj : j = i
        · rw [if_pos hj, if_pos (by omega)]; rfl
        · rw [if_neg hj]
          by_cases h2 : j < i
          · rw [if_pos h2, if_pos (by omega)]
          · rw [if_neg h2, if_neg (by omega)]))
      go_wp2_with fail
      go_roundw
      case rel => exact ⟨i + 1, by omega, by go_num, HEN.out, HB.out.setCell (by show w.heap.size ≤ g; omega) _⟩
      case measure => simp [intOf]; omega
    · obtain rfl : i = dn := by omega
      have HE0 := Lib.hid (HE.out.congr (f' := fun j => .int .i64 (gwN m i 0 j : Int)) (fun j hj => by rw [if_pos hj]; rfl))
      clear HE
      go_wp2_with fail
      obtain ⟨gI, hgI⟩ : ∃ gI, gI = g := ⟨g, rfl⟩
      subst hgI
      go_loopw [1, 7] (fun pv wv wr => ∃ (k g : Nat), k + 1 ≤ p ∧ wv = .slice (some ⟨g, 0, none⟩) i i ∧ pv = .int .i64 ((p : Int) - (k : Int)) ∧ w.heap.size ≤ g ∧ Cells wr g i (fun j => .int .i64 (gwN m i k j : Int)) ∧ Below w.heap.size w wr) (fun pv _ _ => (intOf pv).toNat)
      case atStart => exact ⟨0, gI, by omega, rfl, by simp, hgw, HE0.out, HB.out⟩
      case round =>
        clear HE0 HB hgw HGW
        obtain ⟨k, g, hk, rfl, rfl, hgw, hE, hB⟩ := hrel
        have hmk := make_intsN i (by omega)
        have HE := Lib.hid hE
        have HB := Lib.hid hB
        have hEz := hE.lt
        clear hE hB
        by_cases hlt1 : k + 1 < p
        · have hpk : (1 : Int) < (p : Int) - (k : Int) := by omega
          have HFK : Hid (∀ j, gwN m i (k + 1) j = scS m j (gwN m i k) i) := Lib.hid (fun _ => rfl)
          have HFB2 : Hid (∀ j, gwN m i k j ≤ 531441) := Lib.hid (fun j => Nat.le_trans (gwN_le hd9 k j) (Nat.le_trans (Nat.pow_le_pow_right (by decide) (show k ≤ 6 by omega)) (by decide)))
          obtain ⟨fk, hfk⟩ : ∃ f, gwN m i k = f := ⟨_, rfl⟩
          rw [hfk] at HE HFK HFB2
          clear hfk
          obtain ⟨w1, hw1⟩ : ∃ w1, w1 = wr := ⟨wr, rfl⟩
          subst hw1
          have HL0 := Lib.hid (Cells.made w1 (.int .i64 0) i 3)
          have HE1 := Lib.hid (HE.out.alloc (.cells (madeCells #[.int .i64 0] i) 3))
          have HB1 := Lib.hid (HB.out.alloc HB.out.size (.cells (madeCells #[.int .i64 0] i) 3))
          obtain ⟨g2, hg2⟩ : ∃ g2, w1.heap.size = g2 := ⟨_, rfl⟩
          have HG2 := Lib.hid hg2
          have hgg : g < g2 := by omega
          rw [hg2] at HL0
          clear hEz
          go_wp2_with fail
          try rw [HG2.out]
          go_loopw [32] (fun iv wr => ∃ d : Nat, d ≤ i ∧ iv = .int .i64 d ∧ Cells wr g2 i (fun j => .int .i64 ((if j < d then scS m j fk i else 0 : Nat) : Int)) ∧ Cells wr g i (fun j => .int .i64 (fk j : Int)) ∧ Below w.heap.size w wr) (fun iv _ => i - (intOf iv).toNat)
          case atStart => exact ⟨0, by omega, rfl, HL0.out.congr (fun j _ => by rw [if_neg (by omega)]; rfl), HE1.out, HB1.out⟩
          case round =>
            clear HL0 HE1 HB1 HE HB hmk HG2 hg2
            obtain ⟨d, hd, rfl, hL, hE, hB⟩ := hrel
            have HL := Lib.hid hL
            have HE := Lib.hid hE
            have HB := Lib.hid hB
            clear hL hE hB
            by_cases hlt2 : d < i
            · go_wp2_with fail
              go_loopw [37] (fun tv wr => ∃ t : Nat, t ≤ i ∧ tv = .int .i64 t ∧ Cells wr g2 i (nyF m fk i d t) ∧ Cells wr g i (fun j => .int .i64 (fk j : Int)) ∧ Below w.heap.size w wr) (fun tv _ => i - (intOf tv).toNat)
              case atStart => exact ⟨0, by omega, rfl, HL.out.congr (fun j _ => nyF_start j), HE.out, HB.out⟩
              case round =>
                clear HL HE HB
                obtain ⟨t, ht, rfl, hL, hE, hB⟩ := hrel
                have HL := Lib.hid hL
                have HE := Lib.hid hE
                have HB := Lib.hid hB
                clear hL hE hB
                by_cases hlt3 : t < i
                · have o2 := HE.out.cell hlt3
                  obtain ⟨a, ha⟩ : ∃ a : Int, max ((d : Int) - (t : Int)) (-((d : Int) - (t : Int))) = a := ⟨_, rfl⟩
                  have HAB := Lib.hid ha
                  by_cases hcl : a ≤ m
                  · have HCL : Hid (closeB m d t = true) := Lib.hid (decide_eq_true ⟨by omega, by omega⟩)
                    clear ha
                    have p1 : wr.cell? ⟨g2, d, none⟩ = some (.int .i64 (scS m d fk t : Int)) := by rw [HL.out.cell hlt2, nyF, if_pos rfl]
                    have p2 := HL.out.frozen hlt2
                    have hb1 := HFB2.out t
                    have hb2 := scS_le9 (m := m) (e := d) HFB2.out (show t ≤ 9 by omega)
                    have HNX : Hid (∀ j, (if j = d then Value.int .i64 ((scS m d fk t : Int) + (fk t : Int)) else nyF m fk i d t j) = nyF m fk i d (t + 1) j) := Lib.hid (nyF_more HCL.out (by omega))
                    generalize fk t = x at o2 hb1 HNX
                    generalize scS m d fk t = z at p1 hb2 HNX
                    have HLN := Lib.hid ((HL.out.set_ hlt2 (.int .i64 ((z : Int) + (x : Int)))).congr (fun j _ => HNX.out j))
                    have HEN := Lib.hid (HE.out.far (p := ⟨g2, d, none⟩) (by show g2 ≠ g; omega) (.int .i64 ((z : Int) + (x : Int))))
                    go_wp2_with (go_at_call 47; refine (l1Abs_any _ _ (by omega)).mono ?_; rw [HAB.out]; rintro e wq ⟨rfl, hwq⟩; replace hwq := hwq.symm; subst hwq)
                    go_roundw
                    case rel => exact ⟨t + 1, by omega, by go_num, HLN.out, HEN.out, HB.out.setCell (by show w.heap.size ≤ g2; omega) _⟩
                    case measure => simp [intOf]; omega
                  · have HCL : Hid (closeB m d t = false) := Lib.hid (decide_eq_false (fun h => by omega))
                    clear ha
                    go_wp2_with (go_at_call 47; refine (l1Abs_any _ _ (by omega)).mono ?_; rw [HAB.out]; rintro e wq ⟨rfl, hwq⟩; replace hwq := hwq.symm; subst hwq)
                    go_roundw
                    case rel => exact ⟨t + 1, by omega, by go_num, HL.out.congr (fun j _ => nyF_same HCL.out j), HE.out, HB.out⟩
                    case measure => simp [intOf]; omega
                · obtain rfl : t = i := by omega
                  go_wp2_with fail
                  go_roundw
                  case rel => exact ⟨d + 1, by omega, by go_num, HL.out.congr (fun j _ => nyF_end j), HE.out, HB.out⟩
                  case measure => simp [intOf]; omega
            · obtain rfl : d = i := by omega
              have HLF := Lib.hid (HL.out.congr (f' := fun j => .int .i64 (gwN m d (k + 1) j : Int)) (fun j hj => by rw [HFK.out, if_pos hj]))
              go_wp2_with fail
              go_roundw
              case rel => exact ⟨k + 1, g2, by omega, rfl, by go_num, by omega, HLF.out, HB.out⟩
              case measure => simp [intOf]; omega
        · obtain rfl : k = p - 1 := by omega
          go_wp2_with fail
          go_ret
          exact ⟨g, rfl, hgw, HE.out, HB.out⟩

end Go.Proofs.Ytaajklkldfgppaa
