/- How many keys that open are smooth, as the program counts them. For at most 9 depths and 7 places. -/
import Derived.Test.YtaajklkldfgppaaVx
namespace Go.Proofs.Ytaajklkldfgppaa
open Go.ChangeShapes Go.WideShapes Go.ChangeAt Go.RowKit Go.Joins

theorem pow9_le' {k : Nat} (h : k ≤ 7) : 9 ^ k ≤ 4782969 := Nat.le_trans (Nat.pow_le_pow_right (by decide) h) (by decide)

theorem ending_step {xs : List Int} {i j e : Nat} (h : i < xs.length) (he : xs.getD i 0 = (e : Int)) : (if j = e then Value.int .i64 1 else .int .i64 ((if hasB (xs.take i) j then 1 else 0 : Nat) : Int)) = .int .i64 ((if hasB (xs.take (i + 1)) j then 1 else 0 : Nat) : Int) := by
  rw [hasB_step h, he]
  by_cases hj : j = e
  · subst hj; rw [if_pos rfl, decide_eq_true rfl, Bool.or_true]; rfl
  · rw [if_neg hj, decide_eq_false (fun h => hj (by omega)), Bool.or_false]

theorem longer_step {xs : List Int} {i j e z : Nat} {g : Nat → Nat} (h : i < xs.length) (he : xs.getD i 0 = (e : Int)) (hz : z = g e) : (if j = e then Value.int .i64 (z : Int) else .int .i64 ((if hasB (xs.take i) j then g j else 0 : Nat) : Int)) = .int .i64 ((if hasB (xs.take (i + 1)) j then g j else 0 : Nat) : Int) := by
  subst hz
  rw [hasB_step h, he]
  by_cases hj : j = e
  · subst hj; rw [if_pos rfl, decide_eq_true rfl, Bool.or_true]; rfl
  · rw [if_neg hj, decide_eq_false (fun h => hj (by omega)), Bool.or_false]

set_option maxRecDepth 100000 in
set_option maxHeartbeats 8000000 in
theorem countSmooth_any (d m : Int) (A : Option Addr) (n c : Nat) (ks : List (List Int)) (w : World) (hm : 0 ≤ m ∧ m ≤ 9) (hn1 : 1 ≤ n) (hn7 : n ≤ 7) (hnc : n ≤ c) (hA : KnobsA w A n ks) (hS : SmallP ks) :
    Calls Try.prog 51 #[.agg #[.int .i64 d, .slice A n c], .int .i64 m] w fun e w' => e = .returned (.int .i64 (toS (fwN m ks (n - 1)) 0 9 : Int)) ∧ Below w.heap.size w w' := by
  obtain ⟨hm0, hm9⟩ := hm
  have HN := Lib.hid hA.len
  have HS := Lib.hid hS
  obtain ⟨b, off, rfl, hb, hc⟩ := hA.at_.resolve_left (by omega)
  have HC := Lib.hid hc
  obtain ⟨A0, c0, z0', hl0, hI0⟩ := hc 0 (by omega)
  rw [Nat.add_zero] at z0'
  have HI0 := Lib.hid hI0
  have HS0 := Lib.hid (HS.out 0 (by rw [HN.out]; omega))
  have HF0 : Hid (∀ j, fwN m ks 0 j = if hasB (ks.getD 0 []) j then 1 else 0) := Lib.hid (fun _ => rfl)
  unfold maxLen at hl0
  obtain ⟨xs0, hx0⟩ : ∃ xs, ks.getD 0 [] = xs := ⟨_, rfl⟩
  rw [hx0] at z0' hl0 HI0 HS0 HF0
  obtain ⟨m0, hml⟩ : ∃ q, xs0.length = q := ⟨_, rfl⟩
  have HML := Lib.hid hml
  rw [hml] at z0' hl0 HI0
  clear hc hI0 hx0 hml hA hS
  obtain ⟨W2, hW2⟩ : ∃ W2, (w.alloc (.cells #[.int .i64 d, .slice (some ⟨b, off, none⟩) n c] 26)).alloc (.cells #[.int .i64 0, .int .i64 0, .int .i64 0, .int .i64 0, .int .i64 0, .int .i64 0, .int .i64 0, .int .i64 0, .int .i64 0] 88) = W2 := ⟨_, rfl⟩
  have HB2 := Lib.hid (show Below w.heap.size w W2 from by rw [← hW2]; (repeat (first | assumption | exact Below.refl _ _ | (refine Below.alloc ?_ (by first | omega | (simp; done) | (simp; omega)) _) | (refine Below.setCell ?_ (by first | omega | (simp; done) | (simp; omega)) _) | refine bel_drewN ?_ _ | refine bel_drew ?_ | (refine bel_call ?_ (by assumption)))))
  have CP := Lib.hid (show Cells W2 w.heap.size 2 (pF d (.slice (some ⟨b, off, none⟩) n c)) from by rw [← hW2]; exact (Cells.new (n := 2) rfl rfl).alloc _)
  have CE := Lib.hid (show Cells W2 (w.heap.size + 1) 9 (fun _ => .int .i64 0) from by rw [← hW2]; exact cells_zero9 (w.alloc _) _ (by rw [World.size_alloc]))
  have HW := Lib.hid hW2
  have z0 : ((w.alloc (.cells #[.int .i64 d, .slice (some ⟨b, off, none⟩) n c] 26)).alloc (.cells #[.int .i64 0, .int .i64 0, .int .i64 0, .int .i64 0, .int .i64 0, .int .i64 0, .int .i64 0, .int .i64 0, .int .i64 0] 88)).cell? ⟨b, off, none⟩ = some (.slice A0 m0 c0) := by rw [hW2, HB2.out.cell (p := ⟨b, off, none⟩) hb]; exact z0'
  have hn0 : 0 < n := by omega
  clear hW2 z0'
  go_enter Try.func51, Try.ntmps51
  go_wp2_with fail
  clear z0
  go_loopw [20] (fun iv wr => ∃ i : Nat, i ≤ m0 ∧ iv = .int .i64 i ∧ Cells wr w.heap.size 2 (pF d (.slice (some ⟨b, off, none⟩) n c)) ∧ Cells wr (w.heap.size + 1) 9 (fun j => .int .i64 ((if hasB (xs0.take i) j then 1 else 0 : Nat) : Int)) ∧ Below w.heap.size w wr) (fun iv _ => m0 - (intOf iv).toNat)
  case atStart => rw [HW.out]; exact ⟨0, by omega, rfl, CP.out, CE.out.congr (fun j _ => rfl), HB2.out⟩
  case round =>
    clear HW CP CE HB2
    obtain ⟨i, hi, rfl, hP, hE, hB⟩ := hrel
    have HP := Lib.hid hP
    have HE := Lib.hid hE
    have HB := Lib.hid hB
    clear hP hE hB
    by_cases hlt : i < m0
    · obtain ⟨b1, off1, rfl, hb1, hc1⟩ := (HI0.out.below HB.out).at_.resolve_left (by omega)
      have o1 := hc1 i hlt
      have hx := small_at HS0.out (k := i) (by rw [HML.out]; exact hlt)
      obtain ⟨e, he⟩ : ∃ e : Nat, xs0.getD i 0 = (e : Int) := ⟨(xs0.getD i 0).toNat, by omega⟩
      have HEE := Lib.hid he
      rw [he] at o1 hx
      have he9 : e < 9 := by omega
      have p1 := HE.out.cell he9
      have p2 := HE.out.frozen he9
      have HEN := Lib.hid ((HE.out.set_ he9 (.int .i64 1)).congr (fun j _ => ending_step (by rw [HML.out]; exact hlt) HEE.out))
      have HPN := Lib.hid (HP.out.far (p := ⟨w.heap.size + 1, e, none⟩) (by show w.heap.size + 1 ≠ w.heap.size; omega) (.int .i64 1))
      clear hc1 he hx
      go_wp2_with fail
      go_roundw
      case rel => exact ⟨i + 1, by omega, by go_num, HPN.out, HEN.out, HB.out.setCell (by show w.heap.size ≤ w.heap.size + 1; omega) _⟩
      case measure => simp [intOf]; omega
    · obtain rfl : i = m0 := by omega
      have HE0 := Lib.hid (HE.out.congr (f' := fun j => .int .i64 (fwN m ks 0 j : Int)) (fun j _ => by rw [HF0.out, List.take_of_length_le (by rw [HML.out]; exact Nat.le_refl _)]))
      have l1 : wr.cell? ⟨w.heap.size, 1, none⟩ = some (.slice (some ⟨b, off, none⟩) n c) := HP.out.cell (show 1 < 2 by omega)
      clear HE
      have HFS : Hid (∀ k j, fwN m ks (k + 1) j = if hasB (ks.getD (k + 1) []) j then scS m j (fwN m ks k) 9 else 0) := Lib.hid (fun _ _ => rfl)
      go_wp2_with fail
      · rename_i hc1
        obtain rfl : n = 1 := by omega
        go_loopw [31] (fun iv wr => iv = .int .i64 ((0 : Nat) : Int) ∧ Cells wr (w.heap.size + 1) 9 (fun j => .int .i64 (fwN m ks 0 j : Int)) ∧ Below w.heap.size w wr) (fun _ _ => 0)
        case atStart => exact ⟨rfl, HE0.out, HB.out⟩
        case round =>
          clear HE0 HB HP l1
          obtain ⟨rfl, hE, hB⟩ := hrel
          have HE := Lib.hid hE
          have HB := Lib.hid hB
          clear hE hB
          have HFT : Hid (∀ j, fwN m ks 0 j ≤ 4782969) := Lib.hid (fun j => Nat.le_trans (fwN_le 0 j) (pow9_le' (by omega)))
          go_wp2_with (go_at_call 78; refine (total_any (w.heap.size + 1) 0 9 9 (fwN m ks 0) _ (by omega) HFT.out HE.out).mono ?_; rintro e' w3 ⟨rfl, hw3⟩; subst hw3)
          go_ret
          exact ⟨rfl, HB.out⟩
      · rename_i hc1
        have hnp : n - 1 < n := by omega
        go_loopw [31] (fun iv wr => ∃ k : Nat, k ≤ n - 1 ∧ iv = .int .i64 k ∧ Cells wr (w.heap.size + 1) 9 (fun j => .int .i64 (fwN m ks k j : Int)) ∧ Below w.heap.size w wr) (fun iv _ => (n - 1) - (intOf iv).toNat)
        case atStart => exact ⟨0, by omega, rfl, HE0.out, HB.out⟩
        case round =>
          clear HE0 HB HP l1
          obtain ⟨k, hk, rfl, hE, hB⟩ := hrel
          have HE := Lib.hid hE
          have HB := Lib.hid hB
          have hEz := hE.lt
          clear hE hB
          by_cases hlt1 : k < n - 1
          · obtain ⟨Ak, ck, z1', hl1, hI1⟩ := HC.out (k + 1) (by omega)
            have z1 : wr.cell? ⟨b, off + 1 + k, none⟩ = some (.slice Ak (ks.getD (k + 1) []).length ck) := by
              rw [HB.out.cell (p := ⟨b, off + 1 + k, none⟩) hb, show off + 1 + k = off + (k + 1) by omega]; exact z1'
            have HI1 := Lib.hid hI1
            have HS1 := Lib.hid (HS.out (k + 1) (by rw [HN.out]; omega))
            have HFK := Lib.hid (HFS.out k)
            have HFB := Lib.hid (fun j => fwN_le (m := m) (ks := ks) k j)
            unfold maxLen at hl1
            obtain ⟨xs1, hx1⟩ : ∃ xs, ks.getD (k + 1) [] = xs := ⟨_, rfl⟩
            rw [hx1] at z1 hl1 HI1 HS1 HFK
            obtain ⟨m1, hml1⟩ : ∃ q, xs1.length = q := ⟨_, rfl⟩
            have HML1 := Lib.hid hml1
            rw [hml1] at z1 hl1 HI1
            clear z1' hI1 hx1 hml1
            obtain ⟨fk, hfk⟩ : ∃ f, fwN m ks k = f := ⟨_, rfl⟩
            rw [hfk] at HE HFK HFB
            have HFB2 : Hid (∀ j, fk j ≤ 531441) := Lib.hid (fun j => Nat.le_trans (HFB.out j) (Nat.le_trans (Nat.pow_le_pow_right (by decide) (show k ≤ 6 by omega)) (by decide)))
            have HFE := Lib.hid hfk
            clear hfk HFB
            obtain ⟨w1, hw1⟩ : ∃ w1, w1 = wr := ⟨wr, rfl⟩
            subst hw1
            have HL0 := Lib.hid (cells_zero9 w1 88 rfl)
            have HE1 := Lib.hid (HE.out.alloc (.cells #[.int .i64 0, .int .i64 0, .int .i64 0, .int .i64 0, .int .i64 0, .int .i64 0, .int .i64 0, .int .i64 0, .int .i64 0] 88))
            have HB1 := Lib.hid (HB.out.alloc HB.out.size (.cells #[.int .i64 0, .int .i64 0, .int .i64 0, .int .i64 0, .int .i64 0, .int .i64 0, .int .i64 0, .int .i64 0, .int .i64 0] 88))
            go_wp2_with fail
            go_loopw [37] (fun iv wr => ∃ i : Nat, i ≤ m1 ∧ iv = .int .i64 i ∧ Cells wr w1.heap.size 9 (fun j => .int .i64 ((if hasB (xs1.take i) j then scS m j fk 9 else 0 : Nat) : Int)) ∧ Cells wr (w.heap.size + 1) 9 (fun j => .int .i64 (fk j : Int)) ∧ Below w.heap.size w wr) (fun iv _ => m1 - (intOf iv).toNat)
            case atStart => exact ⟨0, by omega, rfl, HL0.out.congr (fun j _ => rfl), HE1.out, HB1.out⟩
            case round =>
              clear HL0 HE1 HB1 HE HB
              obtain ⟨i, hi, rfl, hL, hE, hB⟩ := hrel
              have HL := Lib.hid hL
              have HE := Lib.hid hE
              have HB := Lib.hid hB
              clear hL hE hB
              by_cases hlt2 : i < m1
              · obtain ⟨b1, off1, rfl, hb1, hcc⟩ := (HI1.out.below HB.out).at_.resolve_left (by omega)
                have o1 := hcc i hlt2
                have hx := small_at HS1.out (k := i) (by rw [HML1.out]; exact hlt2)
                obtain ⟨e, he⟩ : ∃ e : Nat, xs1.getD i 0 = (e : Int) := ⟨(xs1.getD i 0).toNat, by omega⟩
                have HEE := Lib.hid he
                rw [he] at o1 hx
                have he9 : e < 9 := by omega
                clear hcc he hx
                have p1 := HL.out.cell he9
                have p2 := HL.out.frozen he9
                have p1 := HL.out.cell he9
                have p2 := HL.out.frozen he9
                have HFB3 : Hid (∀ j, fk j ≤ 4782969) := Lib.hid (fun j => Nat.le_trans (HFB2.out j) (by decide))
                by_cases hA : (e : Int) - m < 0
                · by_cases hB' : 8 < (e : Int) + m
                  · have HSC : Hid (scS m e fk 9 = toS fk 0 (9)) := Lib.hid ((scS_toS (lo := 0) (hi := 8) fk (fun j hj => by omega) (fun j hj => by omega) (by omega) (by omega)).trans (by congr 1 <;> omega))
                    go_wp2_with (go_at_call 78; refine (total_any (w.heap.size + 1) 0 9 9 fk _ (by omega) HFB3.out HE.out).mono ?_; rintro e' w3 ⟨rfl, hw3⟩; subst hw3)
                    have HLN := Lib.hid ((HL.out.set_ he9 (.int .i64 (toS fk 0 9 : Int))).congr (fun j _ => longer_step (g := fun j => scS m j fk 9) (by rw [HML1.out]; exact hlt2) HEE.out HSC.out.symm))
                    have HEN := Lib.hid (HE.out.far (p := ⟨w1.heap.size, e, none⟩) (by show w1.heap.size ≠ w.heap.size + 1; omega) (.int .i64 (toS fk 0 9 : Int)))
                    go_roundw
                    case rel => exact ⟨i + 1, by omega, by go_num, HLN.out, HEN.out, HB.out.setCell (by show w.heap.size ≤ w1.heap.size; omega) _⟩
                    case measure => simp [intOf]; omega
                  · obtain ⟨hi, hhi⟩ : ∃ hi : Nat, (e : Int) + m = (hi : Int) := ⟨((e : Int) + m).toNat, by omega⟩
                    have hh8 : hi ≤ 8 := by omega
                    obtain ⟨h1, hh1⟩ : ∃ h1 : Nat, (hi : Int) + 1 = (h1 : Int) := ⟨hi + 1, by omega⟩
                    have hh9 : h1 ≤ 9 := by omega
                    have hh9' : (h1 : Int) ≤ 9 := by omega
                    have HSC : Hid (scS m e fk 9 = toS fk 0 h1) := Lib.hid ((scS_toS (lo := 0) (hi := hi) fk (fun j hj => by omega) (fun j hj => by omega) (by omega) (by omega)).trans (by congr 1 <;> omega))
                    go_wp2_with (go_at_call 78; refine (total_any (w.heap.size + 1) 0 h1 9 fk _ (by omega) HFB3.out HE.out).mono ?_; rintro e' w3 ⟨rfl, hw3⟩; subst hw3)
                    have HLN := Lib.hid ((HL.out.set_ he9 (.int .i64 (toS fk 0 h1 : Int))).congr (fun j _ => longer_step (g := fun j => scS m j fk 9) (by rw [HML1.out]; exact hlt2) HEE.out HSC.out.symm))
                    have HEN := Lib.hid (HE.out.far (p := ⟨w1.heap.size, e, none⟩) (by show w1.heap.size ≠ w.heap.size + 1; omega) (.int .i64 (toS fk 0 h1 : Int)))
                    go_roundw
                    case rel => exact ⟨i + 1, by omega, by go_num, HLN.out, HEN.out, HB.out.setCell (by show w.heap.size ≤ w1.heap.size; omega) _⟩
                    case measure => simp [intOf]; omega
                · obtain ⟨lo, hlo⟩ : ∃ lo : Nat, (e : Int) - m = (lo : Int) := ⟨((e : Int) - m).toNat, by omega⟩
                  have hl8 : lo ≤ 8 := by omega
                  have hl8' : (lo : Int) ≤ 9 := by omega
                  by_cases hB' : 8 < (e : Int) + m
                  · have HSC : Hid (scS m e fk 9 = toS fk lo (9 - lo)) := Lib.hid ((scS_toS (lo := lo) (hi := 8) fk (fun j hj => by omega) (fun j hj => by omega) (by omega) (by omega)).trans (by congr 1 <;> omega))
                    go_wp2_with (go_at_call 78; refine (total_any (w.heap.size + 1) lo (9 - lo) (9 - lo) fk _ (by omega) HFB3.out HE.out).mono ?_; rintro e' w3 ⟨rfl, hw3⟩; subst hw3)
                    have HLN := Lib.hid ((HL.out.set_ he9 (.int .i64 (toS fk lo (9 - lo) : Int))).congr (fun j _ => longer_step (g := fun j => scS m j fk 9) (by rw [HML1.out]; exact hlt2) HEE.out HSC.out.symm))
                    have HEN := Lib.hid (HE.out.far (p := ⟨w1.heap.size, e, none⟩) (by show w1.heap.size ≠ w.heap.size + 1; omega) (.int .i64 (toS fk lo (9 - lo) : Int)))
                    go_roundw
                    case rel => exact ⟨i + 1, by omega, by go_num, HLN.out, HEN.out, HB.out.setCell (by show w.heap.size ≤ w1.heap.size; omega) _⟩
                    case measure => simp [intOf]; omega
                  · obtain ⟨hi, hhi⟩ : ∃ hi : Nat, (e : Int) + m = (hi : Int) := ⟨((e : Int) + m).toNat, by omega⟩
                    have hh8 : hi ≤ 8 := by omega
                    obtain ⟨h1, hh1⟩ : ∃ h1 : Nat, (hi : Int) + 1 = (h1 : Int) := ⟨hi + 1, by omega⟩
                    have hh9 : h1 ≤ 9 := by omega
                    have hh9' : (h1 : Int) ≤ 9 := by omega
                    have hlh : lo ≤ h1 := by omega
                    have hlh' : (lo : Int) ≤ (h1 : Int) := by omega
                    have HSC : Hid (scS m e fk 9 = toS fk lo (h1 - lo)) := Lib.hid ((scS_toS (lo := lo) (hi := hi) fk (fun j hj => by omega) (fun j hj => by omega) (by omega) (by omega)).trans (by congr 1 <;> omega))
                    go_wp2_with (go_at_call 78; refine (total_any (w.heap.size + 1) lo (h1 - lo) (9 - lo) fk _ (by omega) HFB3.out HE.out).mono ?_; rintro e' w3 ⟨rfl, hw3⟩; subst hw3)
                    have HLN := Lib.hid ((HL.out.set_ he9 (.int .i64 (toS fk lo (h1 - lo) : Int))).congr (fun j _ => longer_step (g := fun j => scS m j fk 9) (by rw [HML1.out]; exact hlt2) HEE.out HSC.out.symm))
                    have HEN := Lib.hid (HE.out.far (p := ⟨w1.heap.size, e, none⟩) (by show w1.heap.size ≠ w.heap.size + 1; omega) (.int .i64 (toS fk lo (h1 - lo) : Int)))
                    go_roundw
                    case rel => exact ⟨i + 1, by omega, by go_num, HLN.out, HEN.out, HB.out.setCell (by show w.heap.size ≤ w1.heap.size; omega) _⟩
                    case measure => simp [intOf]; omega
              · obtain rfl : i = m1 := by omega
                have HLF := Lib.hid (HL.out.congr (f' := fun j => .int .i64 (fwN m ks (k + 1) j : Int)) (fun j _ => by rw [HFK.out, List.take_of_length_le (by rw [HML1.out]; exact Nat.le_refl _)]))
                obtain ⟨g, hg⟩ : ∃ g, fwN m ks (k + 1) = g := ⟨_, rfl⟩
                have HG := Lib.hid hg
                rw [hg] at HLF
                clear hg HL HFK
                have c0 : wr.cell? ⟨w1.heap.size, 0, none⟩ = some (.int .i64 (g 0 : Int)) := HLF.out.cell (show 0 < 9 by omega)
                have c1 : wr.cell? ⟨w1.heap.size, 1, none⟩ = some (.int .i64 (g 1 : Int)) := HLF.out.cell (show 1 < 9 by omega)
                have c2 : wr.cell? ⟨w1.heap.size, 2, none⟩ = some (.int .i64 (g 2 : Int)) := HLF.out.cell (show 2 < 9 by omega)
                have c3 : wr.cell? ⟨w1.heap.size, 3, none⟩ = some (.int .i64 (g 3 : Int)) := HLF.out.cell (show 3 < 9 by omega)
                have c4 : wr.cell? ⟨w1.heap.size, 4, none⟩ = some (.int .i64 (g 4 : Int)) := HLF.out.cell (show 4 < 9 by omega)
                have c5 : wr.cell? ⟨w1.heap.size, 5, none⟩ = some (.int .i64 (g 5 : Int)) := HLF.out.cell (show 5 < 9 by omega)
                have c6 : wr.cell? ⟨w1.heap.size, 6, none⟩ = some (.int .i64 (g 6 : Int)) := HLF.out.cell (show 6 < 9 by omega)
                have c7 : wr.cell? ⟨w1.heap.size, 7, none⟩ = some (.int .i64 (g 7 : Int)) := HLF.out.cell (show 7 < 9 by omega)
                have c8 : wr.cell? ⟨w1.heap.size, 8, none⟩ = some (.int .i64 (g 8 : Int)) := HLF.out.cell (show 8 < 9 by omega)
                have e0 : wr.cell? ⟨w.heap.size + 1, 0, none⟩ = some (.int .i64 (fk 0 : Int)) := HE.out.cell (show 0 < 9 by omega)
                have e1 : wr.cell? ⟨w.heap.size + 1, 1, none⟩ = some (.int .i64 (fk 1 : Int)) := HE.out.cell (show 1 < 9 by omega)
                have e2 : wr.cell? ⟨w.heap.size + 1, 2, none⟩ = some (.int .i64 (fk 2 : Int)) := HE.out.cell (show 2 < 9 by omega)
                have e3 : wr.cell? ⟨w.heap.size + 1, 3, none⟩ = some (.int .i64 (fk 3 : Int)) := HE.out.cell (show 3 < 9 by omega)
                have e4 : wr.cell? ⟨w.heap.size + 1, 4, none⟩ = some (.int .i64 (fk 4 : Int)) := HE.out.cell (show 4 < 9 by omega)
                have e5 : wr.cell? ⟨w.heap.size + 1, 5, none⟩ = some (.int .i64 (fk 5 : Int)) := HE.out.cell (show 5 < 9 by omega)
                have e6 : wr.cell? ⟨w.heap.size + 1, 6, none⟩ = some (.int .i64 (fk 6 : Int)) := HE.out.cell (show 6 < 9 by omega)
                have e7 : wr.cell? ⟨w.heap.size + 1, 7, none⟩ = some (.int .i64 (fk 7 : Int)) := HE.out.cell (show 7 < 9 by omega)
                have e8 : wr.cell? ⟨w.heap.size + 1, 8, none⟩ = some (.int .i64 (fk 8 : Int)) := HE.out.cell (show 8 < 9 by omega)
                have q0 := HE.out.frozen (show 0 < 9 by omega)
                have q1 := HE.out.frozen (show 1 < 9 by omega)
                have q2 := HE.out.frozen (show 2 < 9 by omega)
                have q3 := HE.out.frozen (show 3 < 9 by omega)
                have q4 := HE.out.frozen (show 4 < 9 by omega)
                have q5 := HE.out.frozen (show 5 < 9 by omega)
                have q6 := HE.out.frozen (show 6 < 9 by omega)
                have q7 := HE.out.frozen (show 7 < 9 by omega)
                have q8 := HE.out.frozen (show 8 < 9 by omega)
                have HEN := Lib.hid ((((((((((HE.out.set_ (show 0 < 9 by omega) (.int .i64 (g 0 : Int))).set_ (show 1 < 9 by omega) (.int .i64 (g 1 : Int))).set_ (show 2 < 9 by omega) (.int .i64 (g 2 : Int))).set_ (show 3 < 9 by omega) (.int .i64 (g 3 : Int))).set_ (show 4 < 9 by omega) (.int .i64 (g 4 : Int))).set_ (show 5 < 9 by omega) (.int .i64 (g 5 : Int))).set_ (show 6 < 9 by omega) (.int .i64 (g 6 : Int))).set_ (show 7 < 9 by omega) (.int .i64 (g 7 : Int))).set_ (show 8 < 9 by omega) (.int .i64 (g 8 : Int))).congr (f' := fun j => .int .i64 (g j : Int)) (fun j hj => by
                  have : j = 0 ∨ j = 1 ∨ j = 2 ∨ j = 3 ∨ j = 4 ∨ j = 5 ∨ j = 6 ∨ j = 7 ∨ j = 8 := by omega
                  rcases this with rfl | rfl | rfl | rfl | rfl | rfl | rfl | rfl | rfl <;> rfl))
                have HBN := Lib.hid (((((((((HB.out.setCell (p := ⟨w.heap.size + 1, 0, none⟩) (by show w.heap.size ≤ w.heap.size + 1; omega) (.int .i64 (g 0 : Int))).setCell (p := ⟨w.heap.size + 1, 1, none⟩) (by show w.heap.size ≤ w.heap.size + 1; omega) (.int .i64 (g 1 : Int))).setCell (p := ⟨w.heap.size + 1, 2, none⟩) (by show w.heap.size ≤ w.heap.size + 1; omega) (.int .i64 (g 2 : Int))).setCell (p := ⟨w.heap.size + 1, 3, none⟩) (by show w.heap.size ≤ w.heap.size + 1; omega) (.int .i64 (g 3 : Int))).setCell (p := ⟨w.heap.size + 1, 4, none⟩) (by show w.heap.size ≤ w.heap.size + 1; omega) (.int .i64 (g 4 : Int))).setCell (p := ⟨w.heap.size + 1, 5, none⟩) (by show w.heap.size ≤ w.heap.size + 1; omega) (.int .i64 (g 5 : Int))).setCell (p := ⟨w.heap.size + 1, 6, none⟩) (by show w.heap.size ≤ w.heap.size + 1; omega) (.int .i64 (g 6 : Int))).setCell (p := ⟨w.heap.size + 1, 7, none⟩) (by show w.heap.size ≤ w.heap.size + 1; omega) (.int .i64 (g 7 : Int))).setCell (p := ⟨w.heap.size + 1, 8, none⟩) (by show w.heap.size ≤ w.heap.size + 1; omega) (.int .i64 (g 8 : Int)))
                go_wp2_with fail
                go_roundw
                case rel => exact ⟨k + 1, by omega, by go_num, by rw [HG.out]; exact HEN.out, HBN.out⟩
                case measure => simp [intOf]; omega
          · obtain rfl : k = n - 1 := by omega
            have HFT : Hid (∀ j, fwN m ks (n - 1) j ≤ 4782969) := Lib.hid (fun j => Nat.le_trans (fwN_le (n - 1) j) (pow9_le' (by omega)))
            go_wp2_with (go_at_call 78; refine (total_any (w.heap.size + 1) 0 9 9 (fwN m ks (n - 1)) _ (by omega) HFT.out HE.out).mono ?_; rintro e' w3 ⟨rfl, hw3⟩; subst hw3)
            go_ret
            exact ⟨rfl, HB.out⟩

end Go.Proofs.Ytaajklkldfgppaa
