/- How many keys that open are smooth, as the model counts them. For pins with at most 1048576 numbers. -/
import Derived.Test.YtgcadcekkojidaaVz
namespace Go.Proofs.Ytgcadcekkojidaa
open Go.ChangeShapes Go.WideShapes Go.ChangeAt Go.RowKit Go.Joins

theorem rise_up {d : Int} {xs : List Int} : ∀ {lo : Int} {i : Nat}, riseB d lo xs = true → i < xs.length → ∀ y, y ∈ xs.take i → y < xs.getD i 0 := by
  induction xs with
  | nil => intro lo i _ hi; simp at hi
  | cons x xs ih =>
    intro lo i h hi y hy
    obtain ⟨_, _, h3⟩ := rise_yes h
    cases i with
    | zero => simp at hy
    | succ i =>
      have hi' : i < xs.length := by simpa using hi
      rw [List.getD_cons_succ]
      rw [List.take_succ_cons, List.mem_cons] at hy
      rcases hy with rfl | hy
      · have := rise_mem h3 (xs.getD i 0) (by rw [List.getD, List.getElem?_eq_getElem hi', Option.getD_some]; exact List.getElem_mem hi')
        omega
      · exact ih h3 hi' y hy

theorem rise_new {d lo : Int} {xs : List Int} {i e : Nat} (h : riseB d lo xs = true) (hi : i < xs.length) (he : xs.getD i 0 = (e : Int)) : hasB (xs.take i) e = false := decide_eq_false fun hm => by
  have := rise_up h hi _ hm
  omega

theorem rise_at {d lo : Int} {xs : List Int} {i : Nat} (h : riseB d lo xs = true) (hi : i < xs.length) : lo ≤ xs.getD i 0 ∧ xs.getD i 0 < d :=
  rise_mem h (xs.getD i 0) (by rw [List.getD, List.getElem?_eq_getElem hi, Option.getD_some]; exact List.getElem_mem hi)

/-- A list's row of sums, with the depth of place i under way. -/
def nxF (m : Int) (xs : List Int) (fk : Nat → Nat) (dn i e t j : Nat) : Value :=
  if j = e then .int .i64 (scS m e fk t : Int) else .int .i64 ((if hasB (xs.take i) j then scS m j fk dn else 0 : Nat) : Int)

theorem nxF_start {m : Int} {xs : List Int} {fk : Nat → Nat} {dn i e : Nat} {d : Int} (h : riseB d 0 xs = true) (hi : i < xs.length) (he : xs.getD i 0 = (e : Int)) (j : Nat) : Value.int .i64 ((if hasB (xs.take i) j then scS m j fk dn else 0 : Nat) : Int) = nxF m xs fk dn i e 0 j := by
  unfold nxF
  by_cases hj : j = e
  · subst hj; rw [if_pos rfl, rise_new h hi he]; rfl
  · rw [if_neg hj]

theorem nxF_end {m : Int} {xs : List Int} {fk : Nat → Nat} {dn i e : Nat} (hi : i < xs.length) (he : xs.getD i 0 = (e : Int)) (j : Nat) : nxF m xs fk dn i e dn j = Value.int .i64 ((if hasB (xs.take (i + 1)) j then scS m j fk dn else 0 : Nat) : Int) :=
  longer_step (g := fun j => scS m j fk dn) hi he rfl

theorem nxF_same {m : Int} {xs : List Int} {fk : Nat → Nat} {dn i e t : Nat} (h : closeB m e t = false) (j : Nat) : nxF m xs fk dn i e t j = nxF m xs fk dn i e (t + 1) j := by
  unfold nxF
  rw [scS, h]
  rfl

theorem nxF_more {m : Int} {xs : List Int} {fk : Nat → Nat} {dn i e t : Nat} {z : Int} (h : closeB m e t = true) (hz : z = (scS m e fk t + fk t : Nat)) (j : Nat) : (if j = e then Value.int .i64 z else nxF m xs fk dn i e t j) = nxF m xs fk dn i e (t + 1) j := by
  unfold nxF
  by_cases hj : j = e
  · rw [if_pos hj, if_pos hj, hz, scS, h, if_pos rfl]
  · rw [if_neg hj, if_neg hj, if_neg hj]

theorem scS_le9 {m : Int} {e B t : Nat} {f : Nat → Nat} (h : ∀ j, f j ≤ B) (ht : t ≤ 9) : scS m e f t ≤ 9 * B := Nat.le_trans (scS_le h t) (Nat.mul_le_mul_right _ ht)

theorem ret_pair {x y : Int} {b c : Bool} (h1 : x = y) (h2 : b = c) : Ending.returned (.tuple #[.int .i64 x, .bool b]) = .returned (.tuple #[.int .i64 y, .bool c]) := by rw [h1, h2]

set_option maxRecDepth 100000 in
set_option maxHeartbeats 8000000 in
theorem specSmoothKeys_any (d m : Int) (A : Option Addr) (n c : Nat) (ks : List (List Int)) (w : World) (hm : n + lensAt ks n ≤ 1048576) (hnc : n ≤ c) (hA : KnobsA w A n ks) :
    Calls Try.prog 64 #[.agg #[.int .i64 d, .slice A n c], .int .i64 m] w fun e w' => e = .returned (.tuple #[.int .i64 (smZ d m ks), .bool (smB d m ks)]) ∧ Below w.heap.size w w' := by
  have HB0 := Lib.hid (show Below w.heap.size w (w.alloc (.cells #[.int .i64 d, .slice A n c] 27)) from (Below.refl _ _).alloc (Nat.le_refl _) _)
  have CU := Lib.hid (Cells.new (W := w) (cs := #[.int .i64 d, .slice A n c]) (t := 27) (g := w.heap.size) (n := 2) rfl rfl)
  have l0 : (w.alloc (.cells #[.int .i64 d, .slice A n c] 27)).cell? ⟨w.heap.size, 0, none⟩ = some (.int .i64 d) := CU.out.cell (show 0 < 2 by omega)
  have l1 : (w.alloc (.cells #[.int .i64 d, .slice A n c] 27)).cell? ⟨w.heap.size, 1, none⟩ = some (.slice A n c) := CU.out.cell (show 1 < 2 by omega)
  have HA := Lib.hid hA
  have HN := Lib.hid hA.len
  clear hA
  obtain ⟨v1, HV1⟩ : ∃ v, Hid (pinsB d ks = v) := ⟨_, Lib.hid rfl⟩
  obtain ⟨v2, HV2⟩ : ∃ v, Hid (inB m 0 9 = v) := ⟨_, Lib.hid rfl⟩
  have HSB : Hid (smB d m ks = (v1 && v2)) := Lib.hid (by unfold smB; rw [HV1.out, HV2.out])
  have HSZ : Hid (smB d m ks = false → smZ d m ks = 0) := Lib.hid (fun h => by unfold smZ; rw [h]; rfl)
  rcases v1 with _ | _
  · rw [HSZ.out (by rw [HSB.out]; rfl), HSB.out]
    go_enter Try.func64, Try.ntmps64
    go_wp2_with (go_at_call 67; refine (keGood_any _ _ _ _ ks _ hm (HA.out.below HB0.out)).mono ?_; rw [HV1.out]; rintro e w1 ⟨rfl, hb1⟩)
    go_ret2
    exact ⟨rfl, bel_call HB0.out hb1⟩
  · rcases v2 with _ | _
    · rw [HSZ.out (by rw [HSB.out]; rfl), HSB.out]
      go_enter Try.func64, Try.ntmps64
      go_wp2_with (first
        | (go_at_call 67; refine (keGood_any _ _ _ _ ks _ hm (HA.out.below HB0.out)).mono ?_; rw [HV1.out]; rintro e w1 ⟨rfl, hb1⟩)
        | (go_at_call 81; refine (l1In_any _ _ _ _).mono ?_; rw [HV2.out]; rintro e wq ⟨rfl, hwq⟩; replace hwq := hwq.symm; subst hwq))
      go_ret2
      exact ⟨rfl, bel_call HB0.out hb1⟩
    · obtain ⟨n0, n9, n1, n7, HRK⟩ := pinsB_yes HV1.out
      have HRK := Lib.hid HRK
      obtain ⟨dn, rfl⟩ : ∃ dn : Nat, d = (dn : Int) := ⟨d.toNat, by omega⟩
      have hd9 : dn ≤ 9 := by omega
      have HOUT : Hid (∀ k j, k < n → dn ≤ j → fwN m ks k j = 0) := Lib.hid (fun k j hk hj => fwN_out HV1.out (by rw [HN.out]; exact hk) (by omega))
      have hm9 := of_decide_eq_true HV2.out
      obtain ⟨hm0, hm9⟩ := hm9
      have hn1 : 1 ≤ n := by have := HN.out; omega
      have hn7 : n ≤ 7 := by have := HN.out; omega
      have HZ : Hid (smZ (dn : Int) m ks = (toS (fwN m ks (n - 1)) 0 dn : Int)) := Lib.hid (by unfold smZ; rw [HSB.out, HN.out, toS_cut hd9 (fun j hj => HOUT.out (n - 1) j (by omega) hj)]; rfl)
      rw [HZ.out, HSB.out]
      clear HZ HSZ HSB n1 n7 n0 n9
      obtain ⟨b, off, rfl, hb, hc⟩ := HA.out.at_.resolve_left (by omega)
      have HC := Lib.hid hc
      obtain ⟨A0, c0, z0', hl0, hI0⟩ := hc 0 (by omega)
      rw [Nat.add_zero] at z0'
      have HI0 := Lib.hid hI0
      have HS0 := Lib.hid (HRK.out 0 (by rw [HN.out]; omega)).2
      have HF0 : Hid (∀ j, fwN m ks 0 j = if hasB (ks.getD 0 []) j then 1 else 0) := Lib.hid (fun _ => rfl)
      unfold maxLen at hl0
      obtain ⟨xs0, hx0⟩ : ∃ xs, ks.getD 0 [] = xs := ⟨_, rfl⟩
      rw [hx0] at z0' hl0 HI0 HS0 HF0
      obtain ⟨m0, hml⟩ : ∃ q, xs0.length = q := ⟨_, rfl⟩
      have HML := Lib.hid hml
      rw [hml] at z0' hl0 HI0
      have HZ0 := Lib.hid z0'
      have hmk := make_intsN dn (by omega)
      have hn0 : 0 < n := by omega
      clear hc hI0 hx0 hml z0'
      go_enter Try.func64, Try.ntmps64
      go_wp2_with (first
        | (go_at_call 67; refine (keGood_any _ _ _ _ ks _ hm (HA.out.below HB0.out)).mono ?_; rw [HV1.out]; rintro e w1 ⟨rfl, hb1⟩
           have HB1 := Lib.hid (bel_call HB0.out hb1)
           have HC1 := Lib.hid (CU.out.call hb1)
           have q0 : w1.cell? ⟨w.heap.size, 0, none⟩ = some (.int .i64 (dn : Int)) := HC1.out.cell (show 0 < 2 by omega)
           have HCP := Lib.hid (HC1.out.alloc (.cells (madeCells #[.int .i64 0] dn) 3))
           have HBP := Lib.hid (HB1.out.alloc HB1.out.size (.cells (madeCells #[.int .i64 0] dn) 3))
           have HMP := Lib.hid (Cells.made w1 (.int .i64 0) dn 3)
           have q1 : (w1.alloc (.cells (madeCells #[.int .i64 0] dn) 3)).cell? ⟨w.heap.size, 1, none⟩ = some (.slice (some ⟨b, off, none⟩) n c) := HCP.out.cell (show 1 < 2 by omega)
           have q2 : (w1.alloc (.cells (madeCells #[.int .i64 0] dn) 3)).cell? ⟨b, off, none⟩ = some (.slice A0 m0 c0) := by rw [HBP.out.cell (p := ⟨b, off, none⟩) hb]; exact HZ0.out
           have hgw : w.heap.size < w1.heap.size := by have := HC1.out.lt; omega
           clear hb1 l0 l1)
        | (go_at_call 81; refine (l1In_any _ _ _ _).mono ?_; rw [HV2.out]; rintro e wq ⟨rfl, hwq⟩; replace hwq := hwq.symm; subst hwq))
      obtain ⟨g, hg⟩ : ∃ g, w1.heap.size = g := ⟨_, rfl⟩
      have HCP := Lib.hid HCP.out
      rw [hg] at HMP hgw ⊢
      go_loopw [35] (fun iv wr => ∃ i : Nat, i ≤ m0 ∧ iv = .int .i64 i ∧ Cells wr w.heap.size 2 (pF (dn : Int) (.slice (some ⟨b, off, none⟩) n c)) ∧ Cells wr g dn (fun j => .int .i64 ((if hasB (xs0.take i) j then 1 else 0 : Nat) : Int)) ∧ Below w.heap.size w wr) (fun iv _ => m0 - (intOf iv).toNat)
      case atStart => exact ⟨0, by omega, rfl, HCP.out, HMP.out.congr (fun j _ => rfl), HBP.out⟩
      case round =>
        clear HCP HMP HBP HB1 HC1 q0 q1 q2
        obtain ⟨i, hi, rfl, hP, hE, hB⟩ := hrel
        have HP := Lib.hid hP
        have HE := Lib.hid hE
        have HB := Lib.hid hB
        clear hP hE hB
        by_cases hlt : i < m0
        · obtain ⟨b1, off1, rfl, hb1, hc1⟩ := (HI0.out.below HB.out).at_.resolve_left (by omega)
          have o1 := hc1 i hlt
          have hx := rise_at HS0.out (i := i) (by rw [HML.out]; exact hlt)
          obtain ⟨e, he⟩ : ∃ e : Nat, xs0.getD i 0 = (e : Int) := ⟨(xs0.getD i 0).toNat, by omega⟩
          have HEE := Lib.hid he
          rw [he] at o1 hx
          have he9 : e < dn := by omega
          have p1 := HE.out.cell he9
          have p2 := HE.out.frozen he9
          have HEN := Lib.hid ((HE.out.set_ he9 (.int .i64 1)).congr (fun j _ => ending_step (by rw [HML.out]; exact hlt) HEE.out))
          have HPN := Lib.hid (HP.out.far (p := ⟨g, e, none⟩) (by show g ≠ w.heap.size; omega) (.int .i64 1))
          clear hc1 he hx
          go_wp2_with fail
          go_roundw
          case rel => exact ⟨i + 1, by omega, by go_num, HPN.out, HEN.out, HB.out.setCell (by show w.heap.size ≤ g; omega) _⟩
          case measure => simp [intOf]; omega
        · obtain rfl : i = m0 := by omega
          have HE0 := Lib.hid (HE.out.congr (f' := fun j => .int .i64 (fwN m ks 0 j : Int)) (fun j _ => by rw [HF0.out, List.take_of_length_le (by rw [HML.out]; exact Nat.le_refl _)]))
          have l1 : wr.cell? ⟨w.heap.size, 1, none⟩ = some (.slice (some ⟨b, off, none⟩) n c) := HP.out.cell (show 1 < 2 by omega)
          clear HE
          have HFS : Hid (∀ k j, k < n → fwN m ks (k + 1) j = if hasB (ks.getD (k + 1) []) j then scS m j (fwN m ks k) dn else 0) := Lib.hid (fun k j hk => by rw [fwN, scS_cut hd9 (fun j hj => HOUT.out k j hk hj)])
          go_wp2_with fail
          · rename_i hc1
            obtain rfl : n = 1 := by omega
            go_loopw [6, 47] (fun wv iv wr => wv = .slice (some ⟨g, 0, none⟩) dn dn ∧ iv = .int .i64 ((0 : Nat) : Int) ∧ Cells wr g dn (fun j => .int .i64 (fwN m ks 0 j : Int)) ∧ Below w.heap.size w wr) (fun _ _ _ => 0)
            case atStart => exact ⟨rfl, rfl, HE0.out, HB.out⟩
            case round =>
              clear HE0 HB HP l1
              obtain ⟨rfl, rfl, hE, hB⟩ := hrel
              have HE := Lib.hid hE
              have HB := Lib.hid hB
              have HP := Lib.hid trivial
              clear hE hB
              have hk1 : ∃ k : Nat, k = 0 := ⟨0, rfl⟩
              obtain ⟨k, hk1⟩ := hk1
              · obtain rfl : k = 0 := hk1
                have HFT : Hid (∀ j, fwN m ks (1 - 1) j ≤ 4782969) := Lib.hid (fun j => Nat.le_trans (fwN_le _ j) (pow9_le' (by omega)))
                obtain ⟨f, hf⟩ : ∃ f, fwN m ks (1 - 1) = f := ⟨_, rfl⟩
                have HFF := Lib.hid hf
                rw [hf] at HE HFT
                clear hf
                go_wp2_with fail
                go_loopw [16, 86] (fun sv tv wr => ∃ t : Nat, t ≤ dn ∧ tv = .int .i64 t ∧ sv = .int .i64 (toS f 0 t : Int) ∧ Cells wr g dn (fun j => .int .i64 (f j : Int)) ∧ Below w.heap.size w wr) (fun _ tv _ => dn - (intOf tv).toNat)
                case atStart => exact ⟨0, by omega, rfl, rfl, HE.out, HB.out⟩
                case round =>
                  clear HE HB HP
                  obtain ⟨t, ht, rfl, rfl, hE, hB⟩ := hrel
                  have HE := Lib.hid hE
                  have HB := Lib.hid hB
                  clear hE hB
                  by_cases hltt : t < dn
                  · have o1 := HE.out.cell hltt
                    have hb1 := HFT.out t
                    have hb2 := toS_le (lo := 0) HFT.out t
                    have hb3 : t * 4782969 ≤ 9 * 4782969 := Nat.mul_le_mul_right _ (by omega)
                    have HX : Hid (toS f 0 (t + 1) = toS f 0 t + f t) := Lib.hid (by rw [toS, Nat.zero_add])
                    generalize f t = x at o1 hb1 HX
                    generalize toS f 0 t = z at hb2 HX
                    go_wp2_with fail
                    go_roundw
                    case rel => exact ⟨t + 1, by omega, by go_num, congrArg (Value.int .i64) (by rw [HX.out]; omega), HE.out, HB.out⟩
                    case measure => simp [intOf]; omega
                  · obtain rfl : t = dn := by omega
                    go_wp2_with fail
                    go_ret2
                    exact ⟨ret_pair (by rw [HFF.out]) rfl, HB.out⟩
          · rename_i hc1
            have hnp : n - 1 < n := by omega
            have hg0 : w.heap.size < g := hgw
            obtain ⟨gI, hgI⟩ : ∃ gI, gI = g := ⟨g, rfl⟩
            subst hgI
            go_loopw [6, 47] (fun wv iv wr => ∃ (k g : Nat), k ≤ n - 1 ∧ wv = .slice (some ⟨g, 0, none⟩) dn dn ∧ iv = .int .i64 k ∧ w.heap.size < g ∧ Cells wr w.heap.size 2 (pF (dn : Int) (.slice (some ⟨b, off, none⟩) n c)) ∧ Cells wr g dn (fun j => .int .i64 (fwN m ks k j : Int)) ∧ Below w.heap.size w wr) (fun _ iv _ => (n - 1) - (intOf iv).toNat)
            case atStart => exact ⟨0, gI, by omega, rfl, rfl, hg0, HP.out, HE0.out, HB.out⟩
            case round =>
              clear HE0 HB HP l1 hgw hg0 HI0 HS0 HF0 HML hmk
              obtain ⟨k, g, hk, rfl, rfl, hgw, hP, hE, hB⟩ := hrel
              have hmk := make_intsN dn (by omega)
              have HP := Lib.hid hP
              have HE := Lib.hid hE
              have HB := Lib.hid hB
              have hEz := hE.lt
              clear hP hE hB
              by_cases hlt1 : k < n - 1
              · obtain ⟨Ak, ck, z1', hl1, hI1⟩ := HC.out (k + 1) (by omega)
                have z1 : wr.cell? ⟨b, off + 1 + k, none⟩ = some (.slice Ak (ks.getD (k + 1) []).length ck) := by
                  rw [HB.out.cell (p := ⟨b, off + 1 + k, none⟩) hb, show off + 1 + k = off + (k + 1) by omega]; exact z1'
                have HI1 := Lib.hid hI1
                have HS1 := Lib.hid (HRK.out (k + 1) (by rw [HN.out]; omega)).2
                have HFK := Lib.hid (fun j => HFS.out k j (by omega))
                have HFB := Lib.hid (fun j => fwN_le (m := m) (ks := ks) k j)
                unfold maxLen at hl1
                obtain ⟨xs1, hx1⟩ : ∃ xs, ks.getD (k + 1) [] = xs := ⟨_, rfl⟩
                rw [hx1] at z1 hl1 HI1 HS1 HFK
                obtain ⟨m1, hml1⟩ : ∃ q, xs1.length = q := ⟨_, rfl⟩
                have HML1 := Lib.hid hml1
                rw [hml1] at z1 hl1 HI1
                clear z1' hI1 hx1 hml1
                obtain ⟨fk, hfk⟩ : ∃ f, fwN m ks k = f := ⟨_, rfl⟩
                rw [hfk] at HE HFK HFB
                have HFB2 : Hid (∀ j, fk j ≤ 531441) := Lib.hid (fun j => Nat.le_trans (HFB.out j) (Nat.le_trans (Nat.pow_le_pow_right (by decide) (show k ≤ 6 by omega)) (by decide)))
                have HFE := Lib.hid hfk
                clear hfk HFB
                have q0 : wr.cell? ⟨w.heap.size, 0, none⟩ = some (.int .i64 (dn : Int)) := HP.out.cell (show 0 < 2 by omega)
                obtain ⟨w1, hw1⟩ : ∃ w1, w1 = wr := ⟨wr, rfl⟩
                subst hw1
                have HL0 := Lib.hid (Cells.made w1 (.int .i64 0) dn 3)
                have HE1 := Lib.hid (HE.out.alloc (.cells (madeCells #[.int .i64 0] dn) 3))
                have HP1 := Lib.hid (HP.out.alloc (.cells (madeCells #[.int .i64 0] dn) 3))
                have HB1 := Lib.hid (HB.out.alloc HB.out.size (.cells (madeCells #[.int .i64 0] dn) 3))
                obtain ⟨g2, hg2⟩ : ∃ g2, w1.heap.size = g2 := ⟨_, rfl⟩
                have HG2 := Lib.hid hg2
                have hgg : g < g2 := by omega
                rw [hg2] at HL0
                clear hEz
                go_wp2_with fail
                try rw [HG2.out]
                go_loopw [56] (fun iv wr => ∃ i : Nat, i ≤ m1 ∧ iv = .int .i64 i ∧ Cells wr g2 dn (fun j => .int .i64 ((if hasB (xs1.take i) j then scS m j fk dn else 0 : Nat) : Int)) ∧ Cells wr g dn (fun j => .int .i64 (fk j : Int)) ∧ Cells wr w.heap.size 2 (pF (dn : Int) (.slice (some ⟨b, off, none⟩) n c)) ∧ Below w.heap.size w wr) (fun iv _ => m1 - (intOf iv).toNat)
                case atStart => exact ⟨0, by omega, rfl, HL0.out.congr (fun j _ => rfl), HE1.out, HP1.out, HB1.out⟩
                case round =>
                  clear HL0 HE1 HP1 HB1 HE HP HB q0 z1 hmk HG2 hg2
                  obtain ⟨i, hi, rfl, hL, hE, hP, hB⟩ := hrel
                  have HL := Lib.hid hL
                  have HE := Lib.hid hE
                  have HP := Lib.hid hP
                  have HB := Lib.hid hB
                  clear hL hE hP hB
                  by_cases hlt2 : i < m1
                  · obtain ⟨b1, off1, rfl, hb1, hcc⟩ := (HI1.out.below HB.out).at_.resolve_left (by omega)
                    have o1 := hcc i hlt2
                    have hx := rise_at HS1.out (i := i) (by rw [HML1.out]; exact hlt2)
                    obtain ⟨e, he⟩ : ∃ e : Nat, xs1.getD i 0 = (e : Int) := ⟨(xs1.getD i 0).toNat, by omega⟩
                    have HEE := Lib.hid he
                    rw [he] at o1 hx
                    have he9 : e < dn := by omega
                    clear hcc he hx
                    go_wp2_with fail
                    go_loopw [62] (fun tv wr => ∃ t : Nat, t ≤ dn ∧ tv = .int .i64 t ∧ Cells wr g2 dn (nxF m xs1 fk dn i e t) ∧ Cells wr g dn (fun j => .int .i64 (fk j : Int)) ∧ Cells wr w.heap.size 2 (pF (dn : Int) (.slice (some ⟨b, off, none⟩) n c)) ∧ Below w.heap.size w wr) (fun tv _ => dn - (intOf tv).toNat)
                    case atStart => exact ⟨0, by omega, rfl, HL.out.congr (fun j _ => nxF_start HS1.out (by rw [HML1.out]; exact hlt2) HEE.out j), HE.out, HP.out, HB.out⟩
                    case round =>
                      clear HL HE HP HB o1
                      obtain ⟨t, ht, rfl, hL, hE, hP, hB⟩ := hrel
                      have HL := Lib.hid hL
                      have HE := Lib.hid hE
                      have HP := Lib.hid hP
                      have HB := Lib.hid hB
                      clear hL hE hP hB
                      by_cases hlt3 : t < dn
                      · have o2 := HE.out.cell hlt3
                        obtain ⟨a, ha⟩ : ∃ a : Int, max ((e : Int) - (t : Int)) (-((e : Int) - (t : Int))) = a := ⟨_, rfl⟩
                        have HAB := Lib.hid ha
                        by_cases hcl : a ≤ m
                        · have HCL : Hid (closeB m e t = true) := Lib.hid (decide_eq_true ⟨by omega, by omega⟩)
                          clear ha
                          have p1 : wr.cell? ⟨g2, e, none⟩ = some (.int .i64 (scS m e fk t : Int)) := by rw [HL.out.cell he9, nxF, if_pos rfl]
                          have p2 := HL.out.frozen he9
                          have hb1 := HFB2.out t
                          have hb2 := scS_le9 (m := m) (e := e) HFB2.out (show t ≤ 9 by omega)
                          have HNX : Hid (∀ j, (if j = e then Value.int .i64 ((scS m e fk t : Int) + (fk t : Int)) else nxF m xs1 fk dn i e t j) = nxF m xs1 fk dn i e (t + 1) j) := Lib.hid (nxF_more HCL.out (by omega))
                          generalize fk t = x at o2 hb1 HNX
                          generalize scS m e fk t = z at p1 hb2 HNX
                          have HLN := Lib.hid ((HL.out.set_ he9 (.int .i64 ((z : Int) + (x : Int)))).congr (fun j _ => HNX.out j))
                          have HEN := Lib.hid (HE.out.far (p := ⟨g2, e, none⟩) (by show g2 ≠ g; omega) (.int .i64 ((z : Int) + (x : Int))))
                          have HPN := Lib.hid (HP.out.far (p := ⟨g2, e, none⟩) (by show g2 ≠ w.heap.size; omega) (.int .i64 ((z : Int) + (x : Int))))
                          go_wp2_with (go_at_call 104; refine (l1Abs_any _ _ (by omega)).mono ?_; rw [HAB.out]; rintro e wq ⟨rfl, hwq⟩; replace hwq := hwq.symm; subst hwq)
                          go_roundw
                          case rel => exact ⟨t + 1, by omega, by go_num, HLN.out, HEN.out, HPN.out, HB.out.setCell (by show w.heap.size ≤ g2; omega) _⟩
                          case measure => simp [intOf]; omega
                        · have HCL : Hid (closeB m e t = false) := Lib.hid (decide_eq_false (fun h => by omega))
                          clear ha
                          go_wp2_with (go_at_call 104; refine (l1Abs_any _ _ (by omega)).mono ?_; rw [HAB.out]; rintro e wq ⟨rfl, hwq⟩; replace hwq := hwq.symm; subst hwq)
                          go_roundw
                          case rel => exact ⟨t + 1, by omega, by go_num, HL.out.congr (fun j _ => nxF_same HCL.out j), HE.out, HP.out, HB.out⟩
                          case measure => simp [intOf]; omega
                      · obtain rfl : t = dn := by omega
                        go_wp2_with fail
                        go_roundw
                        case rel => exact ⟨i + 1, by omega, by go_num, HL.out.congr (fun j _ => nxF_end (by rw [HML1.out]; exact hlt2) HEE.out j), HE.out, HP.out, HB.out⟩
                        case measure => simp [intOf]; omega
                  · obtain rfl : i = m1 := by omega
                    have HLF := Lib.hid (HL.out.congr (f' := fun j => .int .i64 (fwN m ks (k + 1) j : Int)) (fun j _ => by rw [HFK.out, List.take_of_length_le (by rw [HML1.out]; exact Nat.le_refl _)]))
                    go_wp2_with fail
                    go_roundw
                    case rel => exact ⟨k + 1, g2, by omega, rfl, by go_num, by omega, HP.out, HLF.out, HB.out⟩
                    case measure => simp [intOf]; omega
              · obtain rfl : k = n - 1 := by omega
                have HFT : Hid (∀ j, fwN m ks (n - 1) j ≤ 4782969) := Lib.hid (fun j => Nat.le_trans (fwN_le _ j) (pow9_le' (by omega)))
                obtain ⟨f, hf⟩ : ∃ f, fwN m ks (n - 1) = f := ⟨_, rfl⟩
                have HFF := Lib.hid hf
                rw [hf] at HE HFT
                clear hf
                go_wp2_with fail
                go_loopw [16, 86] (fun sv tv wr => ∃ t : Nat, t ≤ dn ∧ tv = .int .i64 t ∧ sv = .int .i64 (toS f 0 t : Int) ∧ Cells wr g dn (fun j => .int .i64 (f j : Int)) ∧ Below w.heap.size w wr) (fun _ tv _ => dn - (intOf tv).toNat)
                case atStart => exact ⟨0, by omega, rfl, rfl, HE.out, HB.out⟩
                case round =>
                  clear HE HB HP
                  obtain ⟨t, ht, rfl, rfl, hE, hB⟩ := hrel
                  have HE := Lib.hid hE
                  have HB := Lib.hid hB
                  clear hE hB
                  by_cases hltt : t < dn
                  · have o1 := HE.out.cell hltt
                    have hb1 := HFT.out t
                    have hb2 := toS_le (lo := 0) HFT.out t
                    have hb3 : t * 4782969 ≤ 9 * 4782969 := Nat.mul_le_mul_right _ (by omega)
                    have HX : Hid (toS f 0 (t + 1) = toS f 0 t + f t) := Lib.hid (by rw [toS, Nat.zero_add])
                    generalize f t = x at o1 hb1 HX
                    generalize toS f 0 t = z at hb2 HX
                    go_wp2_with fail
                    go_roundw
                    case rel => exact ⟨t + 1, by omega, by go_num, congrArg (Value.int .i64) (by rw [HX.out]; omega), HE.out, HB.out⟩
                    case measure => simp [intOf]; omega
                  · obtain rfl : t = dn := by omega
                    go_wp2_with fail
                    go_ret2
                    exact ⟨ret_pair (by rw [HFF.out]) rfl, HB.out⟩

end Go.Proofs.Ytgcadcekkojidaa
