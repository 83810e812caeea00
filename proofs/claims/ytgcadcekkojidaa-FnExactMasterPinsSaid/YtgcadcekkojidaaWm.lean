/- A list of pins of the call's own, marked. For at most 1048576 numbers. -/
import Derived.Test.YtgcadcekkojidaaVw
import Derived.Test.YtgcadcekkojidaaVu
namespace Go.Proofs.Ytgcadcekkojidaa
open Go.ChangeShapes Go.WideShapes Go.ChangeAt Go.RowKit Go.Joins

theorem GridT.marks {w : World} {g n : Nat} {ks : List (List Int)} {G : Nat → Nat} (h : GridT w g n ks G) : KnobsD w g n (lenL ks) (lenL ks) G (fun k => digF (ks.getD k [])) :=
  ⟨h.top, fun k hk => ⟨by have := (h.row k hk).1; omega, (h.row k hk).2⟩, fun i k hi hk hne => by
    rcases Nat.lt_or_gt_of_ne hne with h1 | h1
    · have := h.up i k h1 hk; omega
    · have := h.up k i h1 hi; omega⟩

theorem GridT.far0 {w : World} {g n : Nat} {ks : List (List Int)} {G : Nat → Nat} (h : GridT w g n ks G) {p : Addr} (h1 : p.block ≠ g) (h2 : ∀ k, k < n → p.block ≠ G k) (x : Value) : GridT (w.setCell p x) g n ks G :=
  ⟨h.top.far h1 x, fun k hk => ⟨(h.row k hk).1, (h.row k hk).2.far (h2 k hk) x⟩, h.up⟩

theorem KnobsD.far0 {w : World} {g n : Nat} {L Cp G : Nat → Nat} {f : Nat → Nat → Value} (h : KnobsD w g n L Cp G f) {p : Addr} (h1 : p.block ≠ g) (h2 : ∀ k, k < n → p.block ≠ G k) (x : Value) : KnobsD (w.setCell p x) g n L Cp G f :=
  ⟨h.top.far h1 x, fun k hk => ⟨(h.row k hk).1, (h.row k hk).2.far (h2 k hk) x⟩, h.apart⟩

/-- The rows from k on stand; the slices of all still lie at the top. -/
structure PinsM (w : World) (g n k : Nat) (ps : List Pn) (Gp : Nat → Nat) (GG : Nat → Nat → Nat) : Prop where
  top : ∃ f, Cells w g (n * 2) f ∧ ∀ j, j < n → f (j * 2 + 1) = .slice (some ⟨Gp j, 0, none⟩) (ps.getD j pn0).2.length (ps.getD j pn0).2.length
  row : ∀ j, k ≤ j → j < n → GridT w (Gp j) (ps.getD j pn0).2.length (ps.getD j pn0).2 (GG j)

theorem PinsT.marks {w : World} {g n : Nat} {ps : List Pn} {Gp : Nat → Nat} {GG : Nat → Nat → Nat} (h : PinsT w g n ps Gp GG) : PinsM w g n 0 ps Gp GG :=
  ⟨⟨_, h.top, fun j _ => pnF_1 ps Gp j⟩, fun j _ hj => (h.row j hj).2⟩

set_option maxHeartbeats 2000000 in
theorem markPinsS_any (g n c hi : Nat) (ps : List Pn) (Gp : Nat → Nat) (GG : Nat → Nat → Nat) (w : World) (hm : n + pnS ps n ≤ 1048576) (hD : PinsM w g n 0 ps Gp GG)
    (hr : ∀ k, k < n → g < Gp k ∧ Gp k < hi ∧ ∀ x, x < (ps.getD k pn0).2.length → g < GG k x ∧ GG k x < hi)
    (hx : ∀ i k, i < k → k < n → Gp i < Gp k ∧ ∀ x, x < (ps.getD i pn0).2.length → GG i x < Gp k) (hx2 : ∀ k, k < n → ∀ x, x < (ps.getD k pn0).2.length → Gp k < GG k x) (hgh : g < hi) :
    Calls Try.prog 47 #[.slice (some ⟨g, 0, none⟩) n c, .int .i64 1] w fun e w' => (∃ m : Nat, e = .returned (.int .i64 (m : Int))) ∧ w.heap.size ≤ w'.heap.size ∧ Below g w w' ∧ ∀ g' m f', ¬ (g ≤ g' ∧ g' < hi) → Cells w g' m f' → Cells w' g' m f' := by
  have HD := Lib.hid hD
  have HR := Lib.hid hr
  have HX := Lib.hid hx
  have HX2 := Lib.hid hx2
  have hn2 : n ≤ 1048576 := by omega
  have HM := Lib.hid hm
  clear hD hr hx hx2 hm
  go_enter Try.func47, Try.ntmps47
  go_wp2_with fail
  go_loopw [1, 5] (fun mv iv wr => ∃ k s : Nat, k ≤ n ∧ iv = .int .i64 k ∧ mv = .int .i64 (s : Int) ∧ s ≤ 1 + k + pnS ps k ∧ PinsM wr g n k ps Gp GG ∧ w.heap.size ≤ wr.heap.size ∧ Below g w wr ∧ ∀ g' m f', ¬ (g ≤ g' ∧ g' < hi) → Cells w g' m f' → Cells wr g' m f') (fun _ iv _ => n - (intOf iv).toNat)
  case atStart => exact ⟨0, 1, by omega, rfl, rfl, by omega, HD.out, Nat.le_refl _, Below.refl _ _, fun _ _ _ _ h => h⟩
  case round =>
    clear HD
    obtain ⟨k, s, hk, rfl, rfl, hs, hP, hz, hB, hO⟩ := hrel
    have HP := Lib.hid hP
    have HB := Lib.hid hB
    have HO := Lib.hid hO
    clear hP hB hO
    by_cases hlt : k < n
    · obtain ⟨f, hC, hf⟩ := HP.out.top
      have HC := Lib.hid hC
      have HF := Lib.hid hf
      clear hC hf
      have hs2 : s + 1 ≤ 1048577 := by
        have h1 := pnS_le (ps := ps) (show k ≤ n by omega)
        have h2 := HM.out
        omega
      have hrow := HP.out.row k (Nat.le_refl _) hlt
      obtain ⟨r1, r2, r3⟩ := HR.out k hlt
      have HKD := Lib.hid (hrow.marks.far0 (p := ⟨g, k * 2, none⟩) (by show g ≠ Gp k; omega) (fun x hx => by have := (r3 x hx).1; show g ≠ GG k x; omega) (.int .i64 (s : Int)))
      have hfew : (ps.getD k pn0).2.length + sumL (lenL (ps.getD k pn0).2) (ps.getD k pn0).2.length ≤ 1048576 := by
        rw [sumL_lens]
        have h1 := pnS_le (ps := ps) (show k + 1 ≤ n by omega)
        rw [pnS] at h1
        have h2 := HM.out
        omega
      have HS2 : Hid (s + 1 + sumL (lenL (ps.getD k pn0).2) (ps.getD k pn0).2.length ≤ 1 + (k + 1) + pnS ps (k + 1)) := Lib.hid (by rw [sumL_lens, pnS]; omega)
      have HFW := Lib.hid hfew
      have p2 := HC.out.frozen (show k * 2 < n * 2 by omega)
      have p1 := HC.out.cell (show k * 2 < n * 2 by omega)
      have q1 : wr.cell? ⟨g, k * 2 + 1, none⟩ = some (.slice (some ⟨Gp k, 0, none⟩) (ps.getD k pn0).2.length (ps.getD k pn0).2.length) := by rw [HC.out.cell (show k * 2 + 1 < n * 2 by omega), HF.out k hlt]
      have HCN := Lib.hid (HC.out.set_ (show k * 2 < n * 2 by omega) (.int .i64 (s : Int)))
      have HOR := Lib.hid (fun j (hj : k + 1 ≤ j) (hjn : j < n) => (HP.out.row j (by omega) hjn).far0 (p := ⟨g, k * 2, none⟩) (by have := (HR.out j hjn).1; show g ≠ Gp j; omega) (fun x hx => by have := ((HR.out j hjn).2.2 x hx).1; show g ≠ GG j x; omega) (.int .i64 (s : Int)))
      have HBN := Lib.hid (HB.out.setCell (p := ⟨g, k * 2, none⟩) (by show g ≤ g; omega) (.int .i64 (s : Int)))
      have HON := Lib.hid (fun g' m f' (hn : ¬ (g ≤ g' ∧ g' < hi)) (hC : Cells w g' m f') => (HO.out g' m f' hn hC).far (p := ⟨g, k * 2, none⟩) (by show g ≠ g'; omega) (.int .i64 (s : Int)))
      clear hfew hrow HC HP HB HO
      go_wp2_with (go_at_call 79; refine (markIntSS_from _ _ _ (s + 1) _ _ _ _ _ hs2 HFW.out HKD.out).mono ?_; rintro e w2 ⟨rfl, m1, m2, m3, m4⟩)
      go_roundw
      case rel =>
        refine ⟨k + 1, _, by omega, by go_num, rfl, HS2.out, ⟨⟨_, m4 g _ _ (fun x hx => by have := (r3 x hx).1; omega) HCN.out, fun j hj => by rw [if_neg (by omega)]; exact HF.out j hj⟩, fun j hj hjn => ?_⟩, by rw [World.size_setCell] at m2; omega, (HBN.out).trans (m3 g (fun x hx => by have := (r3 x hx).1; omega)), fun g' m f' hn hC => m4 g' m f' (fun x hx e => hn (by have := r3 x hx; omega)) (HON.out g' m f' hn hC)⟩
        have hj2 := HOR.out j hj hjn
        refine ⟨m4 _ _ _ (fun x hx => by have := (HX.out k j (by omega) hjn).2 x hx; omega) hj2.top, fun y hy => ⟨(hj2.row y hy).1, m4 _ _ _ (fun x hx => by have h1 := (HX.out k j (by omega) hjn).2 x hx; have h2 := HX2.out j hjn y hy; omega) (hj2.row y hy).2⟩, hj2.up⟩
      case measure => simp [intOf]; omega
    · obtain rfl : k = n := by omega
      go_wp2_with fail
      go_ret
      exact ⟨⟨s, rfl⟩, hz, HB.out, HO.out⟩

theorem has_ne {xs : List Int} {e : Nat} (h : hasB xs e = true) : xs.length ≠ 0 := by
  have := of_decide_eq_true h
  intro h0
  rw [List.length_eq_zero_iff.1 h0] at this
  cases this

theorem head_mem {xs : List Int} (h : xs.length ≠ 0) : xs.getD 0 0 ∈ xs := by
  cases xs with
  | nil => exact absurd rfl h
  | cons x xs => exact List.mem_cons_self

theorem cbN_has {ps : List Pn} (h : pinsB (ps.getD 0 pn0).1 (ps.getD 0 pn0).2 = true) {i : Nat} (hi : i < (ps.getD 0 pn0).2.length) (k : Nat) : ∃ e : Nat, e < (ps.getD 0 pn0).1.toNat ∧ hasB ((cbN (fun x y => x || y) ps k).getD i []) e = true := by
  induction k with
  | zero =>
    obtain ⟨_, _, _, _, h5⟩ := pinsB_yes h
    obtain ⟨h6, h7⟩ := h5 i hi
    have h8 := rise_mem h7 _ (head_mem h6)
    refine ⟨(((ps.getD 0 pn0).2.getD i []).getD 0 0).toNat, by omega, decide_eq_true ?_⟩
    rw [Int.toNat_of_nonneg h8.1]
    exact head_mem h6
  | succ k ih =>
    obtain ⟨e, h1, h2⟩ := ih
    refine ⟨e, h1, ?_⟩
    rw [cbN, jnL, rwL_at hi, lsN_has h1, h2, Bool.true_or]

theorem cbK_ne {ps : List Pn} : ∀ i, i < (cbK (fun x y => x || y) ps).length → ((cbK (fun x y => x || y) ps).getD i []).length ≠ 0 := by
  intro i hi
  by_cases h : listB ps = true
  · rw [cbK_yes h] at hi ⊢
    obtain ⟨l1, _, lk⟩ := listB_yes h
    rw [cbN_length] at hi
    obtain ⟨e, _, h2⟩ := cbN_has (okP_yes (lk 0 l1)).1 hi ps.length
    exact has_ne h2
  · rw [Bool.not_eq_true] at h
    rw [cbK_no h] at hi
    cases hi

theorem cbK_size {f : Bool → Bool → Bool} {ps : List Pn} : (cbK f ps).length + lensAt (cbK f ps) (cbK f ps).length ≤ 1048576 := by
  have h1 := cbK_len (f := f) (ps := ps)
  have h2 := lens_nine (cbK_nine (f := f) (ps := ps)) (cbK f ps).length
  omega

end Go.Proofs.Ytgcadcekkojidaa
