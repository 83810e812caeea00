/- The smooth key of a rank, by the program. No conditions. -/
import Derived.Test.YtaajklkldfgppaaZk
namespace Go.Proofs.Ytaajklkldfgppaa
set_option maxRecDepth 100000
open Go.ChangeShapes Go.WideShapes Go.ChangeAt Go.RowKit Go.Joins

set_option maxHeartbeats 2000000 in
theorem smoothOfRank_no (d n m r : Int) (w : World) (h : soB d n m r = false) :
    Calls Try.prog 23 #[.int .i64 d, .int .i64 n, .int .i64 m, .int .i64 r] w fun e w' => e = .returned (.tuple #[.string (soS d n m r), .bool (soB d n m r)]) ∧ Below w.heap.size w w' := by
  have HV : Hid (soS d n m r = ⟨#[]⟩ ∧ soB d n m r = false) := Lib.hid ⟨by unfold soS; rw [h]; rfl, h⟩
  unfold soB at h
  obtain ⟨x, hx⟩ : ∃ x, cmB d n m = x := ⟨_, rfl⟩
  obtain ⟨z, hz⟩ : ∃ z, cmZ d n m = z := ⟨_, rfl⟩
  have HX := Lib.hid hx
  have HZ := Lib.hid hz
  rw [hx, hz] at h
  clear hx hz
  rcases x with _ | _
  · clear h
    go_enter Try.func23, Try.ntmps23
    go_wp2_with (go_at_call 49; refine (countSmoothF_any _ _ _ _).mono ?_; rw [HX.out, HZ.out]; rintro e w1 ⟨rfl, hb1⟩)
    go_ret2
    rw [HV.out.1, HV.out.2]
    exact ⟨rfl, hb1⟩
  have h2 : r < 0 ∨ z ≤ r := by
    by_cases h0 : 0 ≤ r
    · by_cases h1 : r < z
      · rw [decide_eq_true h0, decide_eq_true h1] at h; cases h
      · omega
    · omega
  clear h
  by_cases h0 : r < 0
  · clear h2
    go_enter Try.func23, Try.ntmps23
    go_wp2_with (go_at_call 49; refine (countSmoothF_any _ _ _ _).mono ?_; rw [HX.out, HZ.out]; rintro e w1 ⟨rfl, hb1⟩)
    go_ret2
    rw [HV.out.1, HV.out.2]
    exact ⟨rfl, hb1⟩
  have h3 : z ≤ r := by omega
  clear h2
  go_enter Try.func23, Try.ntmps23
  go_wp2_with (go_at_call 49; refine (countSmoothF_any _ _ _ _).mono ?_; rw [HX.out, HZ.out]; rintro e w1 ⟨rfl, hb1⟩)
  go_ret2
  rw [HV.out.1, HV.out.2]
  exact ⟨rfl, hb1⟩

theorem soB_yes {d n m r : Int} (h : soB d n m r = true) : cmB d n m = true ∧ 0 ≤ r ∧ r < cmZ d n m := by
  unfold soB at h
  simp only [Bool.and_eq_true, decide_eq_true_eq] at h
  exact ⟨h.1.1, h.1.2, h.2⟩

theorem soS_yes {dn n r : Nat} {m : Int} (h : soB (dn : Int) (n : Int) m (r : Int) = true) : soS (dn : Int) (n : Int) m (r : Int) = textOf (skI m dn n r n) ∧ r < toS (gwN m dn (n - 1)) 0 dn ∧ cmZ (dn : Int) (n : Int) m = (toS (gwN m dn (n - 1)) 0 dn : Nat) := by
  obtain ⟨h1, h2, h3⟩ := soB_yes h
  have e : cmZ (dn : Int) (n : Int) m = (toS (gwN m dn (n - 1)) 0 dn : Nat) := by unfold cmZ; rw [h1, if_pos rfl, Int.toNat_natCast, Int.toNat_natCast]
  refine ⟨?_, by omega, e⟩
  unfold soS
  rw [h, if_pos rfl, Int.toNat_natCast, Int.toNat_natCast, Int.toNat_natCast]

/-- A row of lists none of which lies in the block X. -/
structure RowX (X : Nat) (w : World) (B : Nat) (v : Value) (ks : List (List Int)) : Prop where
  own : ∃ (G : Nat → Nat) (vs : List Value), vs.length = ks.length ∧ w.ownsRow B 49 1 v ks.length vs ∧ (∀ i, i < ks.length → ∃ A c, vs[i]? = some (.slice A (ks.getD i []).length c) ∧ AtV w B v (G i) (ks.getD i []) A) ∧
    (∀ i j, i < ks.length → j < ks.length → i ≠ j → (ks.getD i []).length ≠ 0 → (ks.getD j []).length ≠ 0 → G i ≠ G j) ∧ ∀ i, i < ks.length → (ks.getD i []).length ≠ 0 → G i ≠ X

theorem RowX.row {X : Nat} {w : World} {B : Nat} {v : Value} {ks : List (List Int)} (h : RowX X w B v ks) : RowP w B v ks := by
  obtain ⟨G, vs, h1, h2, h3, h4, _⟩ := h.own
  exact ⟨G, vs, h1, h2, h3, h4⟩

theorem RowP.toX {X : Nat} {w : World} {B : Nat} {v : Value} {ks : List (List Int)} (h : RowP w B v ks) (hX : w.heap.size ≤ X) : RowX X w B v ks := by
  obtain ⟨G, vs, h1, h2, h3, h4⟩ := h.own
  refine ⟨G, vs, h1, h2, h3, h4, fun i hi ni => ?_⟩
  obtain ⟨A, c, _, hc⟩ := h3 i hi
  have := (hc.resolve_left ni).2.2.2.lt
  omega

theorem RowX.call {X : Nat} {w w' : World} {B : Nat} {v : Value} {ks : List (List Int)} (h : RowX X w B v ks) (hb : Below w.heap.size w w') : RowX X w' B v ks := by
  obtain ⟨G, vs, h1, h2, h3, h4⟩ := h.own
  refine ⟨G, vs, h1, rowv_kept h2 hb, fun i hi => ?_, h4⟩
  obtain ⟨A, c, e, hc⟩ := h3 i hi
  exact ⟨A, c, e, hc.imp id fun ⟨a1, a2, a3, a4⟩ => ⟨a1, a2, a3, a4.call hb⟩⟩

/-- A cell of the block X is written. -/
theorem RowX.far {X : Nat} {w : World} {B g0 n c0 : Nat} {ks : List (List Int)} (h : RowX X w B (.slice (some ⟨g0, 0, none⟩) n c0) ks) (hg : g0 ≠ X) (k : Nat) (x : Value) : RowX X (w.setCell ⟨X, k, none⟩ x) B (.slice (some ⟨g0, 0, none⟩) n c0) ks := by
  obtain ⟨G, vs, h1, h2, h3, h4, h5⟩ := h.own
  refine ⟨G, vs, h1, h2.kept (row := some X) ⟨rfl, rfl, rfl, by rw [size_setCell]; exact Nat.le_refl _, fun i _ hne => Below.heap_setCell _ _ _ _ (fun e => hne (by rw [e]))⟩ (.inr (fun e => by
    have e : some g0 = some X := e
    injection e with e
    exact hg e)), fun i hi => ?_, h4, h5⟩
  obtain ⟨A, c, e, hc⟩ := h3 i hi
  refine ⟨A, c, e, ?_⟩
  by_cases n0 : (ks.getD i []).length = 0
  · exact .inl n0
  · have := h5 i hi n0
    exact hc.imp id fun ⟨a1, a2, a3, a4⟩ => ⟨a1, a2, a3, a4.far (fun e => this e.symm) x⟩

theorem RowX.put {X : Nat} {w w2 : World} {B g0 n c0 : Nat} {A' : Option Addr} {ks : List (List Int)} (h : RowX X w B (.slice (some ⟨g0, 0, none⟩) n c0) ks) (hX : X < w.heap.size) (hb : Below w.heap.size w w2) {k g c m : Nat} {xs : List Int} (hk : k < ks.length) (hm : xs.length = m) (hC : m = 0 ∨ (A' = some ⟨g, 0, none⟩ ∧ w.heap.size ≤ g ∧ B ≤ g ∧ Cells w2 g m (digF xs))) :
    RowX X (w2.setCell ⟨g0, k, none⟩ (.slice A' m c)) B (.slice (some ⟨g0, 0, none⟩) n c0) (ks.set k xs) := by
  subst hm
  obtain ⟨G, vs, h1, h2, h3, h4, h5⟩ := h.own
  have hn : n = ks.length := by
    rcases h2.2 with ⟨e, _⟩ | ⟨g', cap, cur, e, _⟩
    · cases e
    · injection e
  subst hn
  have hg0 : g0 < w.heap.size := (h2.lt g0 rfl).2
  have old : ∀ i, i < ks.length → (ks.getD i []).length ≠ 0 → G i < w.heap.size := fun i hi h0 => by
    obtain ⟨A, c, _, hc⟩ := h3 i hi
    exact (hc.resolve_left h0).2.2.2.lt
  have new : xs.length ≠ 0 → w.heap.size ≤ g := fun h0 => (hC.resolve_left h0).2.1
  refine ⟨fun i => if i = k then g else G i, vs.set k (.slice A' xs.length c), by rw [List.length_set, List.length_set, h1], by rw [List.length_set]; exact rowv_set (rowv_kept h2 hb) k _, fun i hi => ?_, fun i j hi hj hij ni nj => ?_, fun i hi ni => ?_⟩
  · rw [List.length_set] at hi
    by_cases e : i = k
    · subst e
      rw [getD_set_eq hi]
      refine ⟨_, c, by rw [List.getElem?_set_self (by omega)], ?_⟩
      show AtV _ B _ (if i = i then g else G i) xs _
      rw [if_pos rfl]
      rcases hC with h0 | ⟨e1, hg, hgB, hC⟩
      · exact .inl h0
      · refine .inr ⟨e1, hgB, fun e => ?_, hC.far (by show g0 ≠ g; omega) _⟩
        injection e with e
        have e : g0 = g := e
        omega
    · rw [getD_set_ne e]
      obtain ⟨A, c1, e1, hc⟩ := h3 i hi
      refine ⟨A, c1, by rw [List.getElem?_set_ne (Ne.symm e)]; exact e1, ?_⟩
      show AtV _ B _ (if i = k then g else G i) _ A
      rw [if_neg e]
      exact hc.imp id fun ⟨a1, a2, a3, a4⟩ => ⟨a1, a2, a3, (a4.call hb).far (fun e => a3 (by rw [← e]; rfl)) _⟩
  · rw [List.length_set] at hi hj
    show (if i = k then g else G i) ≠ (if j = k then g else G j)
    by_cases e1 : i = k
    · subst e1
      rw [if_pos rfl, if_neg (fun e => hij e.symm)]
      rw [getD_set_eq hi] at ni
      rw [getD_set_ne (fun e => hij e.symm)] at nj
      have := old j hj nj
      have := new ni
      omega
    · rw [getD_set_ne e1] at ni
      rw [if_neg e1]
      by_cases e2 : j = k
      · subst e2
        rw [getD_set_eq hj] at nj
        rw [if_pos rfl]
        have := old i hi ni
        have := new nj
        omega
      · rw [getD_set_ne e2] at nj
        rw [if_neg e2]
        exact h4 i j hi hj hij ni nj
  · rw [List.length_set] at hi
    show (if i = k then g else G i) ≠ X
    by_cases e1 : i = k
    · subst e1
      rw [getD_set_eq hi] at ni
      rw [if_pos rfl]
      have := new ni
      omega
    · rw [getD_set_ne e1] at ni
      rw [if_neg e1]
      exact h5 i hi ni

set_option maxHeartbeats 8000000 in
theorem smoothOfRank_yes (dn n r : Nat) (m : Int) (w : World) (h : soB (dn : Int) (n : Int) m (r : Int) = true) :
    Calls Try.prog 23 #[.int .i64 (dn : Int), .int .i64 (n : Int), .int .i64 m, .int .i64 (r : Int)] w fun e w' => e = .returned (.tuple #[.string (textOf (skI m dn n r n)), .bool true]) ∧ Below w.heap.size w w' := by
  obtain ⟨hcm, -, -⟩ := soB_yes h
  obtain ⟨-, hr, hz⟩ := soS_yes h
  have HCM := Lib.hid hcm
  have HZ := Lib.hid hz
  have HR := Lib.hid hr
  obtain ⟨d1, d9, n1, n7, m0, m9⟩ := cmB_yes hcm
  have hm09 : 0 ≤ m ∧ m ≤ 9 := ⟨m0, m9⟩
  have HWB : Hid (wpB (dn : Int) (n : Int) = true) := Lib.hid (by unfold cmB at hcm; simp only [Bool.and_eq_true] at hcm; exact hcm.1)
  have HWP : Hid (∀ w, Calls Try.prog 50 #[.int .i64 (dn : Int), .int .i64 (n : Int)] w (PinsOut w dn (rkL (skI m dn n r 0) dn n 0) true)) := Lib.hid (fun w => by
    have h := wholePins_any (dn : Int) (n : Int) w
    have e1 : wpD (dn : Int) (n : Int) = dn := by unfold wpD; rw [HWB.out]; rfl
    have e2 : wpK (dn : Int) (n : Int) = rkL (skI m dn n r 0) dn n 0 := by unfold wpK; rw [HWB.out, rkL_zero]; rfl
    rw [HWB.out, e1, e2] at h
    exact h)
  have hmk := make_intsN n (by omega)
  have ht0 : (toS (gwN m dn (n - 1)) 0 dn : Int) ≤ 43046721 := by
    have h1 := toS_le (lo := 0) (f := gwN m dn (n - 1)) (fun j => Nat.le_trans (gwN_le (show dn ≤ 9 by omega) _ j) (pow9_le' (show n - 1 ≤ 7 by omega))) dn
    have h2 : dn * 4782969 ≤ 9 * 4782969 := Nat.mul_le_mul_right _ (by omega)
    omega
  have hri : ((r : Int) < (toS (gwN m dn (n - 1)) 0 dn : Int)) := by omega
  obtain ⟨Z, hZ⟩ : ∃ Z, toS (gwN m dn (n - 1)) 0 dn = Z := ⟨_, rfl⟩
  rw [hZ] at ht0 hri
  have HZZ := Lib.hid hZ
  have hr9 : r ≤ 43046721 := by omega
  clear h hcm hr hz
  go_enter Try.func23, Try.ntmps23
  go_wp2_with (first
    | (go_at_call 49; refine (countSmoothF_any _ _ _ _).mono ?_; rw [HCM.out, HZ.out, HZZ.out]; rintro e w1 ⟨rfl, hb1⟩
       have HB1 := Lib.hid hb1
       clear hb1)
    | (go_at_call 50; refine (HWP.out _).mono ?_; rintro e w4 ⟨v4, rfl, hR4, hb4⟩
       obtain ⟨g0, c4, rfl⟩ : ∃ g0 c4, v4 = .slice (some ⟨g0, 0, none⟩) n c4 := by
         obtain ⟨G, vs, _, hv2, _, _⟩ := hR4.own
         rw [rkL_length] at hv2
         obtain ⟨g0, c2, e, _⟩ := hv2.form (by omega)
         exact ⟨g0, c2, e⟩
       have hc4 : n ≤ c4 := by
         obtain ⟨_, c', e, h⟩ := hR4.cap
         rw [rkL_length] at h
         injection e with _ _ e3
         omega
       have hg0 : w1.heap.size ≤ g0 ∧ g0 < w4.heap.size := by
         obtain ⟨G, vs, _, hv2, _, _⟩ := hR4.own
         exact hv2.lt g0 rfl
       obtain ⟨W5, hW5⟩ : ∃ W, w4.alloc (.cells #[.int .i64 (dn : Int), .slice (some ⟨g0, 0, none⟩) n c4] 26) = W := ⟨_, rfl⟩
       have hb5 : Below w4.heap.size w4 W5 := by rw [← hW5]; exact (Below.refl _ _).alloc (Nat.le_refl _) _
       have hz5 : W5.heap.size = w4.heap.size + 1 := by rw [← hW5]; simp
       have HZ5 := Lib.hid hz5
       have CX5 : Hid (Cells W5 w4.heap.size 2 (pF (dn : Int) (.slice (some ⟨g0, 0, none⟩) n c4))) := Lib.hid (by rw [← hW5]; exact Cells.new (n := 2) rfl rfl)
       have HR5 := Lib.hid (hR4.call hb5)
       have HB5 := Lib.hid (bel_call (bel_call HB1.out hb4) hb5)
       have HZ3 := Lib.hid HB1.out.size
       clear hR4 hb4 hb5 hz5))
  have HCDv : Hid (Cells (W5.alloc (.cells (madeCells #[.int .i64 0] n) 3)) W5.heap.size n (digF (skI m dn n r 0))) := Lib.hid ((Cells.made W5 (.int .i64 0) n 3).congr (fun j _ => by unfold skI skS digF; simp))
  have hb6 : Below W5.heap.size W5 (W5.alloc (.cells (madeCells #[.int .i64 0] n) 3)) := (Below.refl _ _).alloc (Nat.le_refl _) _
  have CX6 := Lib.hid (CX5.out.call hb6)
  have HR6 : Hid (RowX W5.heap.size (W5.alloc (.cells (madeCells #[.int .i64 0] n) 3)) w1.heap.size (.slice (some ⟨g0, 0, none⟩) n c4) (rkL (skI m dn n r 0) dn n 0)) := Lib.hid ((HR5.out.toX (Nat.le_refl _)).call hb6)
  have HB6 := Lib.hid (bel_call HB5.out hb6)
  obtain ⟨W6, hW6⟩ : ∃ W, W5.alloc (.cells (madeCells #[.int .i64 0] n) 3) = W := ⟨_, rfl⟩
  obtain ⟨gd, hgd⟩ : ∃ g, W5.heap.size = g := ⟨_, rfl⟩
  rw [hW6] at HCDv CX6 HR6 HB6 ⊢
  rw [hgd] at HCDv HR6 ⊢
  clear hb6
  obtain ⟨B0, hB0⟩ : ∃ B, w1.heap.size = B := ⟨_, rfl⟩
  obtain ⟨U, hU⟩ : ∃ U, w4.heap.size = U := ⟨_, rfl⟩
  have hzU : U < gd := by have := HZ5.out; omega
  have HZB : Hid (w.heap.size ≤ B0) := Lib.hid (by rw [← hB0]; exact HZ3.out)
  rw [hB0] at HR6 hg0
  rw [hU] at CX6 hg0 ⊢
  obtain ⟨hg0a, hg0b⟩ := hg0
  have HGD := Lib.hid HCDv.out.lt
  go_loopw [3, 46] (fun rv iv wr => ∃ k : Nat, k ≤ n ∧ iv = .int .i64 (k : Int) ∧ rv = .int .i64 (skR m dn n r k : Int) ∧ RowX gd wr B0 (.slice (some ⟨g0, 0, none⟩) n c4) (rkL (skI m dn n r k) dn n k) ∧ Cells wr U 2 (pF (dn : Int) (.slice (some ⟨g0, 0, none⟩) n c4)) ∧ Cells wr gd n (digF (skI m dn n r k)) ∧ Below w.heap.size w wr ∧ gd < wr.heap.size) (fun _ iv _ => n - (intOf iv).toNat)
  case atStart => exact ⟨0, by omega, rfl, rfl, HR6.out, CX6.out, HCDv.out, HB6.out, HGD.out⟩
  case round =>
    obtain ⟨k, hk, rfl, rfl, hR, hX, hD, hB, hgz⟩ := hrel
    have HRk := Lib.hid hR
    have HXk := Lib.hid hX
    have HDk := Lib.hid hD
    have HBk := Lib.hid hB
    clear hR hX hD hB HCDv HR6 HB6 CX6 HGD
    by_cases hlt : k < n
    · have hsk := sk_all HR.out k hk
      have HT0 := Lib.hid (hsk.2.2.1 hlt)
      have hR9 : skR m dn n r k ≤ 43046721 := Nat.le_trans hsk.2.2.2 hr9
      have HIL := Lib.hid (skI_length m dn n r k)
      have HLK : Hid ((rkL (skI m dn n r k) dn n k).length = n) := Lib.hid (rkL_length _ _ _ _)
      have HCN : Hid (∀ t, t < dn → toS (fwN m ((rkL (skI m dn n r k) dn n k).set k [(t : Int)]) (n - 1)) 0 9 = wtN m dn n k (skX m dn n r k) t) := Lib.hid (fun t ht => sk_count (by omega) HR.out hlt ht)
      have HSM : Hid (∀ t, t < dn → SmallP ((rkL (skI m dn n r k) dn n k).set k [(t : Int)])) := Lib.hid (fun t ht => sk_small (by omega) HR.out hlt ht)
      have HN9 : Hid (∀ t : Nat, Nine ((rkL (skI m dn n r k) dn n k).set k [(t : Int)])) := Lib.hid (fun t => sk_nine (by omega) (by simp) hlt)
      have HFX := Lib.hid (rkL_fix (m := m) (dn := dn) (n := n) (r := r) hlt)
      have HIS := Lib.hid (skI_succ m dn n r k)
      have HRS := Lib.hid (skR_succ m dn n r k)
      have HFL : Hid (∀ t, wtN m dn n k (skX m dn n r k) t ≤ 4782969) := Lib.hid (fun t => wtN_le (by omega) (by omega))
      have HPK : Hid (pkN (wtN m dn n k (skX m dn n r k)) dn 0 (skR m dn n r k) = skP m dn n r k) := Lib.hid rfl
      clear hsk
      generalize wtN m dn n k (skX m dn n r k) = f at HT0 HCN HFL HPK
      generalize skP m dn n r k = pk at HPK HFX HIS HRS
      generalize skR m dn n r k = R0 at HT0 hR9 HPK ⊢
      generalize rkL (skI m dn n r k) dn n k = K0 at HRk HLK HCN HSM HN9 HFX
      generalize skI m dn n r k = I0 at HDk HIL HIS
      go_wp2_with fail
      go_loopw [3, 50] (fun rv tv wq => ∃ (t rt : Nat) (K1 : List (List Int)) (c : Int), t ≤ dn ∧ tv = .int .i64 (t : Int) ∧ rv = .int .i64 (rt : Int) ∧ pkN f (dn - t) t rt = pk ∧ rt < toS f t (dn - t) ∧ rt ≤ R0 ∧ K1.length = n ∧ (∀ ys, K1.set k ys = K0.set k ys) ∧ RowX gd wq B0 (.slice (some ⟨g0, 0, none⟩) n c4) K1 ∧ Cells wq U 2 (pF (dn : Int) (.slice (some ⟨g0, 0, none⟩) n c4)) ∧ Cells wq gd n (digF (I0 ++ [c])) ∧ Below w.heap.size w wq ∧ gd < wq.heap.size) (fun _ tv _ => dn - (intOf tv).toNat)
      case atStart => exact ⟨0, R0, K0, 0, by omega, rfl, rfl, HPK.out, HT0.out, Nat.le_refl _, HLK.out, fun _ => rfl, HRk.out, HXk.out, HDk.out.congr (fun j _ => (dig_zero I0 j).symm), HBk.out, hgz⟩
      case round =>
        obtain ⟨t, rt, K1, c, ht, rfl, rfl, hpk, hrt, hrR, hKL, hKS, hP, hX, hD, hB, hgz2⟩ := hrel
        have HPK1 := Lib.hid hpk
        have HRT := Lib.hid hrt
        have HKS := Lib.hid hKS
        have HKL := Lib.hid hKL
        have HPq := Lib.hid hP
        have HXq := Lib.hid hX
        have HDq := Lib.hid hD
        have HBq := Lib.hid hB
        clear hpk hKS hP hX hD hB HRk HXk HDk HBk hKL
        by_cases htd : t < dn
        · have hft := HFL.out t
          obtain ⟨ft, hfe⟩ : ∃ z, f t = z := ⟨_, rfl⟩
          have HFE := Lib.hid hfe
          rw [hfe] at hft
          have htdi : (t : Int) < (dn : Int) := by omega
          have hki : (k : Int) < (n : Int) := by omega
          clear hfe hrt
          have x0 : wr.cell? ⟨U, 0, none⟩ = some (.int .i64 (dn : Int)) := HXq.out.cell (show 0 < 2 by omega)
          have x1 : wr.cell? ⟨U, 1, none⟩ = some (.slice (some ⟨g0, 0, none⟩) n c4) := HXq.out.cell (show 1 < 2 by omega)
          obtain ⟨W10, hW10⟩ : ∃ W, wr.alloc (.cells #[.int .i64 (t : Int)] 3) = W := ⟨_, rfl⟩
          have hb10 : Below wr.heap.size wr W10 := by rw [← hW10]; exact (Below.refl _ _).alloc (Nat.le_refl _) _
          have hz10 := hb10.size
          have C10 : Cells W10 wr.heap.size 1 (digF [(t : Int)]) := by rw [← hW10]; exact (Cells.new (n := 1) (cs := #[.int .i64 (t : Int)]) rfl rfl).congr (fun j hj => by have e0 : j = 0 := (by omega); subst e0; rfl)
          have hp11 := RowX.put (X := gd) (k := k) (c := 1) (A' := some ⟨wr.heap.size, 0, none⟩) (g := wr.heap.size) (m := 1) (xs := [(t : Int)]) HPq.out hgz2 hb10 (by rw [HKL.out]; exact hlt) rfl (.inr ⟨rfl, Nat.le_refl _, by omega, C10⟩)
          rw [HKS.out] at hp11
          obtain ⟨W11, hW11⟩ : ∃ W, W10.setCell ⟨g0, k, none⟩ (.slice (some ⟨wr.heap.size, 0, none⟩) 1 1) = W := ⟨_, rfl⟩
          rw [hW11] at hp11
          have HP11 := Lib.hid hp11
          have HX11 : Hid (Cells W11 U 2 (pF (dn : Int) (.slice (some ⟨g0, 0, none⟩) n c4))) := Lib.hid (hW11 ▸ (HXq.out.call hb10).far (p := ⟨g0, k, none⟩) (by show g0 ≠ U; omega) _)
          have HD11 : Hid (Cells W11 gd n (digF (I0 ++ [c]))) := Lib.hid (hW11 ▸ (HDq.out.call hb10).far (p := ⟨g0, k, none⟩) (by show g0 ≠ gd; omega) _)
          have HB11 : Hid (Below w.heap.size w W11) := Lib.hid (hW11 ▸ (bel_call HBq.out hb10).setCell (p := ⟨g0, k, none⟩) (by show w.heap.size ≤ g0; have := HZB.out; omega) _)
          have hz11 : W10.heap.size = W11.heap.size := by rw [← hW11, size_setCell]
          have hRr := HPq.out.call hb10
          obtain ⟨G9, vs9, hv1, hv2, hv3, hv4, hv5⟩ := hRr.own
          rw [HKL.out] at hv2 hv1
          have y0 : W10.cell? ⟨g0, k, none⟩ = some (vs9.getD k undef) := by
            rw [hv2.cellAt k (by omega)]
            simp [List.getD, List.getElem?_eq_getElem (show k < vs9.length by omega)]
          have yf : W10.frozen? ⟨g0, k, none⟩ = false := hv2.frozenAt k
          clear hv1 hv2 hv3 hv4 hv5 hRr hb10 hp11 C10
          have o11 : W11.cell? ⟨gd, k, none⟩ = some (digF (I0 ++ [c]) k) := HD11.out.cell hlt
          have f11 : W11.frozen? ⟨gd, k, none⟩ = false := HD11.out.frozen hlt
          obtain ⟨W12, hW12⟩ : ∃ W, W11.setCell ⟨gd, k, none⟩ (.int .i64 (t : Int)) = W := ⟨_, rfl⟩
          have HD12 : Hid (Cells W12 gd n (digF (I0 ++ [(t : Int)]))) := Lib.hid (hW12 ▸ (HD11.out.set_ hlt _).congr (fun j _ => by rw [← HIL.out]; exact dig_set _ _ _ _))
          have HX12 : Hid (Cells W12 U 2 (pF (dn : Int) (.slice (some ⟨g0, 0, none⟩) n c4))) := Lib.hid (hW12 ▸ HX11.out.far (p := ⟨gd, k, none⟩) (by show gd ≠ U; omega) _)
          have HP12 : Hid (RowX gd W12 B0 (.slice (some ⟨g0, 0, none⟩) n c4) (K0.set k [(t : Int)])) := Lib.hid (hW12 ▸ HP11.out.far (by omega) _ _)
          have HB12 : Hid (Below w.heap.size w W12) := Lib.hid (hW12 ▸ HB11.out.setCell (p := ⟨gd, k, none⟩) (by show w.heap.size ≤ gd; have := HZB.out; omega) _)
          have hz12 : W11.heap.size = W12.heap.size := by rw [← hW12, size_setCell]
          have z0 : W12.cell? ⟨U, 0, none⟩ = some (.int .i64 (dn : Int)) := HX12.out.cell (show 0 < 2 by omega)
          have z1 : W12.cell? ⟨U, 1, none⟩ = some (.slice (some ⟨g0, 0, none⟩) n c4) := HX12.out.cell (show 1 < 2 by omega)
          have hfti : IntKind.i64.wrap ((rt : Int) - (ft : Int)) = (rt : Int) - (ft : Int) := by rw [IntKind.wrap_i64]; omega
          by_cases hlft : rt < ft
          · have hlfi : (rt : Int) < (ft : Int) := by omega
            have HPE : Hid (pk = (t, rt)) := Lib.hid (by rw [← HPK1.out, show dn - t = (dn - t - 1) + 1 by omega, pkN, if_pos (by rw [HFE.out]; exact hlft)])
            go_wp2_with (first
              | (go_at_call 51; refine (countSmooth_any (dn : Int) m _ n c4 (K0.set k [(t : Int)]) _ hm09 (by omega) (by omega) hc4 (HP12.out.row.knobs (fun i _ => by have := HN9.out t i; unfold maxLen; omega)) (HSM.out t htd)).mono ?_; rw [HCN.out t htd, HFE.out]; rintro ee w9 ⟨rfl, hb9⟩
                 have HX9 := Lib.hid (HX12.out.call hb9)
                 have HD9' := Lib.hid (HD12.out.call hb9)
                 have HP9 := Lib.hid (HP12.out.call hb9)
                 have HB9 := Lib.hid (bel_call HB12.out hb9)
                 have hz9 := hb9.size
                 clear hb9))
            have e1 := congrArg Prod.fst HPE.out
            have e2 := congrArg Prod.snd HPE.out
            have HFX1 := HFX.out
            have HIS1 := HIS.out
            have HRS1 := HRS.out
            rw [e1] at HFX1 HIS1
            rw [e2] at HRS1
            go_roundw
            case rel => exact ⟨k + 1, by omega, by go_num, by rw [HRS1], by rw [← HFX1]; exact HP9.out, HX9.out, by rw [HIS1]; exact HD9'.out, HB9.out, by omega⟩
            case measure => simp [intOf]; omega
          · have hlfi : ¬ (rt : Int) < (ft : Int) := by omega
            have HPE : Hid (pkN f (dn - (t + 1)) (t + 1) (rt - ft) = pk ∧ rt - ft < toS f (t + 1) (dn - (t + 1))) := Lib.hid (by
              have h1 := HPK1.out
              have h2 := HRT.out
              rw [show dn - t = (dn - (t + 1)) + 1 by omega, pkN, if_neg (by rw [HFE.out]; exact hlft), HFE.out] at h1
              rw [show dn - t = (dn - (t + 1)) + 1 by omega, toS_front, HFE.out] at h2
              exact ⟨h1, by omega⟩)
            go_wp2_with (first
              | (go_at_call 51; refine (countSmooth_any (dn : Int) m _ n c4 (K0.set k [(t : Int)]) _ hm09 (by omega) (by omega) hc4 (HP12.out.row.knobs (fun i _ => by have := HN9.out t i; unfold maxLen; omega)) (HSM.out t htd)).mono ?_; rw [HCN.out t htd, HFE.out]; rintro ee w9 ⟨rfl, hb9⟩
                 have HX9 := Lib.hid (HX12.out.call hb9)
                 have HD9' := Lib.hid (HD12.out.call hb9)
                 have HP9 := Lib.hid (HP12.out.call hb9)
                 have HB9 := Lib.hid (bel_call HB12.out hb9)
                 have hz9 := hb9.size
                 clear hb9))
            go_roundw
            case rel => exact ⟨t + 1, rt - ft, K0.set k [(t : Int)], (t : Int), by omega, by go_num, by congr 1; omega, HPE.out.1, HPE.out.2, by omega, by rw [List.length_set]; exact HLK.out, fun ys => by rw [List.set_set], HP9.out, HX9.out, HD9'.out, HB9.out, by omega⟩
            case measure => simp [intOf]; omega
        · exfalso
          rw [show dn - t = 0 by omega] at hrt
          exact Nat.not_lt_zero _ hrt
    · obtain rfl : k = n := by omega
      have HIL := Lib.hid (skI_length m dn k r k)
      have HDG : Hid (Digits (skI m dn k r k)) := Lib.hid (sk_digits (by omega) HR.out k (Nat.le_refl _))
      go_wp2_with (go_at_call 52; refine (codeOf_n gd k (skI m dn k r k) HIL.out _ HDk.out HDG.out (by omega)).mono ?_; rintro e w9 ⟨rfl, hb9⟩)
      go_ret2
      exact ⟨rfl, bel_call HBk.out hb9⟩

theorem smoothOfRank_any (d n m r : Int) (w : World) :
    Calls Try.prog 23 #[.int .i64 d, .int .i64 n, .int .i64 m, .int .i64 r] w fun e w' => e = .returned (.tuple #[.string (soS d n m r), .bool (soB d n m r)]) ∧ Below w.heap.size w w' := by
  cases h : soB d n m r with
  | false => have := smoothOfRank_no d n m r w h; rwa [h] at this
  | true =>
    obtain ⟨hc, h0, -⟩ := soB_yes h
    obtain ⟨d1, -, n1, -⟩ := cmB_yes hc
    obtain ⟨dn, rfl⟩ : ∃ dn : Nat, d = dn := ⟨d.toNat, by omega⟩
    obtain ⟨nn, rfl⟩ : ∃ nn : Nat, n = nn := ⟨n.toNat, by omega⟩
    obtain ⟨rr, rfl⟩ : ∃ rr : Nat, r = rr := ⟨r.toNat, by omega⟩
    rw [(soS_yes h).1]
    exact smoothOfRank_yes dn nn rr m w h

end Go.Proofs.Ytaajklkldfgppaa
