/- Codes behind turns of knobs, as the program makes them. For at most 1048576 numbers. -/
import Derived.Test.YtejpcbkhlnjlfaaStepsI
import Derived.Test.YtejpcbkhlnjlfaaReach
namespace Go.Proofs.Ytejpcbkhlnjlfaa
open Go.ChangeShapes Go.WideShapes Go.ChangeAt Go.RowKit Go.Joins

set_option maxHeartbeats 2000000 in
theorem knobsAfter_any (a b : Int) (s : ByteArray) (A : Option Addr) (n c gt nt ct : Nat) (ks : List (List Int)) (ts : List Int) (w : World) (hm : n + lensAt ks n ≤ 1048576) (ht : nt ≤ 1048576) (hs : s.size ≤ maxLen) (hA : KnobsC w A n ks) (hT : ts.length = nt) (hC : Cells w gt nt (digF ts)) :
    Calls Try.prog 32 #[.agg #[.int .i64 a, .int .i64 b, .slice A n c], .string s, .slice (some ⟨gt, 0, none⟩) nt ct] w fun e w' => e = .returned (.tuple #[.string (kaZ a b ks s ts), .bool (kaB a b ks s ts)]) ∧ Below w.heap.size w w' := by
  have HS := Lib.hid hs
  have HA := Lib.hid hA
  have HN := Lib.hid hA.len
  have HTN := Lib.hid hT
  have hgt : gt < w.heap.size := hC.lt
  have HC := Lib.hid hC
  have hn2 : n ≤ 1048576 := by omega
  have CU := Lib.hid (Cells.new (W := w) (cs := #[.int .i64 a, .int .i64 b, .slice A n c]) (t := 31) (g := w.heap.size) (n := 3) rfl rfl)
  have HB0 := Lib.hid (show Below w.heap.size w (w.alloc (.cells #[.int .i64 a, .int .i64 b, .slice A n c] 31)) from (Below.refl _ _).alloc (Nat.le_refl _) _)
  clear hA hs hT hC
  by_cases hg : gcB a b ks s = true
  · have HG := Lib.hid hg
    have HGY := Lib.hid (gearsB_yes (gcB_yes hg).1)
    have HAS := Lib.hid (gcB_yes hg).2
    clear hg
    by_cases hne : nt = n
    · subst hne
      have HKN := Lib.hid (show ∀ j, j < nt → knobB a b (ks.getD j []) = true from fun j hj => HGY.out.2.2.2.2 j (by rw [HN.out]; exact hj))
      go_enter Try.func32, Try.ntmps32
      go_wp2_with (first
        | (go_at_call 79; refine (haveCode_any _ _ _ _ _ _ ks _ hm HS.out (HA.out.below HB0.out)).mono ?_; rw [HG.out]; rintro e w1 ⟨rfl, hb1⟩
           have D1 := Lib.hid (CU.out.call hb1)
           have B1 := Lib.hid (bel_call HB0.out hb1)
           have l2 : w1.cell? ⟨w.heap.size, 2, none⟩ = some (.slice A nt c) := D1.out.cell (show 2 < 3 by omega)
           clear hb1))
      clear l2
      go_loopw [1, 24] (fun v i wr => ∃ k : Nat, k ≤ nt ∧ i = .int .i64 k ∧ v = .string (afterK b ks ts s k) ∧ (ts.take k).all (fun x => inB x (-1000) 1000) = true ∧ Cells wr w.heap.size 3 (fun j => (#[.int .i64 a, .int .i64 b, .slice A nt c] : Array Value).toList.getD j undef) ∧ Below w.heap.size w wr) (fun _ i _ => nt - (intOf i).toNat)
      case atStart => exact ⟨0, by omega, rfl, rfl, by simp, D1.out, B1.out⟩
      case round =>
        clear D1 B1
        obtain ⟨k, hk, rfl, rfl, hal, hD, hB⟩ := hrel
        have HD := Lib.hid hD
        have HAL := Lib.hid hal
        have HB := Lib.hid hB
        clear hD hal hB
        by_cases hlt : k < nt
        · have o1 : wr.cell? ⟨gt, k, none⟩ = some (.int .i64 (ts.getD k 0)) := (HC.out.below HB.out hgt).cell hlt
          have HNX : Hid (afterK b ks ts s (k + 1) = turnK b (ts.getD k 0) (afterK b ks ts s k) (ks.getD k [])) := Lib.hid rfl
          have HAK := Lib.hid (afterK_ask (ts := ts) HAS.out k fun j hj => HKN.out j (by omega))
          obtain ⟨x, hx⟩ : ∃ x, ts.getD k 0 = x := ⟨_, rfl⟩
          have HX := Lib.hid hx
          rw [hx] at o1 HNX
          clear hx
          by_cases hx0 : x < -1000
          · have HF : Hid (kaB a b ks s ts = false) := Lib.hid (by
              have := lall_not (xs := ts) (d := 0) (p := fun x => inB x (-1000) 1000) (k := k) (by rw [HTN.out]; exact hlt) (by rw [HX.out]; exact decide_eq_false (by omega))
              unfold kaB; rw [this, Bool.and_false])
            go_wp2_with fail
            go_ret2
            exact ⟨by rw [kaZ_no HF.out, HF.out]; rfl, HB.out⟩
          · by_cases hx1 : 1000 < x
            · have HF : Hid (kaB a b ks s ts = false) := Lib.hid (by
                have := lall_not (xs := ts) (d := 0) (p := fun x => inB x (-1000) 1000) (k := k) (by rw [HTN.out]; exact hlt) (by rw [HX.out]; exact decide_eq_false (by omega))
                unfold kaB; rw [this, Bool.and_false])
              go_wp2_with fail
              go_ret2
              exact ⟨by rw [kaZ_no HF.out, HF.out]; rfl, HB.out⟩
            · have HKK := Lib.hid (HKN.out k hlt)
              have l0 : wr.cell? ⟨w.heap.size, 0, none⟩ = some (.int .i64 a) := HD.out.cell (show 0 < 3 by omega)
              have l1 : wr.cell? ⟨w.heap.size, 1, none⟩ = some (.int .i64 b) := HD.out.cell (show 1 < 3 by omega)
              have l2 : wr.cell? ⟨w.heap.size, 2, none⟩ = some (.slice A nt c) := HD.out.cell (show 2 < 3 by omega)
              generalize afterK b ks ts s k = S at HNX HAK
              go_wp2_with (go_at_call 80; refine (codeBehind_any _ _ _ _ _ _ _ _ ks _ hlt (HA.out.below HB.out) HAK.out HKK.out (by omega)).mono ?_; rw [← HNX.out]; rintro e w3 ⟨rfl, hb3⟩)
              go_roundw
              case rel => exact ⟨k + 1, by omega, by go_num, rfl, lall_snoc (d := 0) (p := fun x => inB x (-1000) 1000) (by rw [HTN.out]; exact hlt) HAL.out (by rw [HX.out]; exact decide_eq_true (by omega)), HD.out.call hb3, bel_call HB.out hb3⟩
              case measure => simp [intOf]; omega
        · obtain rfl : k = nt := by omega
          have HF : Hid (kaB a b ks s ts = true) := Lib.hid (by
            have h := HAL.out
            rw [List.take_of_length_le (by rw [HTN.out]; exact Nat.le_refl _)] at h
            unfold kaB
            rw [h, HG.out, HTN.out, HN.out]
            simp)
          have HZ : Hid (afterK b ks ts s k = kaZ a b ks s ts) := Lib.hid (by rw [kaZ_yes HF.out, HN.out])
          rw [HZ.out]
          go_wp2_with fail
          go_ret2
          exact ⟨by rw [HF.out]; rfl, HB.out⟩
    · have hne2 : ((nt : Int) != (n : Int)) = true := by simpa using fun e => hne (by omega)
      have HTB : Hid (kaB a b ks s ts = false) := Lib.hid (by unfold kaB; rw [HTN.out, HN.out, decide_eq_false hne, Bool.and_false, Bool.false_and])
      clear hne
      go_enter Try.func32, Try.ntmps32
      go_wp2_with (first
        | (go_at_call 79; refine (haveCode_any _ _ _ _ _ _ ks _ hm HS.out (HA.out.below HB0.out)).mono ?_; rw [HG.out]; rintro e w1 ⟨rfl, hb1⟩
           have D1 := Lib.hid (CU.out.call hb1)
           have B1 := Lib.hid (bel_call HB0.out hb1)
           have l2 : w1.cell? ⟨w.heap.size, 2, none⟩ = some (.slice A n c) := D1.out.cell (show 2 < 3 by omega)
           clear hb1))
      go_ret2
      exact ⟨by rw [kaZ_no HTB.out, HTB.out]; rfl, B1.out⟩
  · have HG := Lib.hid (Bool.eq_false_iff.2 hg)
    have HTB : Hid (kaB a b ks s ts = false) := Lib.hid (by unfold kaB; rw [HG.out]; rfl)
    clear hg
    go_enter Try.func32, Try.ntmps32
    go_wp2_with (go_at_call 79; refine (haveCode_any _ _ _ _ _ _ ks _ hm HS.out (HA.out.below HB0.out)).mono ?_; rw [HG.out]; rintro e w1 ⟨rfl, hb1⟩)
    go_ret2
    exact ⟨by rw [kaZ_no HTB.out, HTB.out]; rfl, bel_call HB0.out hb1⟩

theorem set_new (w : World) (cs : Array Value) (t : TypeId) (q : Nat) (v : Value) : (w.alloc (.cells cs t)).setCell ⟨w.heap.size, q, none⟩ v = w.alloc (.cells (cs.setIfInBounds q v) t) := by simp [go_sem]

/-- A list of noughts but for one place. -/
def oneT (n q : Nat) (m : Int) : List Int := (List.replicate n 0).set q m

theorem oneT_length (n q : Nat) (m : Int) : (oneT n q m).length = n := by simp [oneT]

theorem oneT_at {n q j : Nat} {m : Int} (hq : q < n) : (oneT n q m).getD j 0 = if j = q then m else 0 := by
  unfold oneT
  by_cases h : j = q
  · subst h
    simp [List.getD, hq]
  · rw [if_neg h]
    simp only [List.getD, List.getElem?_set]
    rw [if_neg (fun e => h e.symm)]
    by_cases hj : j < n
    · simp [hj]
    · simp [hj]

theorem afterK_one {a b m : Int} {n q : Nat} {ks : List (List Int)} {s : ByteArray} (hs : askB a b s = true) (hq : q < n) (k : Nat) (hk : ∀ j, j < k → knobB a b (ks.getD j []) = true) :
    afterK b ks (oneT n q m) s k = if q < k then turnK b m s (ks.getD q []) else s := by
  induction k with
  | zero => rw [if_neg (by omega)]; rfl
  | succ k ih =>
    rw [afterK, ih fun j hj => hk j (by omega), oneT_at hq]
    by_cases h : q < k
    · rw [if_pos h, if_neg (by omega), if_pos (by omega)]
      exact turnK_zero (turnK_ask hs (hk q (by omega))) (hk k (by omega))
    · rw [if_neg h]
      by_cases h2 : k = q
      · subst h2
        rw [if_pos rfl, if_pos (by omega)]
      · rw [if_neg h2, if_neg (by omega)]
        exact turnK_zero hs (hk k (by omega))

theorem oneT_all {n q : Nat} {m : Int} (hq : q < n) : ((oneT n q m).all fun x => inB x (-1000) 1000) = inB m (-1000) 1000 := by
  rw [Bool.eq_iff_iff, List.all_eq_true]
  constructor
  · intro h
    refine h m ?_
    have : (oneT n q m)[q]? = some m := by simp [oneT, hq]
    exact List.mem_of_getElem? this
  · intro h x hx
    obtain ⟨j, hj, rfl⟩ := List.getElem_of_mem hx
    have := oneT_at (j := j) (m := m) hq
    simp only [List.getD, List.getElem?_eq_getElem hj, Option.getD_some] at this
    rw [this]
    split
    · exact h
    · decide

theorem one_cells {w : World} {g n q : Nat} {m : Int} (hq : q < n) (h : Cells w g n (fun _ => .int .i64 0)) : Cells (w.setCell ⟨g, q, none⟩ (.int .i64 m)) g n (digF (oneT n q m)) :=
  (h.set_ hq _).congr fun j _ => by
    rw [digF, oneT_at hq]
    split <;> rfl

set_option maxHeartbeats 2000000 in
theorem turnKnob_any (a b : Int) (s : ByteArray) (q m : Int) (A : Option Addr) (n c : Nat) (ks : List (List Int)) (w : World) (hm : n + lensAt ks n ≤ 1048576) (hs : s.size ≤ maxLen) (hA : KnobsC w A n ks) :
    Calls Try.prog 29 #[.agg #[.int .i64 a, .int .i64 b, .slice A n c], .string s, .int .i64 q, .int .i64 m] w fun e w' => e = .returned (.tuple #[.string (tkZ a b ks s q m), .bool (tkB a b ks s q m)]) ∧ Below w.heap.size w w' := by
  have HS := Lib.hid hs
  have HA := Lib.hid hA
  have HN := Lib.hid hA.len
  have hn2 : n ≤ 1048576 := by omega
  have hmk := make_intsN n hn2
  have HM := fun W : World => Lib.hid (Cells.made W (.int .i64 0) n 3)
  have CU := Lib.hid (Cells.new (W := w) (cs := #[.int .i64 a, .int .i64 b, .slice A n c]) (t := 31) (g := w.heap.size) (n := 3) rfl rfl)
  have HB0 := Lib.hid (show Below w.heap.size w (w.alloc (.cells #[.int .i64 a, .int .i64 b, .slice A n c] 31)) from (Below.refl _ _).alloc (Nat.le_refl _) _)
  clear hA hs
  by_cases hg : gkB a b ks q = true
  · have HG := Lib.hid hg
    have hg2 := hg
    unfold gkB at hg2
    rw [Bool.and_eq_true] at hg2
    have HGY := Lib.hid (gearsB_yes hg2.1)
    have hq1 := hg2.2
    have HQB := Lib.hid hg2.2
    unfold inB at hq1
    rw [decide_eq_true_eq, HN.out] at hq1
    obtain ⟨qn, rfl⟩ : ∃ qn : Nat, q = qn := ⟨q.toNat, by omega⟩
    have hqn : qn < n := by omega
    have HR : Hid (kaB a b ks s (oneT n qn m) = tkB a b ks s qn m ∧ kaZ a b ks s (oneT n qn m) = tkZ a b ks s qn m) := Lib.hid (by
      have e1 : kaB a b ks s (oneT n qn m) = tkB a b ks s qn m := by
        unfold kaB tkB
        rw [oneT_all hqn, oneT_length, HN.out, ← HN.out, HQB.out, decide_eq_true rfl, Bool.and_true]
      refine ⟨e1, ?_⟩
      unfold kaZ tkZ
      rw [e1]
      by_cases h : tkB a b ks s qn m = true
      · rw [if_pos h, if_pos h]
        unfold tkB at h
        rw [Bool.and_eq_true, Bool.and_eq_true] at h
        rw [afterK_one (gcB_yes h.1.1).2 hqn _ (fun j hj => HGY.out.2.2.2.2 j hj), if_pos (by rw [HN.out]; exact hqn), Int.toNat_natCast]
      · rw [if_neg h, if_neg h])
    clear hg hg2 hq1
    go_enter Try.func29, Try.ntmps29
    go_wp2_with (first
      | (go_at_call 76; refine (haveKnob_any _ _ _ _ _ _ ks _ hm ((HA.out.knobs hm).below HB0.out)).mono ?_; rw [HG.out]; rintro e w1 ⟨rfl, hb1⟩
         have D1 := Lib.hid (CU.out.call hb1)
         have B1 := Lib.hid (bel_call HB0.out hb1)
         have l2 : w1.cell? ⟨w.heap.size, 2, none⟩ = some (.slice A n c) := D1.out.cell (show 2 < 3 by omega)
         have C2 := Lib.hid ((HM w1).out)
         have p1 := C2.out.cell hqn
         have p2 := C2.out.frozen hqn
         have D2 := Lib.hid (((D1.out.alloc (.cells (madeCells #[.int .i64 0] n) 3)).far (p := ⟨w1.heap.size, qn, none⟩) (show w1.heap.size ≠ w.heap.size by have := D1.out.lt; omega) (.int .i64 m)))
         have HE := Lib.hid (show (w1.alloc (.cells (madeCells #[.int .i64 0] n) 3)).setCell ⟨w1.heap.size, qn, none⟩ (.int .i64 m) = w1.alloc (.cells ((madeCells #[.int .i64 0] n).setIfInBounds qn (.int .i64 m)) 3) from set_new w1 _ _ _ _)
         have D3 := Lib.hid (show Cells (w1.alloc (.cells ((madeCells #[.int .i64 0] n).setIfInBounds qn (.int .i64 m)) 3)) w.heap.size 3 _ from by rw [← HE.out]; exact D2.out)
         have k0 : (w1.alloc (.cells ((madeCells #[.int .i64 0] n).setIfInBounds qn (.int .i64 m)) 3)).cell? ⟨w.heap.size, 0, none⟩ = some (.int .i64 a) := D3.out.cell (show 0 < 3 by omega)
         have k1 : (w1.alloc (.cells ((madeCells #[.int .i64 0] n).setIfInBounds qn (.int .i64 m)) 3)).cell? ⟨w.heap.size, 1, none⟩ = some (.int .i64 b) := D3.out.cell (show 1 < 3 by omega)
         have k2 : (w1.alloc (.cells ((madeCells #[.int .i64 0] n).setIfInBounds qn (.int .i64 m)) 3)).cell? ⟨w.heap.size, 2, none⟩ = some (.slice A n c) := D3.out.cell (show 2 < 3 by omega)
         have C3 := Lib.hid (one_cells (m := m) hqn C2.out)
         have B3 := Lib.hid ((B1.out.alloc B1.out.size (.cells (madeCells #[.int .i64 0] n) 3)).setCell (show w.heap.size ≤ w1.heap.size from B1.out.size) (p := ⟨w1.heap.size, qn, none⟩) (.int .i64 m))
         clear hb1)
      | (go_at_call 32; refine (knobsAfter_any _ _ _ _ _ _ _ _ _ ks (oneT n qn m) _ hm hn2 HS.out (by rw [← HE.out]; exact HA.out.below B3.out) (oneT_length _ _ _) (by rw [← HE.out]; exact C3.out)).mono ?_; rw [HR.out.1, HR.out.2]; rintro e w3 ⟨rfl, hb3⟩))
    go_ret2
    exact ⟨rfl, bel_call (by rw [← HE.out]; exact B3.out) hb3⟩
  · have HG := Lib.hid (Bool.eq_false_iff.2 hg)
    have HTB : Hid (tkB a b ks s q m = false) := Lib.hid (by
      have h := HG.out
      unfold gkB at h
      unfold tkB gcB
      cases h1 : gearsB a b ks
      · rfl
      · rw [h1, Bool.true_and] at h
        rw [h, Bool.and_false, Bool.false_and])
    clear hg
    go_enter Try.func29, Try.ntmps29
    go_wp2_with (go_at_call 76; refine (haveKnob_any _ _ _ _ _ _ ks _ hm ((HA.out.knobs hm).below HB0.out)).mono ?_; rw [HG.out]; rintro e w1 ⟨rfl, hb1⟩)
    go_ret2
    exact ⟨by rw [tkZ_no HTB.out, HTB.out]; rfl, bel_call HB0.out hb1⟩

end Go.Proofs.Ytejpcbkhlnjlfaa
