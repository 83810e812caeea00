/- Cuts that two pins have both, that one of them has, and that one has alone, as the program makes them. For at most 9 depths and 7 places. -/
import Derived.Test.YtaajklkldfgppaaVi
namespace Go.Proofs.Ytaajklkldfgppaa
open Go.ChangeShapes Go.WideShapes Go.ChangeAt Go.RowKit Go.Joins

theorem index_seven {xs : Array Value} {d : Nat} {v : Value} (hd : d < 7) (hx : xs[d]? = some v) (w : World) : (Instr.index 76 (.agg xs) (.int .i64 d)).run Try.prog w = .ok v w := by
  obtain ⟨i, hi, hs⟩ : ∃ i, Try.prog.info? 3 = some i ∧ i.size = 1 := by
    have h : (Try.prog.info? 3).map (·.size) = some 1 := by kernel_rfl
    cases hq : Try.prog.info? 3 with
    | none => simp [hq] at h
    | some i => exact ⟨i, rfl, by simpa [hq] using h⟩
  have hagg : ∀ W, (isAgg 3).run Try.prog W = .ok false W := fun W => by
    unfold isAgg
    rw [Sem.run_bind, run_underlying Try.underlying3 W]
    rfl
  have h0 : (0 : Int) ≤ (d : Int) ∧ (d : Int) < ((7 : Nat) : Int) := by omega
  simp only [Instr.index, Sem.run_bind, asIntOf, Sem.run_pure, Result.andThen_ok, run_underlying Try.underlying76, h0, and_self, if_true]
  simp [sizeOf, typeInfo, Sem.run_bind, hi, hs, part, hagg, hx]

/-- The lists of two pins, place by place and depth by depth. -/
def jnL (g : Bool → Bool → Bool) (d : Nat) (ks ls : List (List Int)) (n : Nat) : List (List Int) := rwL (fun i => lsN (fun e => g (hasB (ks.getD i []) e) (hasB (ls.getD i []) e)) d) n

/-- Masks joined. -/
def jnM (g : Nat → Nat → Nat) (ks ls : List (List Int)) (i : Nat) : Nat := g (mkP ks i) (mkP ls i)

theorem jn_eq {g : Nat → Nat → Nat} {b : Bool → Bool → Bool} (hg : ∀ x y e, x < 2 ^ 9 → y < 2 ^ 9 → (g x y).testBit e = b (x.testBit e) (y.testBit e)) {ks ls : List (List Int)} (h1 : SmallP ks) (h2 : SmallP ls) (d n : Nat) : mkL d (jnM g ks ls) n = jnL b d ks ls n := by
  unfold mkL jnL jnM
  refine rwL_congr fun i _ => lsN_congr fun e _ => ?_
  rw [hg _ _ _ (mkP_lt h1 i) (mkP_lt h2 i), mkP_bit h1, mkP_bit h2]

def andN (a b : Nat) : Nat := a &&& b

def orN (a b : Nat) : Nat := a ||| b

def notN (a b : Nat) : Nat := a &&& (2 ^ 64 - (b + 1))

theorem andN_bit (x y e : Nat) (_ : x < 2 ^ 9) (_ : y < 2 ^ 9) : (andN x y).testBit e = (fun x y => x && y) (x.testBit e) (y.testBit e) := Nat.testBit_and ..

theorem orN_bit (x y e : Nat) (_ : x < 2 ^ 9) (_ : y < 2 ^ 9) : (orN x y).testBit e = (fun x y => x || y) (x.testBit e) (y.testBit e) := Nat.testBit_or ..

theorem notN_bit (x y e : Nat) (hx : x < 2 ^ 9) (hy : y < 2 ^ 9) : (notN x y).testBit e = (fun x y => x && !y) (x.testBit e) (y.testBit e) := by
  unfold notN
  rw [Nat.testBit_and, Nat.testBit_two_pow_sub_succ (show y < 2 ^ 64 by omega)]
  by_cases he : e < 64
  · rw [decide_eq_true he, Bool.true_and]
  · rw [Nat.testBit_lt_two_pow (Nat.lt_of_lt_of_le hx (Nat.pow_le_pow_right (by decide) (by omega)))]
    rfl

theorem andN_lt {a b : Nat} (ha : a < 2 ^ 9) (_ : b < 2 ^ 9) : andN a b < 2 ^ 9 := Nat.lt_of_le_of_lt Nat.and_le_left ha

theorem orN_lt {a b : Nat} (ha : a < 2 ^ 9) (hb : b < 2 ^ 9) : orN a b < 2 ^ 9 := Nat.or_lt_two_pow ha hb

theorem notN_lt {a b : Nat} (ha : a < 2 ^ 9) (_ : b < 2 ^ 9) : notN a b < 2 ^ 9 := Nat.lt_of_le_of_lt Nat.and_le_left ha

theorem andNot_small {a b : Nat} (ha : a < 2 ^ 9) (hb : b < 2 ^ 9) : bits .andNot .i64 (a : Int) (b : Int) = ((a &&& (2 ^ 64 - (b + 1)) : Nat) : Int) := by
  have hx : a &&& (2 ^ 64 - (b + 1)) < 2 ^ 9 := Nat.lt_of_le_of_lt Nat.and_le_left ha
  show IntKind.i64.wrap ((BitVec.ofInt 64 (a : Int) &&& ~~~BitVec.ofInt 64 (b : Int)).toNat : Int) = _
  rw [BitVec.toNat_and, BitVec.toNat_not, BitVec.ofInt_natCast, BitVec.ofInt_natCast, BitVec.toNat_ofNat, BitVec.toNat_ofNat, Nat.mod_eq_of_lt (by omega), Nat.mod_eq_of_lt (by omega)]
  have e : 2 ^ 64 - 1 - b = 2 ^ 64 - (b + 1) := by omega
  rw [e]
  exact i64_wrap _ (Int.natCast_nonneg _) (by exact_mod_cast hx)

theorem jnF_step {f h : Nat → Nat} {k : Nat} {z : Nat} (hz : z = h k) (j : Nat) : (if j = k then .int .i64 (z : Int) else (if j < k then .int .i64 (h j : Int) else .int .i64 (f j : Int)) : Value) = if j < k + 1 then .int .i64 (h j : Int) else .int .i64 (f j : Int) := by
  subst hz
  by_cases e : j = k
  · subst e; rw [if_pos rfl, if_pos (by omega)]
  · rw [if_neg e]
    by_cases h1 : j < k
    · rw [if_pos h1, if_pos (by omega)]
    · rw [if_neg h1, if_neg (by omega)]

theorem cutA_at (f : Nat → Int) {d : Nat} (hd : d < 7) : (#[Value.int .i64 (f 0), .int .i64 (f 1), .int .i64 (f 2), .int .i64 (f 3), .int .i64 (f 4), .int .i64 (f 5), .int .i64 (f 6)] : Array Value)[d]? = some (.int .i64 (f d)) := by
  have : d = 0 ∨ d = 1 ∨ d = 2 ∨ d = 3 ∨ d = 4 ∨ d = 5 ∨ d = 6 := by omega
  rcases this with rfl | rfl | rfl | rfl | rfl | rfl | rfl <;> rfl

set_option maxRecDepth 100000 in
set_option maxHeartbeats 4000000 in
theorem common_any (dn : Nat) (d2 : Int) (A1 A2 : Option Addr) (n n2 c1' c2' : Nat) (ks ls : List (List Int)) (w : World) (hn : n ≤ 7) (hn2 : n2 ≤ 7) (hd : dn ≤ 9) (h1 : KnobsA w A1 n ks) (h2 : KnobsA w A2 n2 ls) (s1 : SmallP ks) (s2 : SmallP ls) :
    Calls Try.prog 65 #[.agg #[.int .i64 (dn : Int), .slice A1 n c1'], .agg #[.int .i64 d2, .slice A2 n2 c2']] w (PinsGot w dn (jnL (fun x y => x && y) dn ks ls n)) := by
  have H1 := Lib.hid h1
  have H2 := Lib.hid h2
  have HJ := Lib.hid (jn_eq (g := andN) (b := (fun x y => x && y)) andN_bit s1 s2 dn n)
  have hA : ∀ j, mkP ks j < 2 ^ 9 := mkP_lt s1
  have hB : ∀ j, mkP ls j < 2 ^ 9 := mkP_lt s2
  have HLA := Lib.hid hA
  have HLB := Lib.hid hB
  have HLJ : Hid (∀ j, jnM andN ks ls j < 2 ^ 9) := Lib.hid (fun j => andN_lt (hA j) (hB j))
  have S1 := Lib.hid s1
  have S2 := Lib.hid s2
  clear h1 h2 s1 s2 hA hB
  obtain ⟨W3, hW3⟩ : ∃ W3, ((w.alloc (.cells #[.int .i64 (dn : Int), .slice A1 n c1'] 26)).alloc (.cells #[.int .i64 d2, .slice A2 n2 c2'] 26)).alloc (.cells #[.int .i64 0, .slice none 0 0] 26) = W3 := ⟨_, rfl⟩
  have HB3 := Lib.hid (show Below w.heap.size w W3 from by rw [← hW3]; (repeat (first | assumption | exact Below.refl _ _ | (refine Below.alloc ?_ (by first | omega | (simp; done) | (simp; omega)) _) | (refine Below.setCell ?_ (by first | omega | (simp; done) | (simp; omega)) _) | refine bel_drewN ?_ _ | refine bel_drew ?_ | (refine bel_call ?_ (by assumption)))))
  have CP := Lib.hid (show Cells W3 w.heap.size 2 (pF (dn : Int) (.slice A1 n c1')) from by rw [← hW3]; exact ((Cells.new (n := 2) rfl rfl).alloc _).alloc _)
  have CR := Lib.hid (show Cells W3 (w.heap.size + 1) 2 (pF d2 (.slice A2 n2 c2')) from by rw [← hW3]; exact (Cells.new (n := 2) (by simp) rfl).alloc _)
  have CQ := Lib.hid (show Cells W3 (w.heap.size + 1 + 1) 2 (pF 0 (.slice none 0 0)) from by rw [← hW3]; exact Cells.new (n := 2) (by simp) rfl)
  have hzW : w.heap.size + 3 = W3.heap.size := by rw [← hW3]; simp
  have HW := Lib.hid hW3
  clear hW3
  go_enter Try.func65, Try.ntmps65
  go_wp2_with fail
  rw [HW.out]
  refine (cuts_any _ _ _ _ ks _ hn (H1.out.below HB3.out) S1.out).mono ?_
  rintro e w4 ⟨rfl, hb4⟩
  have HB4 := Lib.hid (bel_call HB3.out hb4)
  have CP4 := Lib.hid (CP.out.call hb4)
  have CR4 := Lib.hid (CR.out.call hb4)
  have CQ4 := Lib.hid (CQ.out.call hb4)
  have hz4 := hb4.size
  clear HW CP CR CQ HB3 hb4
  obtain ⟨W5, hW5⟩ : ∃ W5, w4.alloc (.cells #[.int .i64 (mkP ks 0 : Int), .int .i64 (mkP ks 1 : Int), .int .i64 (mkP ks 2 : Int), .int .i64 (mkP ks 3 : Int), .int .i64 (mkP ks 4 : Int), .int .i64 (mkP ks 5 : Int), .int .i64 (mkP ks 6 : Int)] 76) = W5 := ⟨_, rfl⟩
  have HB5 := Lib.hid (show Below w.heap.size w W5 from by rw [← hW5]; exact HB4.out.alloc HB4.out.size _)
  have CP5 := Lib.hid (show Cells W5 w.heap.size 2 (pF (dn : Int) (.slice A1 n c1')) from by rw [← hW5]; exact CP4.out.alloc _)
  have CR5 := Lib.hid (show Cells W5 (w.heap.size + 1) 2 (pF d2 (.slice A2 n2 c2')) from by rw [← hW5]; exact CR4.out.alloc _)
  have CQ5 := Lib.hid (show Cells W5 (w.heap.size + 1 + 1) 2 (pF 0 (.slice none 0 0)) from by rw [← hW5]; exact CQ4.out.alloc _)
  have CC5 := Lib.hid (show Cells W5 w4.heap.size 7 (fun j => .int .i64 (mkP ks j : Int)) from by
    rw [← hW5]
    exact (Cells.new (n := 7) rfl rfl).congr (f' := fun j => .int .i64 (mkP ks j : Int)) fun j hj => by
      have : j = 0 ∨ j = 1 ∨ j = 2 ∨ j = 3 ∨ j = 4 ∨ j = 5 ∨ j = 6 := by omega
      rcases this with rfl | rfl | rfl | rfl | rfl | rfl | rfl <;> rfl)
  have HW5 := Lib.hid hW5
  have r0 : (w4.alloc (.cells #[.int .i64 (mkP ks 0 : Int), .int .i64 (mkP ks 1 : Int), .int .i64 (mkP ks 2 : Int), .int .i64 (mkP ks 3 : Int), .int .i64 (mkP ks 4 : Int), .int .i64 (mkP ks 5 : Int), .int .i64 (mkP ks 6 : Int)] 76)).cell? ⟨w.heap.size + 1, 0, none⟩ = some (.int .i64 d2) := by rw [hW5]; exact CR5.out.cell (show 0 < 2 by omega)
  have r1 : (w4.alloc (.cells #[.int .i64 (mkP ks 0 : Int), .int .i64 (mkP ks 1 : Int), .int .i64 (mkP ks 2 : Int), .int .i64 (mkP ks 3 : Int), .int .i64 (mkP ks 4 : Int), .int .i64 (mkP ks 5 : Int), .int .i64 (mkP ks 6 : Int)] 76)).cell? ⟨w.heap.size + 1, 1, none⟩ = some (.slice A2 n2 c2') := by rw [hW5]; exact CR5.out.cell (show 1 < 2 by omega)
  clear hW5
  unfold cutV
  go_wp2_with fail
  clear r0 r1
  rw [HW5.out]
  refine (cuts_any _ _ _ _ ls _ hn2 (H2.out.below HB5.out) S2.out).mono ?_
  rintro e w6 ⟨rfl, hb6⟩
  have HB6 := Lib.hid (bel_call HB5.out hb6)
  have CP6 := Lib.hid (CP5.out.call hb6)
  have CQ6 := Lib.hid (CQ5.out.call hb6)
  have CC6 := Lib.hid (CC5.out.call hb6)
  clear HW5 CP5 CR5 CQ5 CC5 HB5 hb6 CP4 CR4 CQ4 HB4
  obtain ⟨C, hC⟩ : ∃ C, w4.heap.size = C := ⟨_, rfl⟩
  rw [hC] at CC6 hz4 ⊢
  clear hC
  unfold cutV
  go_wp2_with fail
  go_loopw [12] (fun iv wr => ∃ k : Nat, k ≤ 7 ∧ iv = .int .i64 k ∧ Cells wr w.heap.size 2 (pF (dn : Int) (.slice A1 n c1')) ∧ Cells wr (w.heap.size + 1 + 1) 2 (pF 0 (.slice none 0 0)) ∧ Cells wr C 7 (fun j => if j < k then .int .i64 (jnM andN ks ls j : Int) else .int .i64 (mkP ks j : Int)) ∧ Below w.heap.size w wr) (fun iv _ => 7 - (intOf iv).toNat)
  case atStart => exact ⟨0, by omega, rfl, CP6.out, CQ6.out, CC6.out.congr (fun j _ => by rw [if_neg (by omega)]), HB6.out⟩
  case round =>
    clear CP6 CQ6 CC6 HB6
    obtain ⟨k, hk, rfl, hP, hQ, hC, hB⟩ := hrel
    have HP := Lib.hid hP
    have HQ := Lib.hid hQ
    have HC := Lib.hid hC
    have HB := Lib.hid hB
    clear hP hQ hC hB
    by_cases hlt : k < 7
    · have hix := fun W => index_seven (w := W) hlt (cutA_at (fun j => (mkP ls j : Int)) hlt)
      have p1 : wr.cell? ⟨C, k, none⟩ = some (.int .i64 (mkP ks k : Int)) := by
        have h := HC.out.cell hlt
        rw [if_neg (by omega)] at h
        exact h
      have p2 := HC.out.frozen hlt
      have hop := and_small (HLA.out k) (HLB.out k)
      have HJM : Hid (jnM andN ks ls k = andN (mkP ks k) (mkP ls k)) := Lib.hid rfl
      obtain ⟨z, hz⟩ : ∃ z, andN (mkP ks k) (mkP ls k) = z := ⟨_, rfl⟩
      have HZ : Hid (z = jnM andN ks ls k) := Lib.hid hz.symm
      have hop : bits .and .i64 (mkP ks k : Int) (mkP ls k : Int) = (z : Int) := by rw [← hz]; exact hop
      have HCN := Lib.hid ((HC.out.set_ hlt (.int .i64 (z : Int))).congr (fun j _ => jnF_step (f := mkP ks) (h := jnM andN ks ls) HZ.out j))
      have HPN := Lib.hid (HP.out.far (p := ⟨C, k, none⟩) (by show C ≠ w.heap.size; omega) (.int .i64 (z : Int)))
      have HQN := Lib.hid (HQ.out.far (p := ⟨C, k, none⟩) (by show C ≠ w.heap.size + 1 + 1; omega) (.int .i64 (z : Int)))
      clear hz HJM
      generalize mkP ks k = x at p1 hop
      generalize mkP ls k = y at hix hop
      go_wp2_with fail
      go_roundw
      case rel => exact ⟨k + 1, by omega, by go_num, HPN.out, HQN.out, HCN.out, HB.out.setCell (by show w.heap.size ≤ C; omega) _⟩
      case measure => simp [intOf]; omega
    · obtain rfl : k = 7 := by omega
      have CF : ∀ j, j < 7 → wr.cell? ⟨C, j, none⟩ = some (.int .i64 (jnM andN ks ls j : Int)) := fun j hj => by
        rw [HC.out.cell hj, if_pos hj]
      have c0 := CF 0 (by omega)
      have c1 := CF 1 (by omega)
      have c2 := CF 2 (by omega)
      have c3 := CF 3 (by omega)
      have c4 := CF 4 (by omega)
      have c5 := CF 5 (by omega)
      have c6 := CF 6 (by omega)
      have l0 : wr.cell? ⟨w.heap.size, 0, none⟩ = some (.int .i64 (dn : Int)) := HP.out.cell (show 0 < 2 by omega)
      have l1 : wr.cell? ⟨w.heap.size, 1, none⟩ = some (.slice A1 n c1') := HP.out.cell (show 1 < 2 by omega)
      clear CF
      go_wp2_with fail
      refine (withCuts_any dn A1 n c1' (jnM andN ks ls) _ hn hd HLJ.out).mono ?_
      rintro e w8 ⟨v8, rfl, hR8, hb8⟩
      have HR8 := Lib.hid hR8
      have HB8 := Lib.hid (bel_call HB.out hb8)
      have HQ8 := Lib.hid (HQ.out.call hb8)
      obtain ⟨A8, c8, rfl⟩ := hR8.slice
      have hl8 : (mkL dn (jnM andN ks ls) n).length = n := rwL_length _ _
      rw [hl8] at HR8 ⊢
      have q0 : w8.cell? ⟨w.heap.size + 1 + 1, 0, none⟩ = some (.int .i64 0) := HQ8.out.cell (show 0 < 2 by omega)
      have q1 : w8.cell? ⟨w.heap.size + 1 + 1, 1, none⟩ = some (.slice none 0 0) := HQ8.out.cell (show 1 < 2 by omega)
      have f0 := HQ8.out.frozen (show 0 < 2 by omega)
      have f1 := HQ8.out.frozen (show 1 < 2 by omega)
      have hwz := HB.out.size
      have hCz := HC.out.lt
      clear hR8 hb8 hl8 c0 c1 c2 c3 c4 c5 c6
      rw [HJ.out] at HR8
      go_wp2_with fail
      refine bodyPost_ret (v := .agg #[.int .i64 (dn : Int), .slice A8 n c8]) (by simp [results, Try.results65, go_sem, q0, q1]) rfl ⟨_, rfl, ?_, ?_⟩
      · exact ((HR8.out.under (by show w.heap.size + 1 + 1 < wr.heap.size; omega) _).under (by show w.heap.size + 1 + 1 < wr.heap.size; omega) _).weak hwz
      · iterate 2 (refine Below.setCell ?_ (by show w.heap.size ≤ w.heap.size + 1 + 1; omega) _)
        exact HB8.out

set_option maxRecDepth 100000 in
set_option maxHeartbeats 4000000 in
theorem joined_any (dn : Nat) (d2 : Int) (A1 A2 : Option Addr) (n n2 c1' c2' : Nat) (ks ls : List (List Int)) (w : World) (hn : n ≤ 7) (hn2 : n2 ≤ 7) (hd : dn ≤ 9) (h1 : KnobsA w A1 n ks) (h2 : KnobsA w A2 n2 ls) (s1 : SmallP ks) (s2 : SmallP ls) :
    Calls Try.prog 34 #[.agg #[.int .i64 (dn : Int), .slice A1 n c1'], .agg #[.int .i64 d2, .slice A2 n2 c2']] w (PinsGot w dn (jnL (fun x y => x || y) dn ks ls n)) := by
  have H1 := Lib.hid h1
  have H2 := Lib.hid h2
  have HJ := Lib.hid (jn_eq (g := orN) (b := (fun x y => x || y)) orN_bit s1 s2 dn n)
  have hA : ∀ j, mkP ks j < 2 ^ 9 := mkP_lt s1
  have hB : ∀ j, mkP ls j < 2 ^ 9 := mkP_lt s2
  have HLA := Lib.hid hA
  have HLB := Lib.hid hB
  have HLJ : Hid (∀ j, jnM orN ks ls j < 2 ^ 9) := Lib.hid (fun j => orN_lt (hA j) (hB j))
  have S1 := Lib.hid s1
  have S2 := Lib.hid s2
  clear h1 h2 s1 s2 hA hB
  obtain ⟨W3, hW3⟩ : ∃ W3, ((w.alloc (.cells #[.int .i64 (dn : Int), .slice A1 n c1'] 26)).alloc (.cells #[.int .i64 d2, .slice A2 n2 c2'] 26)).alloc (.cells #[.int .i64 0, .slice none 0 0] 26) = W3 := ⟨_, rfl⟩
  have HB3 := Lib.hid (show Below w.heap.size w W3 from by rw [← hW3]; (repeat (first | assumption | exact Below.refl _ _ | (refine Below.alloc ?_ (by first | omega | (simp; done) | (simp; omega)) _) | (refine Below.setCell ?_ (by first | omega | (simp; done) | (simp; omega)) _) | refine bel_drewN ?_ _ | refine bel_drew ?_ | (refine bel_call ?_ (by assumption)))))
  have CP := Lib.hid (show Cells W3 w.heap.size 2 (pF (dn : Int) (.slice A1 n c1')) from by rw [← hW3]; exact ((Cells.new (n := 2) rfl rfl).alloc _).alloc _)
  have CR := Lib.hid (show Cells W3 (w.heap.size + 1) 2 (pF d2 (.slice A2 n2 c2')) from by rw [← hW3]; exact (Cells.new (n := 2) (by simp) rfl).alloc _)
  have CQ := Lib.hid (show Cells W3 (w.heap.size + 1 + 1) 2 (pF 0 (.slice none 0 0)) from by rw [← hW3]; exact Cells.new (n := 2) (by simp) rfl)
  have hzW : w.heap.size + 3 = W3.heap.size := by rw [← hW3]; simp
  have HW := Lib.hid hW3
  clear hW3
  go_enter Try.func34, Try.ntmps34
  go_wp2_with fail
  rw [HW.out]
  refine (cuts_any _ _ _ _ ks _ hn (H1.out.below HB3.out) S1.out).mono ?_
  rintro e w4 ⟨rfl, hb4⟩
  have HB4 := Lib.hid (bel_call HB3.out hb4)
  have CP4 := Lib.hid (CP.out.call hb4)
  have CR4 := Lib.hid (CR.out.call hb4)
  have CQ4 := Lib.hid (CQ.out.call hb4)
  have hz4 := hb4.size
  clear HW CP CR CQ HB3 hb4
  obtain ⟨W5, hW5⟩ : ∃ W5, w4.alloc (.cells #[.int .i64 (mkP ks 0 : Int), .int .i64 (mkP ks 1 : Int), .int .i64 (mkP ks 2 : Int), .int .i64 (mkP ks 3 : Int), .int .i64 (mkP ks 4 : Int), .int .i64 (mkP ks 5 : Int), .int .i64 (mkP ks 6 : Int)] 76) = W5 := ⟨_, rfl⟩
  have HB5 := Lib.hid (show Below w.heap.size w W5 from by rw [← hW5]; exact HB4.out.alloc HB4.out.size _)
  have CP5 := Lib.hid (show Cells W5 w.heap.size 2 (pF (dn : Int) (.slice A1 n c1')) from by rw [← hW5]; exact CP4.out.alloc _)
  have CR5 := Lib.hid (show Cells W5 (w.heap.size + 1) 2 (pF d2 (.slice A2 n2 c2')) from by rw [← hW5]; exact CR4.out.alloc _)
  have CQ5 := Lib.hid (show Cells W5 (w.heap.size + 1 + 1) 2 (pF 0 (.slice none 0 0)) from by rw [← hW5]; exact CQ4.out.alloc _)
  have CC5 := Lib.hid (show Cells W5 w4.heap.size 7 (fun j => .int .i64 (mkP ks j : Int)) from by
    rw [← hW5]
    exact (Cells.new (n := 7) rfl rfl).congr (f' := fun j => .int .i64 (mkP ks j : Int)) fun j hj => by
      have : j = 0 ∨ j = 1 ∨ j = 2 ∨ j = 3 ∨ j = 4 ∨ j = 5 ∨ j = 6 := by omega
      rcases this with rfl | rfl | rfl | rfl | rfl | rfl | rfl <;> rfl)
  have HW5 := Lib.hid hW5
  have r0 : (w4.alloc (.cells #[.int .i64 (mkP ks 0 : Int), .int .i64 (mkP ks 1 : Int), .int .i64 (mkP ks 2 : Int), .int .i64 (mkP ks 3 : Int), .int .i64 (mkP ks 4 : Int), .int .i64 (mkP ks 5 : Int), .int .i64 (mkP ks 6 : Int)] 76)).cell? ⟨w.heap.size + 1, 0, none⟩ = some (.int .i64 d2) := by rw [hW5]; exact CR5.out.cell (show 0 < 2 by omega)
  have r1 : (w4.alloc (.cells #[.int .i64 (mkP ks 0 : Int), .int .i64 (mkP ks 1 : Int), .int .i64 (mkP ks 2 : Int), .int .i64 (mkP ks 3 : Int), .int .i64 (mkP ks 4 : Int), .int .i64 (mkP ks 5 : Int), .int .i64 (mkP ks 6 : Int)] 76)).cell? ⟨w.heap.size + 1, 1, none⟩ = some (.slice A2 n2 c2') := by rw [hW5]; exact CR5.out.cell (show 1 < 2 by omega)
  clear hW5
  unfold cutV
  go_wp2_with fail
  clear r0 r1
  rw [HW5.out]
  refine (cuts_any _ _ _ _ ls _ hn2 (H2.out.below HB5.out) S2.out).mono ?_
  rintro e w6 ⟨rfl, hb6⟩
  have HB6 := Lib.hid (bel_call HB5.out hb6)
  have CP6 := Lib.hid (CP5.out.call hb6)
  have CQ6 := Lib.hid (CQ5.out.call hb6)
  have CC6 := Lib.hid (CC5.out.call hb6)
  clear HW5 CP5 CR5 CQ5 CC5 HB5 hb6 CP4 CR4 CQ4 HB4
  obtain ⟨C, hC⟩ : ∃ C, w4.heap.size = C := ⟨_, rfl⟩
  rw [hC] at CC6 hz4 ⊢
  clear hC
  unfold cutV
  go_wp2_with fail
  go_loopw [12] (fun iv wr => ∃ k : Nat, k ≤ 7 ∧ iv = .int .i64 k ∧ Cells wr w.heap.size 2 (pF (dn : Int) (.slice A1 n c1')) ∧ Cells wr (w.heap.size + 1 + 1) 2 (pF 0 (.slice none 0 0)) ∧ Cells wr C 7 (fun j => if j < k then .int .i64 (jnM orN ks ls j : Int) else .int .i64 (mkP ks j : Int)) ∧ Below w.heap.size w wr) (fun iv _ => 7 - (intOf iv).toNat)
  case atStart => exact ⟨0, by omega, rfl, CP6.out, CQ6.out, CC6.out.congr (fun j _ => by rw [if_neg (by omega)]), HB6.out⟩
  case round =>
    clear CP6 CQ6 CC6 HB6
    obtain ⟨k, hk, rfl, hP, hQ, hC, hB⟩ := hrel
    have HP := Lib.hid hP
    have HQ := Lib.hid hQ
    have HC := Lib.hid hC
    have HB := Lib.hid hB
    clear hP hQ hC hB
    by_cases hlt : k < 7
    · have hix := fun W => index_seven (w := W) hlt (cutA_at (fun j => (mkP ls j : Int)) hlt)
      have p1 : wr.cell? ⟨C, k, none⟩ = some (.int .i64 (mkP ks k : Int)) := by
        have h := HC.out.cell hlt
        rw [if_neg (by omega)] at h
        exact h
      have p2 := HC.out.frozen hlt
      have hop := or_small (HLA.out k) (HLB.out k)
      have HJM : Hid (jnM orN ks ls k = orN (mkP ks k) (mkP ls k)) := Lib.hid rfl
      obtain ⟨z, hz⟩ : ∃ z, orN (mkP ks k) (mkP ls k) = z := ⟨_, rfl⟩
      have HZ : Hid (z = jnM orN ks ls k) := Lib.hid hz.symm
      have hop : bits .or .i64 (mkP ks k : Int) (mkP ls k : Int) = (z : Int) := by rw [← hz]; exact hop
      have HCN := Lib.hid ((HC.out.set_ hlt (.int .i64 (z : Int))).congr (fun j _ => jnF_step (f := mkP ks) (h := jnM orN ks ls) HZ.out j))
      have HPN := Lib.hid (HP.out.far (p := ⟨C, k, none⟩) (by show C ≠ w.heap.size; omega) (.int .i64 (z : Int)))
      have HQN := Lib.hid (HQ.out.far (p := ⟨C, k, none⟩) (by show C ≠ w.heap.size + 1 + 1; omega) (.int .i64 (z : Int)))
      clear hz HJM
      generalize mkP ks k = x at p1 hop
      generalize mkP ls k = y at hix hop
      go_wp2_with fail
      go_roundw
      case rel => exact ⟨k + 1, by omega, by go_num, HPN.out, HQN.out, HCN.out, HB.out.setCell (by show w.heap.size ≤ C; omega) _⟩
      case measure => simp [intOf]; omega
    · obtain rfl : k = 7 := by omega
      have CF : ∀ j, j < 7 → wr.cell? ⟨C, j, none⟩ = some (.int .i64 (jnM orN ks ls j : Int)) := fun j hj => by
        rw [HC.out.cell hj, if_pos hj]
      have c0 := CF 0 (by omega)
      have c1 := CF 1 (by omega)
      have c2 := CF 2 (by omega)
      have c3 := CF 3 (by omega)
      have c4 := CF 4 (by omega)
      have c5 := CF 5 (by omega)
      have c6 := CF 6 (by omega)
      have l0 : wr.cell? ⟨w.heap.size, 0, none⟩ = some (.int .i64 (dn : Int)) := HP.out.cell (show 0 < 2 by omega)
      have l1 : wr.cell? ⟨w.heap.size, 1, none⟩ = some (.slice A1 n c1') := HP.out.cell (show 1 < 2 by omega)
      clear CF
      go_wp2_with fail
      refine (withCuts_any dn A1 n c1' (jnM orN ks ls) _ hn hd HLJ.out).mono ?_
      rintro e w8 ⟨v8, rfl, hR8, hb8⟩
      have HR8 := Lib.hid hR8
      have HB8 := Lib.hid (bel_call HB.out hb8)
      have HQ8 := Lib.hid (HQ.out.call hb8)
      obtain ⟨A8, c8, rfl⟩ := hR8.slice
      have hl8 : (mkL dn (jnM orN ks ls) n).length = n := rwL_length _ _
      rw [hl8] at HR8 ⊢
      have q0 : w8.cell? ⟨w.heap.size + 1 + 1, 0, none⟩ = some (.int .i64 0) := HQ8.out.cell (show 0 < 2 by omega)
      have q1 : w8.cell? ⟨w.heap.size + 1 + 1, 1, none⟩ = some (.slice none 0 0) := HQ8.out.cell (show 1 < 2 by omega)
      have f0 := HQ8.out.frozen (show 0 < 2 by omega)
      have f1 := HQ8.out.frozen (show 1 < 2 by omega)
      have hwz := HB.out.size
      have hCz := HC.out.lt
      clear hR8 hb8 hl8 c0 c1 c2 c3 c4 c5 c6
      rw [HJ.out] at HR8
      go_wp2_with fail
      refine bodyPost_ret (v := .agg #[.int .i64 (dn : Int), .slice A8 n c8]) (by simp [results, Try.results34, go_sem, q0, q1]) rfl ⟨_, rfl, ?_, ?_⟩
      · exact ((HR8.out.under (by show w.heap.size + 1 + 1 < wr.heap.size; omega) _).under (by show w.heap.size + 1 + 1 < wr.heap.size; omega) _).weak hwz
      · iterate 2 (refine Below.setCell ?_ (by show w.heap.size ≤ w.heap.size + 1 + 1; omega) _)
        exact HB8.out

set_option maxRecDepth 100000 in
set_option maxHeartbeats 4000000 in
theorem without_any (dn : Nat) (d2 : Int) (A1 A2 : Option Addr) (n n2 c1' c2' : Nat) (ks ls : List (List Int)) (w : World) (hn : n ≤ 7) (hn2 : n2 ≤ 7) (hd : dn ≤ 9) (h1 : KnobsA w A1 n ks) (h2 : KnobsA w A2 n2 ls) (s1 : SmallP ks) (s2 : SmallP ls) :
    Calls Try.prog 38 #[.agg #[.int .i64 (dn : Int), .slice A1 n c1'], .agg #[.int .i64 d2, .slice A2 n2 c2']] w (PinsGot w dn (jnL (fun x y => x && !y) dn ks ls n)) := by
  have H1 := Lib.hid h1
  have H2 := Lib.hid h2
  have HJ := Lib.hid (jn_eq (g := notN) (b := (fun x y => x && !y)) notN_bit s1 s2 dn n)
  have hA : ∀ j, mkP ks j < 2 ^ 9 := mkP_lt s1
  have hB : ∀ j, mkP ls j < 2 ^ 9 := mkP_lt s2
  have HLA := Lib.hid hA
  have HLB := Lib.hid hB
  have HLJ : Hid (∀ j, jnM notN ks ls j < 2 ^ 9) := Lib.hid (fun j => notN_lt (hA j) (hB j))
  have S1 := Lib.hid s1
  have S2 := Lib.hid s2
  clear h1 h2 s1 s2 hA hB
  obtain ⟨W3, hW3⟩ : ∃ W3, ((w.alloc (.cells #[.int .i64 (dn : Int), .slice A1 n c1'] 26)).alloc (.cells #[.int .i64 d2, .slice A2 n2 c2'] 26)).alloc (.cells #[.int .i64 0, .slice none 0 0] 26) = W3 := ⟨_, rfl⟩
  have HB3 := Lib.hid (show Below w.heap.size w W3 from by rw [← hW3]; (repeat (first | assumption | exact Below.refl _ _ | (refine Below.alloc ?_ (by first | omega | (simp; done) | (simp; omega)) _) | (refine Below.setCell ?_ (by first | omega | (simp; done) | (simp; omega)) _) | refine bel_drewN ?_ _ | refine bel_drew ?_ | (refine bel_call ?_ (by assumption)))))
  have CP := Lib.hid (show Cells W3 w.heap.size 2 (pF (dn : Int) (.slice A1 n c1')) from by rw [← hW3]; exact ((Cells.new (n := 2) rfl rfl).alloc _).alloc _)
  have CR := Lib.hid (show Cells W3 (w.heap.size + 1) 2 (pF d2 (.slice A2 n2 c2')) from by rw [← hW3]; exact (Cells.new (n := 2) (by simp) rfl).alloc _)
  have CQ := Lib.hid (show Cells W3 (w.heap.size + 1 + 1) 2 (pF 0 (.slice none 0 0)) from by rw [← hW3]; exact Cells.new (n := 2) (by simp) rfl)
  have hzW : w.heap.size + 3 = W3.heap.size := by rw [← hW3]; simp
  have HW := Lib.hid hW3
  clear hW3
  go_enter Try.func38, Try.ntmps38
  go_wp2_with fail
  rw [HW.out]
  refine (cuts_any _ _ _ _ ks _ hn (H1.out.below HB3.out) S1.out).mono ?_
  rintro e w4 ⟨rfl, hb4⟩
  have HB4 := Lib.hid (bel_call HB3.out hb4)
  have CP4 := Lib.hid (CP.out.call hb4)
  have CR4 := Lib.hid (CR.out.call hb4)
  have CQ4 := Lib.hid (CQ.out.call hb4)
  have hz4 := hb4.size
  clear HW CP CR CQ HB3 hb4
  obtain ⟨W5, hW5⟩ : ∃ W5, w4.alloc (.cells #[.int .i64 (mkP ks 0 : Int), .int .i64 (mkP ks 1 : Int), .int .i64 (mkP ks 2 : Int), .int .i64 (mkP ks 3 : Int), .int .i64 (mkP ks 4 : Int), .int .i64 (mkP ks 5 : Int), .int .i64 (mkP ks 6 : Int)] 76) = W5 := ⟨_, rfl⟩
  have HB5 := Lib.hid (show Below w.heap.size w W5 from by rw [← hW5]; exact HB4.out.alloc HB4.out.size _)
  have CP5 := Lib.hid (show Cells W5 w.heap.size 2 (pF (dn : Int) (.slice A1 n c1')) from by rw [← hW5]; exact CP4.out.alloc _)
  have CR5 := Lib.hid (show Cells W5 (w.heap.size + 1) 2 (pF d2 (.slice A2 n2 c2')) from by rw [← hW5]; exact CR4.out.alloc _)
  have CQ5 := Lib.hid (show Cells W5 (w.heap.size + 1 + 1) 2 (pF 0 (.slice none 0 0)) from by rw [← hW5]; exact CQ4.out.alloc _)
  have CC5 := Lib.hid (show Cells W5 w4.heap.size 7 (fun j => .int .i64 (mkP ks j : Int)) from by
    rw [← hW5]
    exact (Cells.new (n := 7) rfl rfl).congr (f' := fun j => .int .i64 (mkP ks j : Int)) fun j hj => by
      have : j = 0 ∨ j = 1 ∨ j = 2 ∨ j = 3 ∨ j = 4 ∨ j = 5 ∨ j = 6 := by omega
      rcases this with rfl | rfl | rfl | rfl | rfl | rfl | rfl <;> rfl)
  have HW5 := Lib.hid hW5
  have r0 : (w4.alloc (.cells #[.int .i64 (mkP ks 0 : Int), .int .i64 (mkP ks 1 : Int), .int .i64 (mkP ks 2 : Int), .int .i64 (mkP ks 3 : Int), .int .i64 (mkP ks 4 : Int), .int .i64 (mkP ks 5 : Int), .int .i64 (mkP ks 6 : Int)] 76)).cell? ⟨w.heap.size + 1, 0, none⟩ = some (.int .i64 d2) := by rw [hW5]; exact CR5.out.cell (show 0 < 2 by omega)
  have r1 : (w4.alloc (.cells #[.int .i64 (mkP ks 0 : Int), .int .i64 (mkP ks 1 : Int), .int .i64 (mkP ks 2 : Int), .int .i64 (mkP ks 3 : Int), .int .i64 (mkP ks 4 : Int), .int .i64 (mkP ks 5 : Int), .int .i64 (mkP ks 6 : Int)] 76)).cell? ⟨w.heap.size + 1, 1, none⟩ = some (.slice A2 n2 c2') := by rw [hW5]; exact CR5.out.cell (show 1 < 2 by omega)
  clear hW5
  unfold cutV
  go_wp2_with fail
  clear r0 r1
  rw [HW5.out]
  refine (cuts_any _ _ _ _ ls _ hn2 (H2.out.below HB5.out) S2.out).mono ?_
  rintro e w6 ⟨rfl, hb6⟩
  have HB6 := Lib.hid (bel_call HB5.out hb6)
  have CP6 := Lib.hid (CP5.out.call hb6)
  have CQ6 := Lib.hid (CQ5.out.call hb6)
  have CC6 := Lib.hid (CC5.out.call hb6)
  clear HW5 CP5 CR5 CQ5 CC5 HB5 hb6 CP4 CR4 CQ4 HB4
  obtain ⟨C, hC⟩ : ∃ C, w4.heap.size = C := ⟨_, rfl⟩
  rw [hC] at CC6 hz4 ⊢
  clear hC
  unfold cutV
  go_wp2_with fail
  go_loopw [12] (fun iv wr => ∃ k : Nat, k ≤ 7 ∧ iv = .int .i64 k ∧ Cells wr w.heap.size 2 (pF (dn : Int) (.slice A1 n c1')) ∧ Cells wr (w.heap.size + 1 + 1) 2 (pF 0 (.slice none 0 0)) ∧ Cells wr C 7 (fun j => if j < k then .int .i64 (jnM notN ks ls j : Int) else .int .i64 (mkP ks j : Int)) ∧ Below w.heap.size w wr) (fun iv _ => 7 - (intOf iv).toNat)
  case atStart => exact ⟨0, by omega, rfl, CP6.out, CQ6.out, CC6.out.congr (fun j _ => by rw [if_neg (by omega)]), HB6.out⟩
  case round =>
    clear CP6 CQ6 CC6 HB6
    obtain ⟨k, hk, rfl, hP, hQ, hC, hB⟩ := hrel
    have HP := Lib.hid hP
    have HQ := Lib.hid hQ
    have HC := Lib.hid hC
    have HB := Lib.hid hB
    clear hP hQ hC hB
    by_cases hlt : k < 7
    · have hix := fun W => index_seven (w := W) hlt (cutA_at (fun j => (mkP ls j : Int)) hlt)
      have p1 : wr.cell? ⟨C, k, none⟩ = some (.int .i64 (mkP ks k : Int)) := by
        have h := HC.out.cell hlt
        rw [if_neg (by omega)] at h
        exact h
      have p2 := HC.out.frozen hlt
      have hop := andNot_small (HLA.out k) (HLB.out k)
      have HJM : Hid (jnM notN ks ls k = notN (mkP ks k) (mkP ls k)) := Lib.hid rfl
      obtain ⟨z, hz⟩ : ∃ z, notN (mkP ks k) (mkP ls k) = z := ⟨_, rfl⟩
      have HZ : Hid (z = jnM notN ks ls k) := Lib.hid hz.symm
      have hop : bits .andNot .i64 (mkP ks k : Int) (mkP ls k : Int) = (z : Int) := by rw [← hz]; exact hop
      have HCN := Lib.hid ((HC.out.set_ hlt (.int .i64 (z : Int))).congr (fun j _ => jnF_step (f := mkP ks) (h := jnM notN ks ls) HZ.out j))
      have HPN := Lib.hid (HP.out.far (p := ⟨C, k, none⟩) (by show C ≠ w.heap.size; omega) (.int .i64 (z : Int)))
      have HQN := Lib.hid (HQ.out.far (p := ⟨C, k, none⟩) (by show C ≠ w.heap.size + 1 + 1; omega) (.int .i64 (z : Int)))
      clear hz HJM
      generalize mkP ks k = x at p1 hop
      generalize mkP ls k = y at hix hop
      go_wp2_with fail
      go_roundw
      case rel => exact ⟨k + 1, by omega, by go_num, HPN.out, HQN.out, HCN.out, HB.out.setCell (by show w.heap.size ≤ C; omega) _⟩
      case measure => simp [intOf]; omega
    · obtain rfl : k = 7 := by omega
      have CF : ∀ j, j < 7 → wr.cell? ⟨C, j, none⟩ = some (.int .i64 (jnM notN ks ls j : Int)) := fun j hj => by
        rw [HC.out.cell hj, if_pos hj]
      have c0 := CF 0 (by omega)
      have c1 := CF 1 (by omega)
      have c2 := CF 2 (by omega)
      have c3 := CF 3 (by omega)
      have c4 := CF 4 (by omega)
      have c5 := CF 5 (by omega)
      have c6 := CF 6 (by omega)
      have l0 : wr.cell? ⟨w.heap.size, 0, none⟩ = some (.int .i64 (dn : Int)) := HP.out.cell (show 0 < 2 by omega)
      have l1 : wr.cell? ⟨w.heap.size, 1, none⟩ = some (.slice A1 n c1') := HP.out.cell (show 1 < 2 by omega)
      clear CF
      go_wp2_with fail
      refine (withCuts_any dn A1 n c1' (jnM notN ks ls) _ hn hd HLJ.out).mono ?_
      rintro e w8 ⟨v8, rfl, hR8, hb8⟩
      have HR8 := Lib.hid hR8
      have HB8 := Lib.hid (bel_call HB.out hb8)
      have HQ8 := Lib.hid (HQ.out.call hb8)
      obtain ⟨A8, c8, rfl⟩ := hR8.slice
      have hl8 : (mkL dn (jnM notN ks ls) n).length = n := rwL_length _ _
      rw [hl8] at HR8 ⊢
      have q0 : w8.cell? ⟨w.heap.size + 1 + 1, 0, none⟩ = some (.int .i64 0) := HQ8.out.cell (show 0 < 2 by omega)
      have q1 : w8.cell? ⟨w.heap.size + 1 + 1, 1, none⟩ = some (.slice none 0 0) := HQ8.out.cell (show 1 < 2 by omega)
      have f0 := HQ8.out.frozen (show 0 < 2 by omega)
      have f1 := HQ8.out.frozen (show 1 < 2 by omega)
      have hwz := HB.out.size
      have hCz := HC.out.lt
      clear hR8 hb8 hl8 c0 c1 c2 c3 c4 c5 c6
      rw [HJ.out] at HR8
      go_wp2_with fail
      refine bodyPost_ret (v := .agg #[.int .i64 (dn : Int), .slice A8 n c8]) (by simp [results, Try.results38, go_sem, q0, q1]) rfl ⟨_, rfl, ?_, ?_⟩
      · exact ((HR8.out.under (by show w.heap.size + 1 + 1 < wr.heap.size; omega) _).under (by show w.heap.size + 1 + 1 < wr.heap.size; omega) _).weak hwz
      · iterate 2 (refine Below.setCell ?_ (by show w.heap.size ≤ w.heap.size + 1 + 1; omega) _)
        exact HB8.out

end Go.Proofs.Ytaajklkldfgppaa
