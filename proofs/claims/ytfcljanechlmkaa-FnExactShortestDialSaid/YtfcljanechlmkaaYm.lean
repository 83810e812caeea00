/- Opening turns of a code, as both programs tell them. For lists of at most 1048576 numbers. -/
import Derived.Test.YtfcljanechlmkaaYg
import Derived.Test.YtfcljanechlmkaaYj
import Derived.Test.YtfcljanechlmkaaYi
namespace Go.Proofs.Ytfcljanechlmkaa
open Go.ChangeShapes Go.WideShapes Go.ChangeAt Go.RowKit Go.Joins

/-- The number that is read ahead of the step i. -/
def stA (s : Int) (xs : List Int) : Nat → Int
  | 0 => s
  | i + 1 => xs.getD i 0

/-- The sign of the step i. -/
def byA : Nat → Int
  | 0 => 1
  | i + 1 => -(byA i)

theorem byA_is (i : Nat) : byA i = 1 ∨ byA i = -1 := by
  induction i with
  | zero => exact .inl rfl
  | succ i ih => rw [byA]; rcases ih with h | h <;> rw [h] <;> simp

/-- The step i of N. -/
def opE (m s : Int) (xs : List Int) (N i : Nat) : Int := byA i * (fpI m (stA s xs i) (xs.getD i 0) (byA i) + ((N : Int) - 1 - (i : Int)) * m)

/-- The first i steps. -/
def opL (m s : Int) (xs : List Int) (N : Nat) : Nat → List Int
  | 0 => []
  | i + 1 => opL m s xs N i ++ [opE m s xs N i]

theorem opL_length (m s : Int) (xs : List Int) (N i : Nat) : (opL m s xs N i).length = i := by
  induction i with
  | zero => rfl
  | succ i ih => rw [opL, List.length_append, ih]; rfl

theorem fp_mod {m r x b : Int} (h2 : 2 ≤ m) (hb : b = 1 ∨ b = -1) (hr : 0 ≤ r ∧ r < m) (hx : 0 ≤ x ∧ x < m) : modI m (b * (x - r) - 1) + 1 = fpI m r x b := by
  have h := fpI_bd h2 hb hr hx
  obtain ⟨k, hk⟩ := @fpI_dvd m r x b
  generalize fpI m r x b = f at h hk ⊢
  have e : b * (x - r) - 1 = (f - 1) + m * k := by omega
  unfold modI
  rw [e, Int.add_mul_emod_self_left, Int.emod_eq_of_lt (by omega) (by omega)]
  omega

theorem stA_bd {m s : Int} {xs : List Int} (hs : dmB m s = true) (hx : codeB m xs = true) {i : Nat} (hi : i < xs.length) : dmB m (stA s xs i) = true := by
  cases i with
  | zero => exact hs
  | succ i =>
    have := code_at hx (k := i) (by omega)
    exact decide_eq_true this

theorem opE_bd {m s : Int} {xs : List Int} {N i : Nat} (hs : dmB m s = true) (hx : codeB m xs = true) (hN : xs.length = N) (hi : i < N) :
    1 ≤ fpI m (stA s xs i) (xs.getD i 0) (byA i) ∧ fpI m (stA s xs i) (xs.getD i 0) (byA i) ≤ 100 ∧ 0 ≤ ((N : Int) - 1 - (i : Int)) * m ∧ ((N : Int) - 1 - (i : Int)) * m ≤ 1100 := by
  obtain ⟨_, _, r0, r1⟩ := dm_yes (stA_bd hs hx (i := i) (by omega))
  obtain ⟨m2, m1, x0, x1⟩ := code_at hx (k := i) (by omega)
  have h := fpI_bd m2 (byA_is i) ⟨r0, r1⟩ ⟨x0, x1⟩
  have hl := (code_len hx).2
  have h0 : 0 ≤ ((N : Int) - 1 - (i : Int)) * m := Int.mul_nonneg (by omega) (by omega)
  have h1 : ((N : Int) - 1 - (i : Int)) * m ≤ 11 * 100 := Int.mul_le_mul (by omega) m1 (by omega) (by omega)
  exact ⟨h.1, by omega, h0, by omega⟩

set_option maxHeartbeats 1000000 in
theorem diOpen_any (m s : Int) (A : Option Addr) (n c : Nat) (xs : List Int) (w : World) (hn : n ≤ 1048576) (hs : dmB m s = true) (hx : codeB m xs = true) (hA : IntsA w A n xs) :
    Calls Try.prog 71 #[.int .i64 m, .int .i64 s, .slice A n c] w (IntsR w (opL m s xs n n)) := by
  obtain ⟨i0, hi, hy0, hy1, hy2⟩ := info_parts info_int
  have HL := Lib.hid hA.len
  have HA := Lib.hid hA
  have HS := Lib.hid hs
  have HX := Lib.hid hx
  obtain ⟨m2, m1, s0, s1⟩ := dm_yes hs
  have hl12 := (code_len hx).2
  rw [HL.out] at hl12
  clear hA hs hx
  go_enter Try.func71, Try.ntmps71
  go_wp2_with fail
  go_loopw [1, 7, 8, 14] (fun p v b i wr => ∃ k : Nat, k ≤ n ∧ i = .int .i64 k ∧ p = .int .i64 (stA s xs k) ∧ b = .int .i64 (byA k) ∧ wr.ownsRow w.heap.size 3 1 v k (iv (opL m s xs n k)) ∧ Below w.heap.size w wr) (fun _ _ _ i _ => n - (intOf i).toNat)
  case atStart => exact ⟨0, by omega, rfl, rfl, rfl, World.ownsRow_nil _ _ _ _, Below.refl _ _⟩
  case round =>
    obtain ⟨k, hk, rfl, rfl, rfl, hO, hB⟩ := hrel
    have HO := Lib.hid hO
    have HBr := Lib.hid hB
    clear hO hB
    by_cases hlt : k < n
    · obtain ⟨b, off, rfl, hb, hc⟩ := (HA.out.below HBr.out).at_.resolve_left (by omega)
      have o1 := hc k hlt
      obtain ⟨_, _, r0, r1⟩ := dm_yes (stA_bd HS.out HX.out (i := k) (by rw [HL.out]; exact hlt))
      obtain ⟨_, _, x0, x1⟩ := code_at HX.out (k := k) (by rw [HL.out]; exact hlt)
      have hby := byA_is k
      have HF := Lib.hid (fp_mod m2 hby ⟨r0, r1⟩ ⟨x0, x1⟩)
      obtain ⟨f0, f1, g0, g1⟩ := opE_bd HS.out HX.out HL.out hlt
      have HE : Hid (opL m s xs n (k + 1) = opL m s xs n k ++ [byA k * (fpI m (stA s xs k) (xs.getD k 0) (byA k) + ((n : Int) - 1 - (k : Int)) * m)]) := Lib.hid rfl
      have HNB : Hid (byA (k + 1) = -(byA k)) := Lib.hid rfl
      have HNS : Hid (stA s xs (k + 1) = xs.getD k 0) := Lib.hid rfl
      generalize xs.getD k 0 = x at o1 x0 x1 HF f0 f1 HE HNS
      generalize stA s xs k = r at r0 r1 HF f0 f1 HE
      generalize byA k = y at hby HF f0 f1 HE HNB
      generalize fpI m r x y = f at HF f0 f1 HE
      generalize hg : ((n : Int) - 1 - (k : Int)) * m = g at g0 g1 HE
      have HG := Lib.hid hg
      clear hg hc
      have hsz := HBr.out.size
      have hyb : -100 ≤ y * (x - r) ∧ y * (x - r) ≤ 100 := by rcases hby with rfl | rfl <;> omega
      have hyf : -1200 ≤ y * (f + g) ∧ y * (f + g) ≤ 1200 := by rcases hby with rfl | rfl <;> omega
      have hy1' : -1 ≤ y ∧ y ≤ 1 := by rcases hby with rfl | rfl <;> omega
      obtain ⟨q, hq⟩ : ∃ q, modI m (y * (x - r) - 1) = q := ⟨_, rfl⟩
      have HQ := Lib.hid hq
      rw [hq] at HF
      have hqf : q = f - 1 := by have := HF.out; omega
      have hw1 : IntKind.i64.wrap (y * (x - r)) = y * (x - r) := IntWalk.i64_in _ (by omega)
      have hw2 : IntKind.i64.wrap (y * (x - r) - 1) = y * (x - r) - 1 := IntWalk.i64_in _ (by omega)
      have hw3 : IntKind.i64.wrap (q + 1) = f := by rw [hqf, show f - 1 + 1 = f by omega]; exact IntWalk.i64_in _ (by omega)
      have hw4 : IntKind.i64.wrap (((n : Int) - 1 - (k : Int)) * m) = g := by rw [HG.out]; exact IntWalk.i64_in _ (by omega)
      have hw5 : IntKind.i64.wrap (f + g) = f + g := IntWalk.i64_in _ (by omega)
      have hw6 : IntKind.i64.wrap (y * (f + g)) = y * (f + g) := IntWalk.i64_in _ (by omega)
      have hw7 : IntKind.i64.wrap (-y) = -y := IntWalk.i64_in _ (by omega)
      clear hq hqf
      go_wp2_with (first | (go_at_call 57; refine (l1Mod_m _ _ _ m2 m1).mono ?_; rw [HQ.out]; rintro e wq ⟨rfl, hwq⟩; replace hwq := hwq.symm; subst hwq) | (at_builtin; refine wpList_append_own _ rfl _ _ 22 rfl w.heap.size 3 i0 (.int .i64 0) 1 8 Try.underlying22 hi hy0 hy1 hy2 rfl (by decide) _ _ _ rfl (HO.out.alloc _) ⟨wr.heap.size, 0, none⟩ 1 1 [.int .i64 (y * (f + g))] rfl rfl (new_one rfl) (by simp [Value.oneCell']) (by unfold maxLen; omega) (by omega) (by simp; omega) ?_; intro v9 w9 hown9 hgrow9 hiff9; clear hiff9))
      have HO9 : Hid (w9.ownsRow w.heap.size 3 1 v9 (k + 1) (iv (opL m s xs n (k + 1)))) := Lib.hid (by rw [HE.out, iv, List.map_append]; exact hown9)
      have HB9 : Hid (Below w.heap.size w w9) := Lib.hid ((HBr.out.alloc hsz _).grown hgrow9 (by simp; omega) (fun j hj => (HO.out.lt j hj).1))
      clear hown9 hgrow9
      go_wp2_with fail
      go_roundw
      case rel => exact ⟨k + 1, by omega, by go_num, by rw [HNS.out], by rw [HNB.out], HO9.out, HB9.out⟩
      case measure => simp [intOf]; omega
    · obtain rfl : k = n := by omega
      obtain ⟨A9, c9, hv, hL⟩ := LI.of_row (xs := opL m s xs k k) (by rw [opL_length]; exact HO.out) (by rw [opL_length]; omega)
      rw [opL_length] at hv
      subst hv
      go_wp2_with fail
      go_ret
      exact intsR_mk rfl (opL_length _ _ _ _ _) hL HBr.out

end Go.Proofs.Ytfcljanechlmkaa
