/- Cuts joined by the model; kinds of pins; how many keys open. For at most 9 depths and 7 places. -/
import Derived.Test.YtaajklkldfgppaaVj
import Derived.Deep.RegionHeld3
namespace Go.Proofs.Ytaajklkldfgppaa
open Go.ChangeShapes Go.WideShapes Go.ChangeAt Go.RowKit Go.Joins

theorem hasB_take {xs : List Int} {e k : Nat} (hk : k < xs.length) (h : xs.getD k 0 = (e : Int)) : hasB xs e = true := by
  refine decide_eq_true ?_
  rw [← h]
  simp only [List.getD, List.getElem?_eq_getElem hk, Option.getD_some]
  exact List.getElem_mem _

theorem hasB_none {xs : List Int} {e : Nat} (h : ∀ k, k < xs.length → xs.getD k 0 ≠ (e : Int)) : hasB xs e = false := by
  refine decide_eq_false fun hm => ?_
  obtain ⟨i, h1, h2⟩ := List.getElem_of_mem hm
  refine h i h1 ?_
  simp only [List.getD, List.getElem?_eq_getElem h1, Option.getD_some]
  exact h2

theorem l1Has_any (A : Option Addr) (n c : Nat) (xs : List Int) (e : Nat) (w : World) (hm : n ≤ 1048576) (hA : IntsA w A n xs) :
    Calls Try.prog 28 #[.slice A n c, .int .i64 (e : Int)] w fun x w' => x = .returned (.bool (hasB xs e)) ∧ w' = w := by
  have HL := Lib.hid hA.len
  have HA := Lib.hid hA
  clear hA
  go_enter Try.func28, Try.ntmps28
  go_wp2_with fail
  go_loop [9] (fun i => ∃ k : Nat, k ≤ n ∧ i = .int .i64 k ∧ ∀ j, j < k → xs.getD j 0 ≠ (e : Int)) (fun i => n - (intOf i).toNat)
  case atStart => exact ⟨0, by omega, rfl, fun j hj => by omega⟩
  case round =>
    obtain ⟨k, hk, rfl, hno⟩ := hrel
    have HNO := Lib.hid hno
    clear hno
    by_cases hlt : k < n
    · obtain ⟨b, off, rfl, hb, hc⟩ := HA.out.at_.resolve_left (by omega)
      have o1 := hc k hlt
      clear hc
      obtain ⟨x, hx⟩ : ∃ x, xs.getD k 0 = x := ⟨_, rfl⟩
      have HX := Lib.hid hx
      rw [hx] at o1
      clear hx
      by_cases hxe : x = (e : Int)
      · subst hxe
        go_wp2_with fail
        go_ret
        exact ⟨ret_bool (hasB_take (by rw [HL.out]; exact hlt) HX.out).symm, rfl⟩
      · have hxe' : (x == (e : Int)) = false := by simpa using hxe
        go_wp2_with fail
        go_round
        case rel => exact ⟨k + 1, by omega, by go_num, fun j hj => by
          by_cases h : j = k
          · subst h; rw [HX.out]; exact hxe
          · exact HNO.out j (by omega)⟩
        case measure => simp [intOf]; omega
    · obtain rfl : k = n := by omega
      go_wp2_with fail
      go_ret
      exact ⟨ret_bool (hasB_none (by rw [HL.out]; exact HNO.out)).symm, rfl⟩

/-- Pins of one kind. -/
def kindB (d1 : Int) (n1 : Nat) (d2 : Int) (n2 : Nat) : Bool := decide (d1 = d2) && decide (n1 = n2)

theorem keKind_any (d1 d2 : Int) (A1 A2 : Option Addr) (n1 n2 c1 c2 : Nat) (w : World) :
    Calls Try.prog 73 #[.agg #[.int .i64 d1, .slice A1 n1 c1], .agg #[.int .i64 d2, .slice A2 n2 c2]] w fun e w' => e = .returned (.bool (kindB d1 n1 d2 n2)) ∧ Below w.heap.size w w' := by
  by_cases h : d1 = d2
  · subst h
    go_enter Try.func73, Try.ntmps73
    go_wp2_with fail
    go_ret
    refine ⟨ret_bool ?_, by (repeat (first | assumption | exact Below.refl _ _ | (refine Below.alloc ?_ (by first | omega | (simp; done) | (simp; omega)) _) | (refine Below.setCell ?_ (by first | omega | (simp; done) | (simp; omega)) _) | refine bel_drewN ?_ _ | refine bel_drew ?_ | (refine bel_call ?_ (by assumption))))⟩
    unfold kindB
    rw [decide_eq_true rfl, Bool.true_and, Bool.eq_iff_iff]
    simp
    omega
  · have h' : (d1 == d2) = false := by simpa using h
    go_enter Try.func73, Try.ntmps73
    go_wp2_with fail
    go_ret
    refine ⟨ret_bool ?_, by (repeat (first | assumption | exact Below.refl _ _ | (refine Below.alloc ?_ (by first | omega | (simp; done) | (simp; omega)) _) | (refine Below.setCell ?_ (by first | omega | (simp; done) | (simp; omega)) _) | refine bel_drewN ?_ _ | refine bel_drew ?_ | (refine bel_call ?_ (by assumption))))⟩
    unfold kindB
    rw [decide_eq_false h]
    rfl

theorem isOfKindOf_any (d1 d2 : Int) (A1 A2 : Option Addr) (n1 n2 c1 c2 : Nat) (w : World) :
    Calls Try.prog 81 #[.agg #[.int .i64 d1, .slice A1 n1 c1], .agg #[.int .i64 d2, .slice A2 n2 c2]] w fun e w' => e = .returned (.bool (kindB d1 n1 d2 n2)) ∧ Below w.heap.size w w' := by
  by_cases h : d1 = d2
  · subst h
    go_enter Try.func81, Try.ntmps81
    go_wp2_with fail
    go_ret
    refine ⟨ret_bool ?_, by (repeat (first | assumption | exact Below.refl _ _ | (refine Below.alloc ?_ (by first | omega | (simp; done) | (simp; omega)) _) | (refine Below.setCell ?_ (by first | omega | (simp; done) | (simp; omega)) _) | refine bel_drewN ?_ _ | refine bel_drew ?_ | (refine bel_call ?_ (by assumption))))⟩
    unfold kindB
    rw [decide_eq_true rfl, Bool.true_and, Bool.eq_iff_iff]
    simp
    omega
  · have h' : (d1 == d2) = false := by simpa using h
    go_enter Try.func81, Try.ntmps81
    go_wp2_with fail
    go_ret
    refine ⟨ret_bool ?_, by (repeat (first | assumption | exact Below.refl _ _ | (refine Below.alloc ?_ (by first | omega | (simp; done) | (simp; omega)) _) | (refine Below.setCell ?_ (by first | omega | (simp; done) | (simp; omega)) _) | refine bel_drewN ?_ _ | refine bel_drew ?_ | (refine bel_call ?_ (by assumption))))⟩
    unfold kindB
    rw [decide_eq_false h]
    rfl

/-- How many keys open, by the first k places. -/
def ctP (ks : List (List Int)) : Nat → Nat
  | 0 => 1
  | k + 1 => ctP ks k * (ks.getD k []).length

theorem ctP_le {ks : List (List Int)} (h : ∀ i, (ks.getD i []).length ≤ 9) (k : Nat) : ctP ks k ≤ 9 ^ k := by
  induction k with
  | zero => exact Nat.le_refl _
  | succ k ih => rw [ctP, Nat.pow_succ]; exact Nat.mul_le_mul ih (h k)

theorem pow9_le {k : Nat} (h : k ≤ 7) : 9 ^ k ≤ 4782969 := Nat.le_trans (Nat.pow_le_pow_right (by decide) h) (by decide)

def Nine (ks : List (List Int)) : Prop := ∀ i, (ks.getD i []).length ≤ 9

theorem countKeysP_any (d : Int) (A : Option Addr) (n c : Nat) (ks : List (List Int)) (w : World) (hn : n ≤ 7) (hA : KnobsA w A n ks) (h9 : Nine ks) :
    Calls Try.prog 76 #[.agg #[.int .i64 d, .slice A n c]] w fun e w' => e = .returned (.int .i64 (ctP ks n : Int)) ∧ Below w.heap.size w w' := by
  have H9 := Lib.hid h9
  have HB0 := Lib.hid (show Below w.heap.size w (w.alloc (.cells #[.int .i64 d, .slice A n c] 26)) from (Below.refl _ _).alloc (Nat.le_refl _) _)
  have HA := Lib.hid (hA.below HB0.out)
  clear hA h9
  go_enter Try.func76, Try.ntmps76
  go_wp2_with fail
  go_loop [3, 9] (fun r i => ∃ k : Nat, k ≤ n ∧ i = .int .i64 k ∧ r = .int .i64 (ctP ks k : Int)) (fun _ i => n - (intOf i).toNat)
  case atStart => exact ⟨0, by omega, rfl, rfl⟩
  case round =>
    obtain ⟨k, hk, rfl, rfl⟩ := hrel
    by_cases hlt : k < n
    · obtain ⟨b, off, rfl, hb, hc⟩ := HA.out.at_.resolve_left (by omega)
      obtain ⟨Ak, ck, o1, _, hI⟩ := hc k hlt
      have h1 := ctP_le H9.out k
      have h2 := H9.out k
      have h3 := pow9_le (k := k) (by omega)
      have HX : Hid (ctP ks (k + 1) = ctP ks k * (ks.getD k []).length) := Lib.hid rfl
      generalize (ks.getD k []).length = m at o1 h2 HX
      have h4 : ctP ks k * m ≤ 43046721 := Nat.le_trans (Nat.mul_le_mul (Nat.le_trans h1 h3) h2) (by decide)
      have h5 : (0 : Int) ≤ (ctP ks k : Int) * (m : Int) ∧ (ctP ks k : Int) * (m : Int) ≤ 43046721 := ⟨by rw [← Int.natCast_mul]; omega, by rw [← Int.natCast_mul]; omega⟩
      have HM : Hid ((ctP ks k : Int) * (m : Int) = ((ctP ks k * m : Nat) : Int)) := Lib.hid (by rw [Int.natCast_mul])
      generalize ctP ks k = z at h5 HM HX
      clear hc hI h1 h3 h4
      go_wp2_with fail
      go_round
      case rel => exact ⟨k + 1, by omega, by go_num, congrArg (Value.int .i64) (by rw [HX.out, ← HM.out])⟩
      case measure => simp [intOf]; omega
    · obtain rfl : k = n := by omega
      go_wp2_with fail
      go_ret
      exact ⟨rfl, HB0.out⟩

theorem keCount_any (d : Int) (A : Option Addr) (n c : Nat) (ks : List (List Int)) (w : World) (hn : n ≤ 7) (hA : KnobsA w A n ks) (h9 : Nine ks) :
    Calls Try.prog 41 #[.agg #[.int .i64 d, .slice A n c]] w fun e w' => e = .returned (.int .i64 (ctP ks n : Int)) ∧ Below w.heap.size w w' := by
  have H9 := Lib.hid h9
  have HB0 := Lib.hid (show Below w.heap.size w (w.alloc (.cells #[.int .i64 d, .slice A n c] 26)) from (Below.refl _ _).alloc (Nat.le_refl _) _)
  have HA := Lib.hid (hA.below HB0.out)
  clear hA h9
  go_enter Try.func41, Try.ntmps41
  go_wp2_with fail
  go_loop [3, 9] (fun r i => ∃ k : Nat, k ≤ n ∧ i = .int .i64 k ∧ r = .int .i64 (ctP ks k : Int)) (fun _ i => n - (intOf i).toNat)
  case atStart => exact ⟨0, by omega, rfl, rfl⟩
  case round =>
    obtain ⟨k, hk, rfl, rfl⟩ := hrel
    by_cases hlt : k < n
    · obtain ⟨b, off, rfl, hb, hc⟩ := HA.out.at_.resolve_left (by omega)
      obtain ⟨Ak, ck, o1, _, hI⟩ := hc k hlt
      have h1 := ctP_le H9.out k
      have h2 := H9.out k
      have h3 := pow9_le (k := k) (by omega)
      have HX : Hid (ctP ks (k + 1) = ctP ks k * (ks.getD k []).length) := Lib.hid rfl
      generalize (ks.getD k []).length = m at o1 h2 HX
      have h4 : ctP ks k * m ≤ 43046721 := Nat.le_trans (Nat.mul_le_mul (Nat.le_trans h1 h3) h2) (by decide)
      have h5 : (0 : Int) ≤ (ctP ks k : Int) * (m : Int) ∧ (ctP ks k : Int) * (m : Int) ≤ 43046721 := ⟨by rw [← Int.natCast_mul]; omega, by rw [← Int.natCast_mul]; omega⟩
      have HM : Hid ((ctP ks k : Int) * (m : Int) = ((ctP ks k * m : Nat) : Int)) := Lib.hid (by rw [Int.natCast_mul])
      generalize ctP ks k = z at h5 HM HX
      clear hc hI h1 h3 h4
      go_wp2_with fail
      go_round
      case rel => exact ⟨k + 1, by omega, by go_num, congrArg (Value.int .i64) (by rw [HX.out, ← HM.out])⟩
      case measure => simp [intOf]; omega
    · obtain rfl : k = n := by omega
      go_wp2_with fail
      go_ret
      exact ⟨rfl, HB0.out⟩

theorem call_has {P : Program} {K : FuncId} {args : Array Value} {v : Value} {wr W : World} {A : Option Addr} {n : Nat} {xs : List Int} {a0 a1 : Addr} {x0 x1 : Value} (q : ∀ W, IntsA W A n xs → Calls P K args W fun x w' => x = .returned v ∧ w' = W) (hj : IntsA wr A n xs)
    (h : W.cell? a0 = some x0 ∧ W.cell? a1 = some x1 ∧ Below wr.heap.size wr W) : Calls P K args W fun x w' => x = .returned v ∧ w'.cell? a0 = some x0 ∧ w'.cell? a1 = some x1 ∧ Below wr.heap.size wr w' :=
  (q W (hj.below h.2.2)).mono fun _ _ ⟨he, hw⟩ => ⟨he, by rw [hw]; exact h⟩

/-- What is asked of both. -/
def bothB (v a b : Bool) : Bool := (a && b) || (!v && (a || b))

set_option maxRecDepth 100000 in
set_option maxHeartbeats 8000000 in
theorem keJoin_any (dn : Nat) (d2 : Int) (v : Bool) (A1 A2 : Option Addr) (n c1' c2' : Nat) (ks ls : List (List Int)) (w : World) (hn : n ≤ 7) (hd : dn ≤ 9) (h1 : KnobsA w A1 n ks) (h2 : KnobsA w A2 n ls) (n1 : Nine ks) (n2 : Nine ls) :
    Calls Try.prog 74 #[.agg #[.int .i64 (dn : Int), .slice A1 n c1'], .agg #[.int .i64 d2, .slice A2 n c2'], .bool v] w (PinsGot w dn (jnL (bothB v) dn ks ls n)) := by
  obtain ⟨i0, hi, hy0, hy1, hy2⟩ := info_parts info_int
  obtain ⟨j0, hj, hz0, hz1, hz2⟩ := info_parts info_lists
  have H1 := Lib.hid h1
  have H2 := Lib.hid h2
  have N1 := Lib.hid n1
  have N2 := Lib.hid n2
  clear h1 h2 n1 n2
  obtain ⟨W4, hW4⟩ : ∃ W4, (((w.alloc (.cells #[.int .i64 (dn : Int), .slice A1 n c1'] 26)).alloc (.cells #[.int .i64 d2, .slice A2 n c2'] 26)).alloc (.cells #[.int .i64 0, .slice none 0 0] 26)).alloc (.cells #[.int .i64 (dn : Int), .slice none 0 0] 26) = W4 := ⟨_, rfl⟩
  have HB4 := Lib.hid (show Below w.heap.size w W4 from by rw [← hW4]; (repeat (first | assumption | exact Below.refl _ _ | (refine Below.alloc ?_ (by first | omega | (simp; done) | (simp; omega)) _) | (refine Below.setCell ?_ (by first | omega | (simp; done) | (simp; omega)) _) | refine bel_drewN ?_ _ | refine bel_drew ?_ | (refine bel_call ?_ (by assumption)))))
  have CP := Lib.hid (show Cells W4 w.heap.size 2 (pF (dn : Int) (.slice A1 n c1')) from by rw [← hW4]; exact (((Cells.new (n := 2) rfl rfl).alloc _).alloc _).alloc _)
  have CC := Lib.hid (show Cells W4 (w.heap.size + 1) 2 (pF d2 (.slice A2 n c2')) from by rw [← hW4]; exact ((Cells.new (n := 2) (by simp) rfl).alloc _).alloc _)
  have CQ := Lib.hid (show Cells W4 (w.heap.size + 1 + 1) 2 (pF 0 (.slice none 0 0)) from by rw [← hW4]; exact (Cells.new (n := 2) (by simp) rfl).alloc _)
  have CT := Lib.hid (show Cells W4 (w.heap.size + 1 + 1 + 1) 2 (pF (dn : Int) (.slice none 0 0)) from by rw [← hW4]; exact Cells.new (n := 2) (by simp) rfl)
  have hz0' : w.heap.size + 4 ≤ W4.heap.size := by rw [← hW4]; simp
  have HW := Lib.hid hW4
  clear hW4
  go_enter Try.func74, Try.ntmps74
  go_wp2_with fail
  go_loopw [20] (fun i wr => ∃ (k : Nat) (u : Value), k ≤ n ∧ i = .int .i64 k ∧ RowP wr (w.heap.size + 4) u (jnL (bothB v) dn ks ls k) ∧ Cells wr w.heap.size 2 (pF (dn : Int) (.slice A1 n c1')) ∧ Cells wr (w.heap.size + 1) 2 (pF d2 (.slice A2 n c2')) ∧ Cells wr (w.heap.size + 1 + 1) 2 (pF 0 (.slice none 0 0)) ∧ Cells wr (w.heap.size + 1 + 1 + 1) 2 (pF (dn : Int) u) ∧ w.heap.size + 4 ≤ wr.heap.size ∧ Below w.heap.size w wr) (fun i _ => n - (intOf i).toNat)
  case atStart => rw [HW.out]; exact ⟨0, .slice none 0 0, by omega, rfl, rowP_nil _ _, CP.out, CC.out, CQ.out, CT.out, hz0', HB4.out⟩
  case round =>
    clear HW CP CC CQ CT HB4 hz0'
    obtain ⟨k, u, hk, rfl, hR, hP, hC, hQ, hT, hz, hB⟩ := hrel
    have HR := Lib.hid hR
    have HP := Lib.hid hP
    have HC := Lib.hid hC
    have HQ := Lib.hid hQ
    have HT := Lib.hid hT
    have HB := Lib.hid hB
    clear hR hP hC hQ hT hB
    by_cases hlt : k < n
    · obtain ⟨b1, off1, e1, hb1, hc1⟩ := (H1.out.below HB.out).at_.resolve_left (by omega)
      obtain ⟨b2, off2, e2, hb2, hc2⟩ := (H2.out.below HB.out).at_.resolve_left (by omega)
      subst e1 e2
      obtain ⟨Ak1, ck1, o1, _, hI1⟩ := hc1 k hlt
      obtain ⟨Ak2, ck2, o2, _, hI2⟩ := hc2 k hlt
      have HI1 := Lib.hid hI1
      have HI2 := Lib.hid hI2
      have hl1 := N1.out k
      have hl2 := N2.out k
      have HX : Hid (jnL (bothB v) dn ks ls (k + 1) = jnL (bothB v) dn ks ls k ++ [lsN (fun e => bothB v (hasB (ks.getD k []) e) (hasB (ls.getD k []) e)) dn]) := Lib.hid rfl
      have hkl : (jnL (bothB v) dn ks ls k).length = k := rwL_length _ _
      clear hc1 hc2 hI1 hI2
      obtain ⟨xs, hxs⟩ : ∃ xs, ks.getD k [] = xs := ⟨_, rfl⟩
      obtain ⟨ys, hys⟩ : ∃ ys, ls.getD k [] = ys := ⟨_, rfl⟩
      rw [hxs] at o1 HI1 hl1 HX
      rw [hys] at o2 HI2 hl2 HX
      clear hxs hys
      obtain ⟨p, hp⟩ : ∃ p, xs.length = p := ⟨_, rfl⟩
      obtain ⟨q, hq⟩ : ∃ q, ys.length = q := ⟨_, rfl⟩
      rw [hp] at o1 HI1 hl1
      rw [hq] at o2 HI2 hl2
      clear hp hq
      obtain ⟨w1, hw1⟩ : ∃ w1, w1 = wr := ⟨wr, rfl⟩
      subst hw1
      go_wp2_with fail
      go_loopw [10, 11] (fun u i wr => ∃ e : Nat, e ≤ dn ∧ i = .int .i64 e ∧ wr.ownsRow w1.heap.size 3 1 u (lsN (fun e => bothB v (hasB xs e) (hasB ys e)) e).length (iv (lsN (fun e => bothB v (hasB xs e) (hasB ys e)) e)) ∧ Below w1.heap.size w1 wr) (fun _ i _ => dn - (intOf i).toNat)
      case atStart => exact ⟨0, by omega, rfl, World.ownsRow_nil _ _ _ _, Below.refl _ _⟩
      case round =>
        obtain ⟨e, he, rfl, hO, hB2⟩ := hrel
        have HO := Lib.hid hO
        have HB2 := Lib.hid hB2
        have hsz := HB2.out.size
        have p0 : wr.cell? ⟨w.heap.size, 0, none⟩ = some (.int .i64 (dn : Int)) := (HP.out.call HB2.out).cell (show 0 < 2 by omega)
        clear hO hB2
        by_cases hlt2 : e < dn
        · have p1 : wr.cell? ⟨w.heap.size + 1, 1, none⟩ = some (.slice (some ⟨b2, off2, none⟩) n c2') := (HC.out.call HB2.out).cell (show 1 < 2 by omega)
          have p2 : wr.cell? ⟨b2, off2 + k, none⟩ = some (.slice Ak2 q ck2) := by rw [HB2.out.cell (p := ⟨b2, off2 + k, none⟩) hb2]; exact o2
          have HJ1 := Lib.hid (HI1.out.below HB2.out)
          have HJ2 := Lib.hid (HI2.out.below HB2.out)
          have HL : Hid (lsN (fun e => bothB v (hasB xs e) (hasB ys e)) (e + 1) = if bothB v (hasB xs e) (hasB ys e) then lsN (fun e => bothB v (hasB xs e) (hasB ys e)) e ++ [(e : Int)] else lsN (fun e => bothB v (hasB xs e) (hasB ys e)) e) := Lib.hid rfl
          have hll := lsN_length (fun e => bothB v (hasB xs e) (hasB ys e)) e
          generalize lsN (fun e => bothB v (hasB xs e) (hasB ys e)) e = L0 at HO HL hll
          obtain ⟨ta, hta⟩ : ∃ t, hasB xs e = t := ⟨_, rfl⟩
          obtain ⟨tb, htb⟩ : ∃ t, hasB ys e = t := ⟨_, rfl⟩
          have HTA := Lib.hid hta
          have HTB := Lib.hid htb
          rw [hta, htb] at HL
          clear hta htb
          have Q1 : Hid (∀ W, IntsA W Ak1 p xs → Calls Try.prog 28 #[.slice Ak1 p ck1, .int .i64 (e : Int)] W fun x w' => x = .returned (.bool ta) ∧ w' = W) := Lib.hid (fun W h => by rw [← HTA.out]; exact l1Has_any _ _ _ xs e W (by omega) h)
          have Q2 : Hid (∀ W, IntsA W Ak2 q ys → Calls Try.prog 28 #[.slice Ak2 q ck2, .int .i64 (e : Int)] W fun x w' => x = .returned (.bool tb) ∧ w' = W) := Lib.hid (fun W h => by rw [← HTB.out]; exact l1Has_any _ _ _ ys e W (by omega) h)
          go_wp2_with fail
          refine wp_region_held_drew (S := (fun w' => w'.cell? ⟨w.heap.size + 1, 1, none⟩ = some (.slice (some ⟨b2, off2, none⟩) n c2') ∧ w'.cell? ⟨b2, off2 + k, none⟩ = some (.slice Ak2 q ck2) ∧ Below wr.heap.size wr w')) (by kernel_rfl) ⟨p1, p2, bel_drew (Below.refl _ _)⟩ (fun hHeld => ?_)
          (refine wpAnyH_take (i := 0) (v := ?_) rfl (by kernel_rfl) (by kernel_rfl) (by kernel_rfl) (fun _ _ _ h => h) (Or.inl ⟨by rfl, by intro w hSw; (try dsimp only at hSw); go_simp; try with_reducible rfl⟩) (by assumption) ?_; try simp only [Act.put, List.getElem_toArray, List.getElem_cons_zero, List.setIfInBounds_toArray, List.set_cons_zero, List.set_cons_succ])
          (refine wpAnyH_take (i := 1) (v := ?_) rfl (by kernel_rfl) (by kernel_rfl) (by kernel_rfl) (fun _ _ _ h => h) (Or.inl ⟨by rfl, by intro w hSw; (try dsimp only at hSw); go_simp; try with_reducible rfl⟩) (by assumption) ?_; try simp only [Act.put, List.getElem_toArray, List.getElem_cons_zero, List.getElem_cons_succ, List.setIfInBounds_toArray, List.set_cons_zero, List.set_cons_succ])
          (refine wpAnyH_take (i := 3) (v := ?_) rfl (by kernel_rfl) (by kernel_rfl) (by kernel_rfl) (fun _ _ _ h => h) (Or.inl ⟨by rfl, by intro w hSw; (try dsimp only at hSw); go_simp; try with_reducible rfl⟩) (by assumption) ?_; try simp only [Act.put, List.getElem_toArray, List.getElem_cons_zero, List.getElem_cons_succ, List.setIfInBounds_toArray, List.set_cons_zero, List.set_cons_succ])
          (refine wpAnyH_take (i := 4) (v := ?_) rfl (by kernel_rfl) (by kernel_rfl) (by kernel_rfl) (fun _ _ _ h => h) (Or.inl ⟨by rfl, by intro w hSw; (try dsimp only at hSw); go_simp; try with_reducible rfl⟩) (by assumption) ?_; try simp only [Act.put, List.getElem_toArray, List.getElem_cons_zero, List.getElem_cons_succ, List.setIfInBounds_toArray, List.set_cons_zero, List.set_cons_succ])
          (refine wpAnyH_take (i := 5) (v := ?_) rfl (by kernel_rfl) (by kernel_rfl) (by kernel_rfl) (fun _ _ _ h => h) (Or.inl ⟨by rfl, by intro w hSw; (try dsimp only at hSw); go_simp; try with_reducible rfl⟩) (by assumption) ?_; try simp only [Act.put, List.getElem_toArray, List.getElem_cons_zero, List.getElem_cons_succ, List.setIfInBounds_toArray, List.set_cons_zero, List.set_cons_succ])
          (refine wpAnyH_take (i := 6) (v := ?_) rfl (by kernel_rfl) (by kernel_rfl) (by kernel_rfl) (fun _ _ _ h => h) (Or.inl ⟨by rfl, by intro w hSw; (try dsimp only at hSw); go_simp; try with_reducible rfl⟩) (by assumption) ?_; try simp only [Act.put, List.getElem_toArray, List.getElem_cons_zero, List.getElem_cons_succ, List.setIfInBounds_toArray, List.set_cons_zero, List.set_cons_succ])
          (refine wpAnyH_take (i := 7) (v := ?_) rfl (by kernel_rfl) (by kernel_rfl) (by kernel_rfl) (fun _ _ _ h => h) (Or.inl ⟨by rfl, by intro w hSw; (try dsimp only at hSw); go_simp; try with_reducible rfl⟩) (by assumption) ?_; try simp only [Act.put, List.getElem_toArray, List.getElem_cons_zero, List.getElem_cons_succ, List.setIfInBounds_toArray, List.set_cons_zero, List.set_cons_succ])
          (refine wpAnyH_take (i := 8) (v := ?_) rfl (by kernel_rfl) (by kernel_rfl) (by kernel_rfl) (fun _ _ _ h => h) (Or.inl ⟨by rfl, by intro w hSw; (try dsimp only at hSw); go_simp; try with_reducible rfl⟩) (by assumption) ?_; try simp only [Act.put, List.getElem_toArray, List.getElem_cons_zero, List.getElem_cons_succ, List.setIfInBounds_toArray, List.set_cons_zero, List.set_cons_succ])
          (refine wpAnyH_ready (rs := [2]) (by kernel_rfl) (by simp) (AllReadyH.cons rfl (fun K hK => ?_) AllReadyH.nil); rw [if_pos (by rfl)]; simp only [List.getElem_toArray, List.getElem_cons_zero, List.getElem_cons_succ]; go_wp2_with ((go_at_call 28; refine (call_has Q1.out HJ1.out hHeld).mono ?_; rintro e w2 ⟨rfl, hS1⟩)); refine hK.out _ _ hS1 (fun hHeld => ?_); clear hK K; try simp only [Act.put, List.getElem_toArray, List.getElem_cons_zero, List.getElem_cons_succ, List.setIfInBounds_toArray, List.set_cons_zero, List.set_cons_succ])
          (refine wpAnyH_ready (rs := [9]) (by kernel_rfl) (by simp) (AllReadyH.cons rfl (fun K hK => ?_) AllReadyH.nil); rw [if_pos (by rfl)]; simp only [List.getElem_toArray, List.getElem_cons_zero, List.getElem_cons_succ]; go_wp2_with ((go_at_call 28; refine (call_has Q2.out HJ2.out hHeld).mono ?_; rintro e w3 ⟨rfl, hS3⟩)); refine hK.out _ _ hS3 (fun hHeld => ?_); clear hK K; try simp only [Act.put, List.getElem_toArray, List.getElem_cons_zero, List.getElem_cons_succ, List.setIfInBounds_toArray, List.set_cons_zero, List.set_cons_succ])
          (refine wpAnyH_take (i := 10) (v := ?_) rfl (by kernel_rfl) (by kernel_rfl) (by kernel_rfl) (fun _ _ _ h => h) (Or.inl ⟨by rfl, by intro w hSw; (try dsimp only at hSw); go_simp; try with_reducible rfl⟩) (by assumption) ?_; try simp only [Act.put, List.getElem_toArray, List.getElem_cons_zero, List.getElem_cons_succ, List.setIfInBounds_toArray, List.set_cons_zero, List.set_cons_succ])
          (refine wpAnyH_take (i := 11) (v := ?_) rfl (by kernel_rfl) (by kernel_rfl) (by kernel_rfl) (fun _ _ _ h => h) (Or.inl ⟨by rfl, by intro w hSw; (try dsimp only at hSw); go_simp; try with_reducible rfl⟩) (by assumption) ?_; try simp only [Act.put, List.getElem_toArray, List.getElem_cons_zero, List.getElem_cons_succ, List.setIfInBounds_toArray, List.set_cons_zero, List.set_cons_succ])
          refine wpAnyH_done (by kernel_rfl) ?_ _
          have HB3 := Lib.hid (HB2.out.trans (hS3.2.2.mono hsz))
          have HO3 := Lib.hid (rowv_kept HO.out hS3.2.2)
          have hsz3 := HB3.out.size
          clear hS1 hS3 hHeld p1 p2 Q1 Q2 HJ1 HJ2 HO p0
          rcases v with _ | _ <;> rcases ta with _ | _ <;> rcases tb with _ | _
          all_goals
            first
              | (have HL' : Hid (lsN (fun e => bothB _ (hasB xs e) (hasB ys e)) (e + 1) = L0) := Lib.hid (by rw [HL.out]; rfl)
                 clear HL
                 go_wp2_with fail
                 go_roundw
                 case rel => exact ⟨e + 1, by omega, by go_num, by rw [HL'.out]; exact HO3.out, HB3.out⟩
                 case measure => simp [intOf]; omega)
              | (have HL' : Hid (lsN (fun e => bothB _ (hasB xs e) (hasB ys e)) (e + 1) = L0 ++ [(e : Int)]) := Lib.hid (by rw [HL.out]; rfl)
                 clear HL
                 go_wp2_with (at_builtin; refine wpList_append_own _ rfl _ _ 49 rfl w1.heap.size 3 i0 (.int .i64 0) 1 8 Try.underlying49 hi hy0 hy1 hy2 rfl (by decide) _ _ _ rfl (HO3.out.alloc _) ⟨_, 0, none⟩ 1 1 [.int .i64 (e : Int)] rfl rfl (newv_one rfl) (by simp [Value.oneCell']) (by unfold maxLen; omega) (by omega) (by simp; omega) ?_; intro v9 w9 hown9 hgrow9 hiff9; clear hiff9)
                 have HO9 : Hid (w9.ownsRow w1.heap.size 3 1 v9 (L0 ++ [(e : Int)]).length (iv (L0 ++ [(e : Int)]))) := Lib.hid (by rw [List.length_append, iv, List.map_append]; exact hown9)
                 have HB9 : Hid (Below w1.heap.size w1 w9) := Lib.hid ((HB3.out.alloc hsz3 _).grown hgrow9 (by simp; omega) (fun j hj => (HO3.out.lt j hj).1))
                 clear hown9 hgrow9
                 go_wp2_with fail
                 go_roundw
                 case rel => exact ⟨e + 1, by omega, by go_num, by rw [HL'.out]; exact HO9.out, HB9.out⟩
                 case measure => simp [intOf]; omega)
        · obtain rfl : e = dn := by omega
          obtain ⟨A2, c2, rfl, hL⟩ := own_list rfl HO.out
          obtain ⟨g2, hC2⟩ := listOut_at hL
          have HC2 := Lib.hid hC2
          clear hL hC2
          have HUL : Hid ((lsN (fun e => bothB v (hasB xs e) (hasB ys e)) e).length = (lsN (fun e => bothB v (hasB xs e) (hasB ys e)) e).length) := Lib.hid rfl
          generalize lsN (fun e => bothB v (hasB xs e) (hasB ys e)) e = L0 at HC2 HX HO HUL
          obtain ⟨m2, hm2⟩ : ∃ m, L0.length = m := ⟨_, rfl⟩
          have HM2 := Lib.hid hm2
          rw [hm2] at HC2 ⊢
          clear hm2 HUL
          obtain ⟨G, vs, hv1, hv2, hv3, hv4⟩ := HR.out.own
          have HV1 := Lib.hid hv1
          have HV2 := Lib.hid hv2
          have HV3 := Lib.hid hv3
          have HV4 := Lib.hid hv4
          clear hv1 hv2 hv3 hv4
          rw [hkl] at HV2
          have m1 : wr.cell? ⟨w.heap.size + 1 + 1 + 1, 1, none⟩ = some u := (HT.out.call HB2.out).cell (show 1 < 2 by omega)
          go_wp2_with (first
           | (at_builtin; refine wpList_append_own_at _ rfl _ _ 22 rfl (w.heap.size + 4) 49 j0 (.slice none 0 0) 1 24 Try.underlying22 hj hz0 hz1 hz2 rfl (by decide) _ _ _ rfl ((rowv_kept HV2.out HB2.out).alloc _) ⟨wr.heap.size, 0, none⟩ 1 1 [.slice A2 m2 c2] rfl rfl (newv_one rfl) (by simp [Value.oneCell']) (by unfold maxLen; omega) (by omega) (by simp; omega) ?_; intro v11 w11 hown11 hgrow11 hiff11 hblk11; clear hiff11
              have HT11 := Lib.hid (((HT.out.call HB2.out).alloc (.cells #[.slice A2 m2 c2] 49)).keptV hgrow11 (fun e => by have := (HV2.out.lt _ e).1; omega))
              have HR11 := Lib.hid (RowP.snoc (g := g2) HV1.out HV3.out HV4.out HV2.out.lt HB2.out hz HC2.out HM2.out (by rw [hkl]; exact hown11) hgrow11 hblk11)
              have HP11 := Lib.hid (((HP.out.call HB2.out).alloc (.cells #[.slice A2 m2 c2] 49)).keptV hgrow11 (fun e => by have := (HV2.out.lt _ e).1; omega))
              have HC11 := Lib.hid (((HC.out.call HB2.out).alloc (.cells #[.slice A2 m2 c2] 49)).keptV hgrow11 (fun e => by have := (HV2.out.lt _ e).1; omega))
              have HQ11 := Lib.hid (((HQ.out.call HB2.out).alloc (.cells #[.slice A2 m2 c2] 49)).keptV hgrow11 (fun e => by have := (HV2.out.lt _ e).1; omega))
              have HB11 := Lib.hid (((bel_call HB.out HB2.out).alloc (bel_call HB.out HB2.out).size (.cells #[.slice A2 m2 c2] 49)).grown hgrow11 (by simp; omega) (fun j hj => by have := (HV2.out.lt j hj).1; omega))
              have HZ11 := Lib.hid (show w.heap.size + 4 ≤ w11.heap.size by have h2 := hgrow11.size; simp at h2; omega)
              obtain ⟨g', cap', rfl⟩ := rowv_succ hown11
              have c2' : w11.cell? ⟨w.heap.size + 1 + 1 + 1, 1, none⟩ = some u := HT11.out.cell (show 1 < 2 by omega)
              have c3 := HT11.out.frozen (show 1 < 2 by omega)
              clear hown11 hgrow11 hblk11))
          have HRN := Lib.hid (HR11.out.under (p := ⟨w.heap.size + 1 + 1 + 1, 1, none⟩) (by show w.heap.size + 1 + 1 + 1 < w.heap.size + 4; omega) (.slice (some ⟨g', 0, none⟩) (k + 1) cap'))
          have HPN := Lib.hid (HP11.out.far (p := ⟨w.heap.size + 1 + 1 + 1, 1, none⟩) (by show w.heap.size + 1 + 1 + 1 ≠ w.heap.size; omega) (.slice (some ⟨g', 0, none⟩) (k + 1) cap'))
          have HCN := Lib.hid (HC11.out.far (p := ⟨w.heap.size + 1 + 1 + 1, 1, none⟩) (by show w.heap.size + 1 + 1 + 1 ≠ w.heap.size + 1; omega) (.slice (some ⟨g', 0, none⟩) (k + 1) cap'))
          have HQN := Lib.hid (HQ11.out.far (p := ⟨w.heap.size + 1 + 1 + 1, 1, none⟩) (by show w.heap.size + 1 + 1 + 1 ≠ w.heap.size + 1 + 1; omega) (.slice (some ⟨g', 0, none⟩) (k + 1) cap'))
          have HTN := Lib.hid ((HT11.out.set_ (show 1 < 2 by omega) (.slice (some ⟨g', 0, none⟩) (k + 1) cap')).congr (f' := pF (e : Int) (.slice (some ⟨g', 0, none⟩) (k + 1) cap')) (fun j hj => by
            have : j = 0 ∨ j = 1 := by omega
            rcases this with rfl | rfl <;> rfl))
          go_wp2_with fail
          go_roundw
          case rel => exact ⟨k + 1, _, by omega, by go_num, by rw [HX.out]; exact HRN.out, HPN.out, HCN.out, HQN.out, HTN.out, by rw [size_setCell]; exact HZ11.out, HB11.out.setCell (by show w.heap.size ≤ w.heap.size + 1 + 1 + 1; omega) _⟩
          case measure => simp [intOf]; omega
    · obtain rfl : k = n := by omega
      obtain ⟨A', c', rfl⟩ := HR.out.slice
      have hkl : (jnL (bothB v) dn ks ls k).length = k := rwL_length _ _
      rw [hkl] at HR HT
      have t0 : wr.cell? ⟨w.heap.size + 1 + 1 + 1, 0, none⟩ = some (.int .i64 (dn : Int)) := HT.out.cell (show 0 < 2 by omega)
      have t1 : wr.cell? ⟨w.heap.size + 1 + 1 + 1, 1, none⟩ = some (.slice A' k c') := HT.out.cell (show 1 < 2 by omega)
      have q0 : wr.cell? ⟨w.heap.size + 1 + 1, 0, none⟩ = some (.int .i64 0) := HQ.out.cell (show 0 < 2 by omega)
      have q1 : wr.cell? ⟨w.heap.size + 1 + 1, 1, none⟩ = some (.slice none 0 0) := HQ.out.cell (show 1 < 2 by omega)
      have f0 := HQ.out.frozen (show 0 < 2 by omega)
      have f1 := HQ.out.frozen (show 1 < 2 by omega)
      go_wp2_with fail
      refine bodyPost_ret (v := .agg #[.int .i64 (dn : Int), .slice A' k c']) (by simp [results, Try.results74, go_sem, q0, q1]) rfl ⟨_, rfl, ?_, ?_⟩
      · exact ((HR.out.under (by show w.heap.size + 1 + 1 < w.heap.size + 4; omega) _).under (by show w.heap.size + 1 + 1 < w.heap.size + 4; omega) _).weak (by omega)
      · iterate 2 (refine Below.setCell ?_ (by show w.heap.size ≤ w.heap.size + 1 + 1; omega) _)
        exact HB.out

end Go.Proofs.Ytaajklkldfgppaa
