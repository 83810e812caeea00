/- Lists of lists of numbers among the arguments: their size told, copied by the law. For at most 1048576 numbers. -/
import Derived.Test.YtgdjbclkdnmebaaDoorCells
import Derived.Test.YtgdjbclkdnmebaaDoorLock
namespace Go.Proofs.YtgdjbclkdnmebaaDoor
open Go.ChangeShapes Go.WideShapes Go.ChangeAt Go.RowKit Go.Joins

/-- Numbers handed in. -/
structure IntsA (w : World) (A : Option Addr) (n : Nat) (xs : List Int) : Prop where
  len : xs.length = n
  at_ : n = 0 ∨ ∃ b off, A = some ⟨b, off, none⟩ ∧ b < w.heap.size ∧ ∀ k, k < n → w.cell? ⟨b, off + k, none⟩ = some (.int .i64 (xs.getD k 0))

theorem IntsA.below {w w' : World} {A : Option Addr} {n : Nat} {xs : List Int} (h : IntsA w A n xs) (hb : Below w.heap.size w w') : IntsA w' A n xs :=
  ⟨h.len, h.at_.imp id fun ⟨b, off, e, hb', hc⟩ => ⟨b, off, e, Nat.lt_of_lt_of_le hb' hb.size, fun k hk => by rw [hb.cell (p := ⟨b, off + k, none⟩) hb']; exact hc k hk⟩⟩

/-- Lists of numbers handed in. -/
structure KnobsA (w : World) (A : Option Addr) (n : Nat) (ks : List (List Int)) : Prop where
  len : ks.length = n
  at_ : n = 0 ∨ ∃ b off, A = some ⟨b, off, none⟩ ∧ b < w.heap.size ∧ ∀ k, k < n → ∃ Ak ck, w.cell? ⟨b, off + k, none⟩ = some (.slice Ak (ks.getD k []).length ck) ∧ (ks.getD k []).length ≤ maxLen ∧ IntsA w Ak (ks.getD k []).length (ks.getD k [])

theorem KnobsA.below {w w' : World} {A : Option Addr} {n : Nat} {ks : List (List Int)} (h : KnobsA w A n ks) (hb : Below w.heap.size w w') : KnobsA w' A n ks :=
  ⟨h.len, h.at_.imp id fun ⟨b, off, e, hb', hc⟩ => ⟨b, off, e, Nat.lt_of_lt_of_le hb' hb.size, fun k hk => by
    obtain ⟨Ak, ck, h1, h2, h3⟩ := hc k hk
    exact ⟨Ak, ck, by rw [hb.cell (p := ⟨b, off + k, none⟩) hb']; exact h1, h2, h3.below hb⟩⟩⟩

/-- How many numbers there are in the first lists. -/
def lensAt (ks : List (List Int)) : Nat → Nat
  | 0 => 0
  | k + 1 => lensAt ks k + (ks.getD k []).length

theorem lensAt_le {ks : List (List Int)} {i n : Nat} (h : i ≤ n) : lensAt ks i ≤ lensAt ks n := by
  induction n with
  | zero => obtain rfl : i = 0 := by omega
            exact Nat.le_refl _
  | succ n ih =>
    rcases Nat.lt_or_ge i (n + 1) with h1 | h1
    · rw [lensAt]; have := ih (by omega); omega
    · obtain rfl : i = n + 1 := by omega
      exact Nat.le_refl _

theorem lensAt_one {ks : List (List Int)} {k n : Nat} (h : k < n) : (ks.getD k []).length ≤ lensAt ks n := by
  have := lensAt_le (ks := ks) (show k + 1 ≤ n from h)
  rw [lensAt] at this
  omega

theorem szIntS_any (A : Option Addr) (n c : Nat) (x : Int) (w : World) (hn : n ≤ 9223372036854775807) (h0 : 0 ≤ x) (h1 : x ≤ 1048576) :
    Calls Tryd.prog 56 #[.slice A n c, .int .i64 x] w fun e w' => e = .returned (.int .i64 (if (n : Int) ≤ x then x - (n : Int) else -1)) ∧ w = w' := by
  by_cases h : (n : Int) ≤ x
  · go_enter Tryd.func56, Tryd.ntmps56
    go_wp2
    go_ret
    exact ⟨ret_int (by first | rfl | rw [if_pos h]), rfl⟩
  · go_enter Tryd.func56, Tryd.ntmps56
    go_wp2
    go_ret
    exact ⟨ret_int (by first | rfl | rw [if_neg h]), rfl⟩

theorem szIntSS_any (A : Option Addr) (n c : Nat) (ks : List (List Int)) (w : World) (hn : n ≤ 9223372036854775807) (hA : KnobsA w A n ks) :
    Calls Tryd.prog 25 #[.slice A n c, .int .i64 1048576] w fun e w' => (∃ r : Int, e = .returned (.int .i64 r) ∧ r ≤ 1048576 ∧ (0 ≤ r → n + lensAt ks n ≤ 1048576)) ∧ w = w' := by
  have HA := Lib.hid hA
  clear hA
  by_cases h : n ≤ 1048576
  · go_enter Tryd.func25, Tryd.ntmps25
    go_wp2_with fail
    go_loop [1, 5] (fun r i => ∃ (k : Nat) (x : Int), k ≤ n ∧ i = .int .i64 k ∧ r = .int .i64 x ∧ 0 ≤ x ∧ x = 1048576 - (n : Int) - (lensAt ks k : Int)) (fun _ i => n - (intOf i).toNat)
    case atStart => exact ⟨0, _, by omega, rfl, rfl, by omega, by simp [lensAt]⟩
    case round =>
      obtain ⟨k, x, hk, rfl, rfl, hx0, hx⟩ := hrel
      have HX := Lib.hid hx
      have hx1 : x ≤ 1048576 := by omega
      clear hx
      by_cases hlt : k < n
      · obtain ⟨b, off, rfl, hb, hc⟩ := HA.out.at_.resolve_left (by omega)
        obtain ⟨Ak, ck, o1, hm, _⟩ := hc k hlt
        have HL : Hid (lensAt ks (k + 1) = lensAt ks k + (ks.getD k []).length) := Lib.hid rfl
        generalize (ks.getD k []).length = m at o1 hm HL
        unfold maxLen at hm
        clear hc
        by_cases hmx : (m : Int) ≤ x
        · go_wp2_with (go_at_call 56; refine (szIntS_any _ _ _ _ _ (by omega) hx0 hx1).mono ?_; rw [if_pos hmx]; rintro e w1 ⟨rfl, rfl⟩)
          go_round
          case rel => exact ⟨k + 1, _, by omega, by go_num, rfl, by omega, by have h1 := HX.out; have h2 := HL.out; omega⟩
          case measure => simp [intOf]; omega
        · go_wp2_with (go_at_call 56; refine (szIntS_any _ _ _ _ _ (by omega) hx0 hx1).mono ?_; rw [if_neg hmx]; rintro e w1 ⟨rfl, rfl⟩)
          go_ret
          exact ⟨⟨-1, rfl, by omega, fun h => by omega⟩, rfl⟩
      · obtain rfl : k = n := by omega
        go_wp2_with fail
        go_ret
        exact ⟨⟨x, rfl, hx1, fun h => by have h1 := HX.out; omega⟩, rfl⟩
  · go_enter Tryd.func25, Tryd.ntmps25
    go_wp2_with fail
    go_ret
    exact ⟨⟨-1, rfl, by omega, fun h => by omega⟩, rfl⟩

theorem make_intsN (n : Nat) (hn : n ≤ 1048576) (W : World) : (Instr.makeSlice 58 (.int .i64 (n : Int)) (.int .i64 (n : Int))).run Tryd.prog W = .ok (.slice (some ⟨W.heap.size, 0, none⟩) n n) (W.alloc (.cells (madeCells #[.int .i64 0] n) 3)) :=
  run_make_row' 58 3 (.int .i64 0) 8 Tryd.underlying58 (by kernel_rfl) rfl .i64 .i64 n (by omega) (by omega) W

theorem make_listsN (n : Nat) (hn : n ≤ 1048576) (W : World) : (Instr.makeSlice 22 (.int .i64 (n : Int)) (.int .i64 (n : Int))).run Tryd.prog W = .ok (.slice (some ⟨W.heap.size, 0, none⟩) n n) (W.alloc (.cells (madeCells #[.slice none 0 0] n) 58)) :=
  run_make_row' 22 58 (.slice none 0 0) 24 Tryd.underlying22 (by kernel_rfl) rfl .i64 .i64 n (by omega) (by omega) W

theorem toIntS_any (A : Option Addr) (n c : Nat) (xs : List Int) (w : World) (hn : n ≤ 1048576) (hA : IntsA w A n xs) :
    Calls Tryd.prog 61 #[.slice A n c] w fun e w' => e = .returned (.slice (some ⟨w.heap.size, 0, none⟩) n n) ∧ Cells w' w.heap.size n (digF xs) ∧ Below w.heap.size w w' := by
  have hmk := make_intsN n hn
  have HM := Lib.hid (Cells.made w (.int .i64 0) n 3)
  have hat := hA.at_
  rcases hat with h0 | ⟨b, off, rfl, hb, hc⟩
  · have h0' : n ≤ 0 := by omega
    clear h0 hA
    go_enter Tryd.func61, Tryd.ntmps61
    go_wp2_with fail
    clear hmk
    go_loopw [4] (fun i wr => i = .int .i64 ((0 : Nat) : Int) ∧ Cells wr w.heap.size n (fun _ => .int .i64 0) ∧ Below w.heap.size w wr) (fun _ _ => 0)
    case atStart => exact ⟨rfl, HM.out, by (repeat (first | assumption | exact Below.refl _ _ | (refine Below.alloc ?_ (by first | omega | (simp; done) | (simp; omega)) _) | (refine Below.setCell ?_ (by first | omega | (simp; done) | (simp; omega)) _) | refine bel_drewN ?_ _ | refine bel_drew ?_ | (refine bel_call ?_ (by assumption))))⟩
    case round =>
      obtain ⟨rfl, hCr, hB⟩ := hrel
      have HR := Lib.hid hCr
      clear hCr
      go_wp2_with fail
      go_ret
      exact ⟨rfl, HR.out.congr (fun j hj => by omega), hB⟩
  · have HC := Lib.hid hc
    clear hc hA
    go_enter Tryd.func61, Tryd.ntmps61
    go_wp2_with fail
    clear hmk
    go_loopw [4] (fun i wr => ∃ k : Nat, k ≤ n ∧ i = .int .i64 k ∧ Cells wr w.heap.size n (fun j => if j < k then digF xs j else .int .i64 0) ∧ Below w.heap.size w wr) (fun i _ => n - (intOf i).toNat)
    case atStart => exact ⟨0, by omega, rfl, HM.out.congr (fun j _ => by simp), by (repeat (first | assumption | exact Below.refl _ _ | (refine Below.alloc ?_ (by first | omega | (simp; done) | (simp; omega)) _) | (refine Below.setCell ?_ (by first | omega | (simp; done) | (simp; omega)) _) | refine bel_drewN ?_ _ | refine bel_drew ?_ | (refine bel_call ?_ (by assumption))))⟩
    case round =>
      obtain ⟨k, hk, rfl, hCr, hB⟩ := hrel
      have HR := Lib.hid hCr
      clear hCr
      by_cases hlt : k < n
      · have o1 : wr.cell? ⟨b, off + k, none⟩ = some (.int .i64 (xs.getD k 0)) := by rw [hB.cell (p := ⟨b, off + k, none⟩) hb]; exact HC.out k hlt
        have p1 := HR.out.cell hlt
        have p2 := HR.out.frozen hlt
        have HW : Hid (Cells (wr.setCell ⟨w.heap.size, k, none⟩ (.int .i64 (xs.getD k 0))) w.heap.size n (fun j => if j < k + 1 then digF xs j else .int .i64 0)) := Lib.hid ((HR.out.set_ hlt _).congr (fun j hj => by
          by_cases e : j = k
          · subst e; rw [if_pos rfl, if_pos (by omega)]; rfl
          · rw [if_neg e]
            by_cases e2 : j < k
            · rw [if_pos e2, if_pos (by omega)]
            · rw [if_neg e2, if_neg (by omega)]))
        generalize xs.getD k 0 = x at o1 HW
        go_wp2_with fail
        go_roundw
        case rel => exact ⟨k + 1, by omega, by go_num, HW.out, hB.setCell (Nat.le_refl _) _⟩
        case measure => simp [intOf]; omega
      · go_wp2_with fail
        go_ret
        exact ⟨rfl, HR.out.congr (fun j hj => by rw [if_pos (by omega)]), hB⟩

end Go.Proofs.YtgdjbclkdnmebaaDoor
