/- Clues kept between two places: marked and looked at again by the law. Texts handed back by a puzzle's law. For at most 1048576 clues. -/
import Derived.Test.YtgopaflggbgplaaUl
import Derived.Test.YtgopaflggbgplaaLi
import Derived.Test.YtgopaflggbgplaaMs
namespace Go.Proofs.Ytgopaflggbgplaa
open Go.ChangeShapes Go.WideShapes Go.ChangeAt Go.RowKit Go.Joins

/-- The clues cs lie at A in a block between two places, as f tells; or there is none. -/
def KC (w : World) (lo hi : Nat) (A : Option Addr) (n : Nat) (f : Nat → Value) : Prop :=
  n = 0 ∨ ∃ g, A = some ⟨g, 0, none⟩ ∧ lo ≤ g ∧ g < hi ∧ Cells w g (n * 3) f

theorem KC.call {w w' : World} {lo hi : Nat} {A : Option Addr} {n : Nat} {f : Nat → Value} (h : KC w lo hi A n f) (hb : Below w.heap.size w w') : KC w' lo hi A n f :=
  h.imp id fun ⟨g, e, h1, h2, hC⟩ => ⟨g, e, h1, h2, hC.call hb⟩

theorem KC.keep {w w' : World} {lo hi lo2 hi2 : Nat} {A : Option Addr} {n : Nat} {f : Nat → Value} (h : KC w lo hi A n f) (hd : hi ≤ lo2 ∨ hi2 ≤ lo) (hk : ∀ g' m f', ¬ (lo2 ≤ g' ∧ g' < hi2) → Cells w g' m f' → Cells w' g' m f') : KC w' lo hi A n f :=
  h.imp id fun ⟨g, e, h1, h2, hC⟩ => ⟨g, e, h1, h2, hk _ _ _ (by omega) hC⟩

theorem KC.wide {w : World} {lo hi lo' hi' : Nat} {A : Option Addr} {n : Nat} {f : Nat → Value} (h1 : lo' ≤ lo) (h2 : hi ≤ hi') (h : KC w lo hi A n f) : KC w lo' hi' A n f :=
  h.imp id fun ⟨g, e, a1, a2, hC⟩ => ⟨g, e, by omega, by omega, hC⟩

theorem KC.argC {w : World} {lo hi : Nat} {A : Option Addr} {cs : List Clu} (h : KC w lo hi A cs.length (cluF cs)) : ArgC w A cs.length cs := by
  rcases h with h0 | ⟨g, rfl, _, _, hC⟩
  · exact ⟨rfl, .inl h0⟩
  · exact argC_of rfl hC

theorem kc_of {w : World} {lo g n : Nat} {f : Nat → Value} (hg : lo ≤ g) (hC : Cells w g (n * 3) f) : KC w lo w.heap.size (some ⟨g, 0, none⟩) n f := .inr ⟨g, rfl, hg, hC.lt, hC⟩

theorem up_cells {w : World} {g n k k0 : Nat} {f : Nat → Value} (hk : k < n) (h : Cells w g (n * 3) (fun j => if j < k * 3 then upF k0 j else f j)) :
    Cells (((w.setCell ⟨g, k * 3, none⟩ (.int .i64 ((k0 : Int) + ((k * 3 : Nat) : Int)))).setCell ⟨g, k * 3 + 1, none⟩ (.int .i64 ((k0 : Int) + ((k * 3 : Nat) : Int) + 1))).setCell ⟨g, k * 3 + 2, none⟩ (.int .i64 ((k0 : Int) + ((k * 3 : Nat) : Int) + 1 + 1))) g (n * 3) (fun j => if j < (k + 1) * 3 then upF k0 j else f j) :=
  (((h.set_ (show k * 3 < n * 3 by omega) _).set_ (show k * 3 + 1 < n * 3 by omega) _).set_ (show k * 3 + 2 < n * 3 by omega) _).congr (fun j hj => by
    by_cases e2 : j = k * 3 + 2
    · subst e2; rw [if_pos rfl, if_pos (by omega)]; exact congrArg (Value.int .i64) (by omega)
    · rw [if_neg e2]
      by_cases e1 : j = k * 3 + 1
      · subst e1; rw [if_pos rfl, if_pos (by omega)]; exact congrArg (Value.int .i64) (by omega)
      · rw [if_neg e1]
        by_cases e0 : j = k * 3
        · subst e0; rw [if_pos rfl, if_pos (by omega)]; exact congrArg (Value.int .i64) (by omega)
        · rw [if_neg e0]
          by_cases e3 : j < k * 3
          · rw [if_pos e3, if_pos (by omega)]
          · rw [if_neg e3, if_neg (by omega)])

set_option maxHeartbeats 1000000 in
theorem markClueS_any (g n c k0 : Nat) (f : Nat → Value) (w : World) (hn : k0 + n * 3 ≤ 4000000) (hC : Cells w g (n * 3) f) (hi : ∀ j, j < n * 3 → ∃ x, f j = .int .i64 x) :
    Calls Try.prog 28 #[.slice (some ⟨g, 0, none⟩) n c, .int .i64 (k0 : Int)] w fun e w' => e = .returned (.int .i64 ((k0 + n * 3 : Nat) : Int)) ∧ Cells w' g (n * 3) (upF k0) ∧ w.heap.size ≤ w'.heap.size ∧ (∀ B, B ≤ g → Below B w w') ∧ ∀ g' m f', g' ≠ g → Cells w g' m f' → Cells w' g' m f' := by
  have HC := Lib.hid hC
  have HI := Lib.hid hi
  clear hC hi
  go_enter Try.func28, Try.ntmps28
  go_wp2_with fail
  go_loopw [1, 5] (fun m i wr => ∃ k : Nat, k ≤ n ∧ i = .int .i64 k ∧ m = .int .i64 ((k0 : Int) + ((k * 3 : Nat) : Int)) ∧ Cells wr g (n * 3) (fun j => if j < k * 3 then upF k0 j else f j) ∧ w.heap.size ≤ wr.heap.size ∧ (∀ B, B ≤ g → Below B w wr) ∧ ∀ g' m f', g' ≠ g → Cells w g' m f' → Cells wr g' m f') (fun _ i _ => n - (intOf i).toNat)
  case atStart => exact ⟨0, by omega, rfl, by simp, HC.out.congr (fun j _ => by simp), Nat.le_refl _, fun B _ => Below.refl _ _, fun _ _ _ _ h => h⟩
  case round =>
    obtain ⟨k, hk, rfl, rfl, hCr, hz, hB, hO⟩ := hrel
    have HR := Lib.hid hCr
    have HB := Lib.hid hB
    have HO := Lib.hid hO
    clear hCr hB hO
    by_cases hlt : k < n
    · obtain ⟨x0, e0⟩ := HI.out (k * 3) (by omega)
      obtain ⟨x1, e1⟩ := HI.out (k * 3 + 1) (by omega)
      obtain ⟨x2, e2⟩ := HI.out (k * 3 + 2) (by omega)
      have p0 : wr.cell? ⟨g, k * 3, none⟩ = some (.int .i64 x0) := by rw [HR.out.cell (by omega), if_neg (by omega), e0]
      have p1 : wr.cell? ⟨g, k * 3 + 1, none⟩ = some (.int .i64 x1) := by rw [HR.out.cell (by omega), if_neg (by omega), e1]
      have p2 : wr.cell? ⟨g, k * 3 + 2, none⟩ = some (.int .i64 x2) := by rw [HR.out.cell (by omega), if_neg (by omega), e2]
      have f0 := HR.out.frozen (show k * 3 < n * 3 by omega)
      have f1 := HR.out.frozen (show k * 3 + 1 < n * 3 by omega)
      have f2 := HR.out.frozen (show k * 3 + 2 < n * 3 by omega)
      have HW := Lib.hid (up_cells hlt HR.out)
      clear e0 e1 e2
      have HK : Hid ((k0 : Int) + ((k * 3 : Nat) : Int) + 1 + 1 + 1 = (k0 : Int) + (((k + 1) * 3 : Nat) : Int)) := Lib.hid (by omega)
      have hq1 : (k0 : Int) + ((k * 3 : Nat) : Int) ≤ 4000000 := by omega
      obtain ⟨q, hq⟩ : ∃ q, (k0 : Int) + ((k * 3 : Nat) : Int) = q := ⟨_, rfl⟩
      have hq0 : 0 ≤ q := by omega
      rw [hq] at HW HK hq1 ⊢
      clear hq
      go_wp2_with fail
      go_roundw
      case rel => exact ⟨k + 1, by omega, by go_num, congrArg (Value.int .i64) HK.out, HW.out, by rw [size_setCell, size_setCell, size_setCell]; exact hz, fun B h => (((HB.out B h).setCell h _).setCell h _).setCell h _, fun g' m f' hne h => (((HO.out g' m f' hne h).far (fun e => hne e.symm) _).far (fun e => hne e.symm) _).far (fun e => hne e.symm) _⟩
      case measure => simp [intOf]; omega
    · obtain rfl : k = n := by omega
      go_wp2_with fail
      go_ret
      exact ⟨ret_int (by omega), HR.out.congr (fun j hj => by rw [if_pos hj]), hz, HB.out, HO.out⟩

set_option maxHeartbeats 1000000 in
theorem heldClueS_any (g n c k0 : Nat) (w : World) (hn : k0 + n * 3 ≤ 4000000) (hC : Cells w g (n * 3) (upF k0)) :
    Calls Try.prog 29 #[.slice (some ⟨g, 0, none⟩) n c, .int .i64 (k0 : Int)] w fun e w' => e = .returned (.int .i64 ((k0 + n * 3 : Nat) : Int)) ∧ w = w' := by
  have HC := Lib.hid hC
  clear hC
  go_enter Try.func29, Try.ntmps29
  go_wp2_with fail
  go_loop [1, 5] (fun m i => ∃ k : Nat, k ≤ n ∧ i = .int .i64 k ∧ m = .int .i64 ((k0 : Int) + ((k * 3 : Nat) : Int))) (fun _ i => n - (intOf i).toNat)
  case atStart => exact ⟨0, by omega, rfl, by simp⟩
  case round =>
    obtain ⟨k, hk, rfl, rfl⟩ := hrel
    by_cases hlt : k < n
    · have HK : Hid ((k0 : Int) + ((k * 3 : Nat) : Int) + 1 + 1 + 1 = (k0 : Int) + (((k + 1) * 3 : Nat) : Int)) := Lib.hid (by omega)
      have p0 : w.cell? ⟨g, k * 3, none⟩ = some (.int .i64 ((k0 : Int) + ((k * 3 : Nat) : Int))) := by rw [HC.out.cell (by omega)]; exact congrArg (fun x => some (Value.int .i64 x)) (by omega)
      have p1 : w.cell? ⟨g, k * 3 + 1, none⟩ = some (.int .i64 ((k0 : Int) + ((k * 3 : Nat) : Int) + 1)) := by rw [HC.out.cell (by omega)]; exact congrArg (fun x => some (Value.int .i64 x)) (by omega)
      have p2 : w.cell? ⟨g, k * 3 + 2, none⟩ = some (.int .i64 ((k0 : Int) + ((k * 3 : Nat) : Int) + 1 + 1)) := by rw [HC.out.cell (by omega)]; exact congrArg (fun x => some (Value.int .i64 x)) (by omega)
      have hq1 : (k0 : Int) + ((k * 3 : Nat) : Int) ≤ 4000000 := by omega
      obtain ⟨q, hq⟩ : ∃ q, (k0 : Int) + ((k * 3 : Nat) : Int) = q := ⟨_, rfl⟩
      have hq0 : 0 ≤ q := by omega
      rw [hq] at HK hq1 p0 p1 p2 ⊢
      clear hq
      go_wp2_with fail
      go_round
      case rel => exact ⟨k + 1, by omega, by go_num, congrArg (Value.int .i64) HK.out⟩
      case measure => simp [intOf]; omega
    · obtain rfl : k = n := by omega
      go_wp2_with fail
      go_ret
      exact ⟨ret_int (by omega), rfl⟩

theorem markC_zero (A : Option Addr) (c : Nat) (w : World) :
    Calls Try.prog 28 #[.slice A 0 c, .int .i64 1] w fun e w' => e = .returned (.int .i64 1) ∧ w = w' := by
  go_enter Try.func28, Try.ntmps28
  go_wp2_with fail
  go_loop [1, 5] (fun m i => m = .int .i64 1 ∧ i = .int .i64 0) (fun _ _ => 0)
  case atStart => exact ⟨rfl, rfl⟩
  case round =>
    obtain ⟨rfl, rfl⟩ := hrel
    go_wp2_with fail
    go_ret
    exact ⟨rfl, rfl⟩

theorem heldC_zero (A : Option Addr) (c : Nat) (w : World) :
    Calls Try.prog 29 #[.slice A 0 c, .int .i64 1] w fun e w' => e = .returned (.int .i64 1) ∧ w = w' := by
  go_enter Try.func29, Try.ntmps29
  go_wp2_with fail
  go_loop [1, 5] (fun m i => m = .int .i64 1 ∧ i = .int .i64 0) (fun _ _ => 0)
  case atStart => exact ⟨rfl, rfl⟩
  case round =>
    obtain ⟨rfl, rfl⟩ := hrel
    go_wp2_with fail
    go_ret
    exact ⟨rfl, rfl⟩

theorem clu_ints (cs : List Clu) (j : Nat) : ∃ x, cluF cs j = .int .i64 x := by
  unfold cluF
  split
  · exact ⟨_, rfl⟩
  · split
    · exact ⟨_, rfl⟩
    · exact ⟨_, rfl⟩

/-- What marking a puzzle leaves. -/
theorem markKC_any (a b : Int) (A : Option Addr) (n c lo hi : Nat) (cs : List Clu) (w : World) (hm : n ≤ 1048576) (hD : KC w lo hi A n (cluF cs)) :
    Calls Try.prog 12 #[.agg #[.int .i64 a, .int .i64 b, .slice A n c], .int .i64 1] w fun e w' => e = .returned (.int .i64 ((1 + n * 3 : Nat) : Int)) ∧ KC w' lo hi A n (upF 1) ∧ (∀ B, B ≤ w.heap.size → B ≤ lo → Below B w w') ∧ ∀ g' m f', ¬ (lo ≤ g' ∧ g' < hi) → Cells w g' m f' → Cells w' g' m f' := by
  have HB0 := Lib.hid (show Below w.heap.size w (w.alloc (.cells #[.int .i64 a, .int .i64 b, .slice A n c] 33)) from (Below.refl _ _).alloc (Nat.le_refl _) _)
  rcases hD with h0 | ⟨g, rfl, h1, h2, h4⟩
  · subst h0
    go_enter Try.func12, Try.ntmps12
    go_wp2_with (go_at_call 28; refine (markC_zero _ _ _).mono ?_; rintro e w2 ⟨rfl, rfl⟩)
    go_ret
    exact ⟨rfl, .inl rfl, fun B hB _ => HB0.out.mono hB, fun g' m f' _ hC => hC.call HB0.out⟩
  · have HC := Lib.hid (h4.call HB0.out)
    clear h4
    go_enter Try.func12, Try.ntmps12
    go_wp2_with (go_at_call 28; refine (markClueS_any _ _ _ 1 _ _ (by omega) HC.out (fun j _ => clu_ints cs j)).mono ?_; rintro e w2 ⟨rfl, m1, m2, m3, m4⟩)
    go_ret
    exact ⟨rfl, .inr ⟨g, rfl, h1, h2, m1⟩, fun B hB hlo => (HB0.out.mono hB).trans (m3 B (by omega)), fun g' m f' hn hC => m4 g' m f' (fun e => hn (by omega)) (hC.call HB0.out)⟩

theorem heldKC_any (a b : Int) (A : Option Addr) (n c lo hi : Nat) (w : World) (hm : n ≤ 1048576) (hD : KC w lo hi A n (upF 1)) :
    Calls Try.prog 13 #[.agg #[.int .i64 a, .int .i64 b, .slice A n c], .int .i64 1] w fun e w' => e = .returned (.int .i64 ((1 + n * 3 : Nat) : Int)) ∧ Below w.heap.size w w' := by
  have HB0 := Lib.hid (show Below w.heap.size w (w.alloc (.cells #[.int .i64 a, .int .i64 b, .slice A n c] 33)) from (Below.refl _ _).alloc (Nat.le_refl _) _)
  rcases hD with h0 | ⟨g, rfl, h1, h2, h4⟩
  · subst h0
    go_enter Try.func13, Try.ntmps13
    go_wp2_with (go_at_call 29; refine (heldC_zero _ _ _).mono ?_; rintro e w2 ⟨rfl, rfl⟩)
    go_ret
    exact ⟨rfl, HB0.out⟩
  · have HC := Lib.hid (h4.call HB0.out)
    clear h4
    go_enter Try.func13, Try.ntmps13
    go_wp2_with (go_at_call 29; refine (heldClueS_any _ _ _ 1 _ (by omega) HC.out).mono ?_; rintro e w2 ⟨rfl, rfl⟩)
    all_goals (try (exfalso; omega))
    go_ret
    exact ⟨rfl, HB0.out⟩

/-- A puzzle's three cells. -/
def g3F (a b : Int) (v : Value) (j : Nat) : Value := (#[.int .i64 a, .int .i64 b, v] : Array Value).toList.getD j undef

theorem LS.keepR {w w' : World} {lo hi lo2 hi2 : Nat} {A : Option Addr} {ts : List ByteArray} (h : LS w lo hi A ts) (hd : hi ≤ lo2 ∨ hi2 ≤ lo) (hk : ∀ g' m f', ¬ (lo2 ≤ g' ∧ g' < hi2) → Cells w g' m f' → Cells w' g' m f') : LS w' lo hi A ts :=
  ⟨h.1, h.2.imp id fun ⟨g, e, h1, h2, hC⟩ => ⟨g, e, h1, h2, hk _ _ _ (by omega) hC⟩⟩

theorem SolsOut.ls {w w' : World} {ts : List ByteArray} {ok : Bool} {e : Ending} (h : SolsOut w ts ok e w') : ∃ A c, e = .returned (.tuple #[.slice A ts.length c, .bool ok]) ∧ LS w' w.heap.size w'.heap.size A ts ∧ Below w.heap.size w w' := by
  obtain ⟨A, c, he, hO, hb⟩ := h
  exact ⟨A, c, he, LS.of_own hO, hb⟩

/-- Numbers handed back with yes or no. -/
def NumsOut (w : World) (xs : List Int) (ok : Bool) (e : Ending) (w' : World) : Prop := ∃ A c, e = .returned (.tuple #[.slice A xs.length c, .bool ok]) ∧ LI w' w.heap.size w'.heap.size A xs ∧ Below w.heap.size w w'

end Go.Proofs.Ytgopaflggbgplaa
