/- Lists of turns handed back: what a law's walk carries of them. For at most 1000 turns. -/
import Derived.Test.YtpbnleohbegccaaFirst3
import Derived.Test.YtpbnleohbegccaaEqTurns
import Derived.Test.YtpbnleohbegccaaMark
import Derived.Test.YtpbnleohbegccaaMs
namespace Go.Proofs.Ytpbnleohbegccaa
open Go.ChangeShapes Go.WideShapes Go.ChangeAt Go.RowKit Go.Joins

/-- A list of turns in a block between two bounds, or an empty one. -/
def LT (w : World) (lo hi : Nat) (A : Option Addr) (ts : List (Int × Int)) : Prop :=
  ts.length ≤ 1000 ∧ (ts.length = 0 ∨ ∃ g, A = some ⟨g, 0, none⟩ ∧ lo ≤ g ∧ g < hi ∧ Cells w g (ts.length * 2) (turnF ts))

/-- Its marks. -/
def LTM (w : World) (lo hi : Nat) (A : Option Addr) (ts : List (Int × Int)) : Prop :=
  ts.length ≤ 1000 ∧ (ts.length = 0 ∨ ∃ g, A = some ⟨g, 0, none⟩ ∧ lo ≤ g ∧ g < hi ∧ Cells w g (ts.length * 2) markF)

theorem LT.of_own {w : World} {B : Nat} {A : Option Addr} {ts : List (Int × Int)} (h : OwnT w B A ts.length ts) : LT w B w.heap.size A ts :=
  ⟨h.2.1, h.2.2.imp id fun ⟨g, e, hg, hC⟩ => ⟨g, e, hg, hC.lt, hC⟩⟩

theorem LT.own {w : World} {lo hi : Nat} {A : Option Addr} {ts : List (Int × Int)} (h : LT w lo hi A ts) : OwnT w lo A ts.length ts :=
  ⟨rfl, h.1, h.2.imp id fun ⟨g, e, hg, _, hC⟩ => ⟨g, e, hg, hC⟩⟩

theorem LT.call {w w' : World} {lo hi : Nat} {A : Option Addr} {ts : List (Int × Int)} (h : LT w lo hi A ts) (hb : Below w.heap.size w w') : LT w' lo hi A ts :=
  ⟨h.1, h.2.imp id fun ⟨g, e, h1, h2, hC⟩ => ⟨g, e, h1, h2, hC.call hb⟩⟩

theorem LTM.call {w w' : World} {lo hi : Nat} {A : Option Addr} {ts : List (Int × Int)} (h : LTM w lo hi A ts) (hb : Below w.heap.size w w') : LTM w' lo hi A ts :=
  ⟨h.1, h.2.imp id fun ⟨g, e, h1, h2, hC⟩ => ⟨g, e, h1, h2, hC.call hb⟩⟩

theorem LT.below {w w' : World} {lo hi B : Nat} {A : Option Addr} {ts : List (Int × Int)} (h : LT w lo hi A ts) (hb : Below B w w') (hB : hi ≤ B) : LT w' lo hi A ts :=
  ⟨h.1, h.2.imp id fun ⟨g, e, h1, h2, hC⟩ => ⟨g, e, h1, h2, hC.below hb (by omega)⟩⟩

theorem LT.keep {w w' : World} {lo hi g0 : Nat} {A : Option Addr} {ts : List (Int × Int)} (h : LT w lo hi A ts) (hd : hi ≤ g0 ∨ g0 < lo) (hk : ∀ g' m f', g' ≠ g0 → Cells w g' m f' → Cells w' g' m f') : LT w' lo hi A ts :=
  ⟨h.1, h.2.imp id fun ⟨g, e, h1, h2, hC⟩ => ⟨g, e, h1, h2, hk _ _ _ (by omega) hC⟩⟩

theorem mark_zero (A : Option Addr) (c : Nat) (w : World) :
    Calls Try.prog 56 #[.slice A 0 c, .int .i64 1] w fun e w' => e = .returned (.int .i64 1) ∧ w = w' := by
  go_enter Try.func56, Try.ntmps56
  go_wp2_with fail
  go_loop [1, 5] (fun m i => m = .int .i64 1 ∧ i = .int .i64 0) (fun _ _ => 0)
  case atStart => exact ⟨rfl, rfl⟩
  case round =>
    obtain ⟨rfl, rfl⟩ := hrel
    go_wp2_with fail
    go_ret
    exact ⟨rfl, rfl⟩

theorem held_zero (A : Option Addr) (c : Nat) (w : World) :
    Calls Try.prog 57 #[.slice A 0 c, .int .i64 1] w fun e w' => e = .returned (.int .i64 1) ∧ w = w' := by
  go_enter Try.func57, Try.ntmps57
  go_wp2_with fail
  go_loop [1, 5] (fun m i => m = .int .i64 1 ∧ i = .int .i64 0) (fun _ _ => 0)
  case atStart => exact ⟨rfl, rfl⟩
  case round =>
    obtain ⟨rfl, rfl⟩ := hrel
    go_wp2_with fail
    go_ret
    exact ⟨rfl, rfl⟩

theorem eqLT_any (A1 A2 : Option Addr) (c1 c2 lo1 hi1 lo2 hi2 : Nat) (ts : List (Int × Int)) (w : World) (h1 : LT w lo1 hi1 A1 ts) (h2 : LT w lo2 hi2 A2 ts) :
    Calls Try.prog 55 #[.slice A1 ts.length c1, .slice A2 ts.length c2] w fun e w' => e = .returned (.bool true) ∧ Below w.heap.size w w' :=
  eqTurnS_gen A1 A2 ts.length c1 c2 lo1 lo2 ts w h1.own h2.own

theorem markLT_any (A : Option Addr) (c lo hi : Nat) (ts : List (Int × Int)) (w : World) (h : LT w lo hi A ts) :
    Calls Try.prog 56 #[.slice A ts.length c, .int .i64 1] w fun e w' => e = .returned (.int .i64 (1 + 2 * (ts.length : Int))) ∧ LTM w' lo hi A ts ∧ w.heap.size ≤ w'.heap.size ∧ ∀ B, B ≤ lo → Below B w w' := by
  rcases h with ⟨h0, h | ⟨g, rfl, h1, h2, hC⟩⟩
  · rw [h]
    refine (mark_zero A c w).mono ?_
    rintro e w' ⟨rfl, rfl⟩
    exact ⟨rfl, ⟨h0, .inl h⟩, Nat.le_refl _, fun B _ => Below.refl _ _⟩
  · refine (markTurnS_any g ts.length c _ w h0 hC).mono ?_
    rintro e w' ⟨rfl, hM, hz, hB⟩
    exact ⟨rfl, ⟨h0, .inr ⟨g, rfl, h1, h2, hM⟩⟩, hz, fun B hB' => hB B (by omega)⟩

theorem heldLT_any (A : Option Addr) (c lo hi : Nat) (ts : List (Int × Int)) (w : World) (h : LTM w lo hi A ts) :
    Calls Try.prog 57 #[.slice A ts.length c, .int .i64 1] w fun e w' => e = .returned (.int .i64 (1 + 2 * (ts.length : Int))) ∧ Below w.heap.size w w' := by
  rcases h with ⟨h0, h | ⟨g, rfl, h1, h2, hC⟩⟩
  · rw [h]
    refine (held_zero A c w).mono ?_
    rintro e w' ⟨rfl, rfl⟩
    exact ⟨rfl, Below.refl _ _⟩
  · refine (heldTurnS_any g ts.length c w h0 hC).mono ?_
    rintro e w' ⟨rfl, rfl⟩
    exact ⟨rfl, Below.refl _ _⟩

/-- The contract's answer, as the law's walk carries it. -/
theorem TurnsOut.lt {w w' : World} {ts : List (Int × Int)} {ok : Bool} {e : Ending} (h : TurnsOut w ts ok e w') :
    ∃ A c, e = .returned (.tuple #[.slice A ts.length c, .bool ok]) ∧ LT w' w.heap.size w'.heap.size A ts ∧ Below w.heap.size w w' := by
  obtain ⟨A, c, rfl, hO, hb⟩ := h
  exact ⟨A, c, rfl, LT.of_own hO, hb⟩

end Go.Proofs.Ytpbnleohbegccaa
