/- Marks of a list of texts: nothing else is changed. For at most 100000000 texts. -/
import Derived.Test.YthfhbkfifdgokaaSs
namespace Go.Proofs.Ythfhbkfifdgokaa
open Go.ChangeShapes Go.WideShapes Go.ChangeAt Go.RowKit Go.Joins

theorem markX_any (g n c : Nat) (f : Nat → Value) (w : World) (hn : n ≤ 100000000) (hC : Cells w g n f) (hstr : ∀ j, j < n → ∃ s, f j = .string s) :
    Calls Try.prog 16 #[.slice (some ⟨g, 0, none⟩) n c, .int .i64 1] w fun e w' => e = .returned (.int .i64 (1 + (n : Int))) ∧ Cells w' g n smarkF ∧ w.heap.size ≤ w'.heap.size ∧ (∀ B, B ≤ g → Below B w w') ∧ ∀ g' m f', g' ≠ g → Cells w g' m f' → Cells w' g' m f' := by
  have HC := Lib.hid hC
  have HSTR := Lib.hid hstr
  clear hC hstr
  have hgw := HC.out.lt
  go_enter Try.func16, Try.ntmps16
  go_wp2_with fail
  go_loopw [1, 5] (fun m i wr => ∃ k : Nat, k ≤ n ∧ i = .int .i64 k ∧ m = .int .i64 (1 + (k : Int)) ∧ Cells wr g n (fun j => if j < k then smarkF j else f j) ∧ w.heap.size ≤ wr.heap.size ∧ (∀ B, B ≤ g → Below B w wr) ∧ ∀ g' m f', g' ≠ g → Cells w g' m f' → Cells wr g' m f') (fun _ i _ => n - (intOf i).toNat)
  case atStart => exact ⟨0, by omega, rfl, rfl, HC.out.congr (fun j _ => by simp), Nat.le_refl _, fun B _ => Below.refl _ _, fun _ _ _ _ h => h⟩
  case round =>
    obtain ⟨k, hk, rfl, rfl, hCr, hz, hB, hK⟩ := hrel
    have HR := Lib.hid hCr
    have HB := Lib.hid hB
    have HK := Lib.hid hK
    clear hCr hB hK
    by_cases hlt : k < n
    · have HMT := Lib.hid (markText_any (k + 1) wr (by omega) (by omega))
      have hk1 : ((k + 1 : Nat) : Int) = 1 + (k : Int) := by omega
      rw [hk1] at HMT
      clear hk1
      obtain ⟨s, hs⟩ := HSTR.out k hlt
      go_wp2_with (go_at_call 25; refine HMT.out.mono ?_; rintro e w1 ⟨rfl, hb1⟩; have H3 := Lib.hid (HR.out.call hb1); have p1 := H3.out.cell hlt; have p2 := H3.out.frozen hlt; rw [if_neg (by omega), hs] at p1)
      have HW : Hid (Cells (w1.setCell ⟨g, k, none⟩ (.string (markB (k + 1)))) g n (fun j => if j < k + 1 then smarkF j else f j)) := Lib.hid (by
        refine (H3.out.set_ hlt (.string (markB (k + 1)))).congr (fun j hj => ?_)
        by_cases e1 : j = k
        · subst e1; rw [if_pos rfl, if_pos (by omega)]; rfl
        · rw [if_neg e1]
          by_cases e2 : j < k
          · rw [if_pos e2, if_pos (by omega)]
          · rw [if_neg e2, if_neg (by omega)])
      go_roundw
      case rel => exact ⟨k + 1, by omega, by go_num, congrArg (Value.int .i64) (by omega), HW.out, by rw [size_setCell]; have := hb1.size; omega, fun B h => ((HB.out B h).trans (hb1.mono (by omega))).setCell h _, fun g' m f' h1 h2 => ((HK.out g' m f' h1 h2).call hb1).far (Ne.symm h1) _⟩
      case measure => simp [intOf]; omega
    · go_wp2_with fail
      go_ret
      exact ⟨ret_int (by omega), HR.out.congr (fun j hj => by rw [if_pos (by omega)]), hz, HB.out, HK.out⟩

/-- A list of texts in a block between two bounds, or an empty one. -/
def LS (w : World) (lo hi : Nat) (A : Option Addr) (ts : List ByteArray) : Prop :=
  ts.length ≤ 100000000 ∧ (ts.length = 0 ∨ ∃ g, A = some ⟨g, 0, none⟩ ∧ lo ≤ g ∧ g < hi ∧ Cells w g ts.length (strF ts))

/-- Its marks. -/
def LSM (w : World) (lo hi : Nat) (A : Option Addr) (ts : List ByteArray) : Prop :=
  ts.length ≤ 100000000 ∧ (ts.length = 0 ∨ ∃ g, A = some ⟨g, 0, none⟩ ∧ lo ≤ g ∧ g < hi ∧ Cells w g ts.length smarkF)

theorem LS.of_own {w : World} {B : Nat} {A : Option Addr} {ts : List ByteArray} (h : OwnS w B A ts.length ts) : LS w B w.heap.size A ts :=
  ⟨h.2.1, h.2.2.imp id fun ⟨g, e, hg, hC⟩ => ⟨g, e, hg, hC.lt, hC⟩⟩

theorem LS.own {w : World} {lo hi : Nat} {A : Option Addr} {ts : List ByteArray} (h : LS w lo hi A ts) : OwnS w lo A ts.length ts :=
  ⟨rfl, h.1, h.2.imp id fun ⟨g, e, hg, _, hC⟩ => ⟨g, e, hg, hC⟩⟩

theorem LS.call {w w' : World} {lo hi : Nat} {A : Option Addr} {ts : List ByteArray} (h : LS w lo hi A ts) (hb : Below w.heap.size w w') : LS w' lo hi A ts :=
  ⟨h.1, h.2.imp id fun ⟨g, e, h1, h2, hC⟩ => ⟨g, e, h1, h2, hC.call hb⟩⟩

theorem LSM.call {w w' : World} {lo hi : Nat} {A : Option Addr} {ts : List ByteArray} (h : LSM w lo hi A ts) (hb : Below w.heap.size w w') : LSM w' lo hi A ts :=
  ⟨h.1, h.2.imp id fun ⟨g, e, h1, h2, hC⟩ => ⟨g, e, h1, h2, hC.call hb⟩⟩

theorem LS.below {w w' : World} {lo hi B : Nat} {A : Option Addr} {ts : List ByteArray} (h : LS w lo hi A ts) (hb : Below B w w') (hB : hi ≤ B) : LS w' lo hi A ts :=
  ⟨h.1, h.2.imp id fun ⟨g, e, h1, h2, hC⟩ => ⟨g, e, h1, h2, hC.below hb (by omega)⟩⟩

theorem LS.keep {w w' : World} {lo hi g0 : Nat} {A : Option Addr} {ts : List ByteArray} (h : LS w lo hi A ts) (hd : hi ≤ g0 ∨ g0 < lo) (hk : ∀ g' m f', g' ≠ g0 → Cells w g' m f' → Cells w' g' m f') : LS w' lo hi A ts :=
  ⟨h.1, h.2.imp id fun ⟨g, e, h1, h2, hC⟩ => ⟨g, e, h1, h2, hk _ _ _ (by omega) hC⟩⟩

theorem eqLS_any (A1 A2 : Option Addr) (c1 c2 lo1 hi1 lo2 hi2 : Nat) (ts : List ByteArray) (w : World) (h1 : LS w lo1 hi1 A1 ts) (h2 : LS w lo2 hi2 A2 ts) :
    Calls Try.prog 15 #[.slice A1 ts.length c1, .slice A2 ts.length c2] w fun e w' => e = .returned (.bool true) ∧ Below w.heap.size w w' :=
  eqStringS_gen A1 A2 ts.length c1 c2 lo1 lo2 ts w h1.own h2.own

theorem markLS_any (A : Option Addr) (c lo hi : Nat) (ts : List ByteArray) (w : World) (h : LS w lo hi A ts) :
    Calls Try.prog 16 #[.slice A ts.length c, .int .i64 1] w fun e w' => e = .returned (.int .i64 (1 + (ts.length : Int))) ∧ LSM w' lo hi A ts ∧ w.heap.size ≤ w'.heap.size ∧ ∀ B, B ≤ lo → Below B w w' := by
  rcases h with ⟨h0, h | ⟨g, rfl, h1, h2, hC⟩⟩
  · rw [h]
    refine (smark_zero A c w).mono ?_
    rintro e w' ⟨rfl, rfl⟩
    exact ⟨rfl, ⟨h0, .inl h⟩, Nat.le_refl _, fun B _ => Below.refl _ _⟩
  · refine (markStringS_any g ts.length c _ w h0 hC (fun j _ => ⟨_, rfl⟩)).mono ?_
    rintro e w' ⟨rfl, hM, hz, hB⟩
    exact ⟨rfl, ⟨h0, .inr ⟨g, rfl, h1, h2, hM⟩⟩, hz, fun B hB' => hB B (by omega)⟩

theorem heldLS_any (A : Option Addr) (c lo hi : Nat) (ts : List ByteArray) (w : World) (h : LSM w lo hi A ts) :
    Calls Try.prog 17 #[.slice A ts.length c, .int .i64 1] w fun e w' => e = .returned (.int .i64 (1 + (ts.length : Int))) ∧ Below w.heap.size w w' := by
  rcases h with ⟨h0, h | ⟨g, rfl, h1, h2, hC⟩⟩
  · rw [h]
    refine (sheld_zero A c w).mono ?_
    rintro e w' ⟨rfl, rfl⟩
    exact ⟨rfl, Below.refl _ _⟩
  · exact heldStringS_any g ts.length c w h0 hC

end Go.Proofs.Ythfhbkfifdgokaa
