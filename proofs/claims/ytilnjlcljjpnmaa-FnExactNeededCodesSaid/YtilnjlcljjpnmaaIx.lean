/- Which layer has a code, as the program looks for it. For the layers of a search. -/
import Derived.Test.YtilnjlcljjpnmaaQi
namespace Go.Proofs.Ytilnjlcljjpnmaa
open Go.ChangeShapes Go.WideShapes Go.ChangeAt Go.RowKit Go.Joins

/-- The layer that has a code, or -1. -/
def lwZ (a b : Int) (al : ByteArray → Bool) (s t : ByteArray) (N : Nat) : Int :=
  if fstN (fun i => decide (wyA a b al s i t = 0)) N < N then ((fstN (fun i => decide (wyA a b al s i t = 0)) N : Nat) : Int) else -1

theorem lwZ_at {a b : Int} {al : ByteArray → Bool} {s t : ByteArray} {N k : Nat} (hk : k < N) (h : ∀ i, i < k → wyA a b al s i t = 0) (hp : 0 < wyA a b al s k t) : lwZ a b al s t N = k := by
  have e : fstN (fun i => decide (wyA a b al s i t = 0)) N = k := fstN_at hk (fun i hi => decide_eq_true (h i hi)) (decide_eq_false (by omega))
  unfold lwZ
  rw [e, if_pos hk]

theorem lwZ_no {a b : Int} {al : ByteArray → Bool} {s t : ByteArray} {N : Nat} (h : ∀ i, i < N → wyA a b al s i t = 0) : lwZ a b al s t N = -1 := by
  have e : fstN (fun i => decide (wyA a b al s i t = 0)) N = N := fstN_all (fun i hi => decide_eq_true (h i hi))
  unfold lwZ
  rw [e, if_neg (Nat.lt_irrefl _)]

/-- The layers in memory. -/
structure LysC (w : World) (a b : Int) (al : ByteArray → Bool) (s : ByteArray) (g N : Nat) (G : Nat → Nat) : Prop where
  cell : ∀ i, i < N → w.cell? ⟨g, i, none⟩ = some (.map (some (G i)))
  lt : g < w.heap.size
  ly : ∀ i, i < N → LyM w a b al s i (G i)

theorem LyM.call {w w' : World} {a b : Int} {al : ByteArray → Bool} {s : ByteArray} {i B : Nat} (h : LyM w a b al s i B) (hb : Below w.heap.size w w') : LyM w' a b al s i B := by
  obtain ⟨L, f, h1, h2, h3⟩ := h
  exact ⟨L, f, h1.call hb, h2, h3⟩

theorem LysC.call {w w' : World} {a b : Int} {al : ByteArray → Bool} {s : ByteArray} {g N : Nat} {G : Nat → Nat} (h : LysC w a b al s g N G) (hb : Below w.heap.size w w') : LysC w' a b al s g N G :=
  ⟨fun i hi => by rw [hb.cell (p := ⟨g, i, none⟩) h.lt]; exact h.cell i hi, Nat.lt_of_lt_of_le h.lt hb.size, fun i hi => (h.ly i hi).call hb⟩

theorem LyM.look {w : World} {a b : Int} {al : ByteArray → Bool} {s : ByteArray} {i B : Nat} (h : LyM w a b al s i B) {t : ByteArray} (ht : t.size ≤ maxLen) : (Instr.lookup 81 (.map (some B)) (.string t) false).run Try.prog w = .ok (.int .i64 ((sat capN (wyA a b al s i t) : Nat) : Int)) w := by
  obtain ⟨L, f, hM, hmem, hval⟩ := h
  refine hM.lookI (tM := 81) Try.underlying81 ht (fun h => hval t h) (fun h => ?_)
  rcases Nat.eq_zero_or_pos (wyA a b al s i t) with e | e
  · rw [e, sat_zero]; rfl
  · exact absurd ((hmem t).2 e) h

theorem hasIn_any (a b : Int) (al : ByteArray → Bool) (s t : ByteArray) (i B P : Nat) (w : World) (hL : LyM w a b al s i B) (ht : t.size ≤ maxLen) (hP : w.cell? ⟨P, 0, none⟩ = some (.string t)) :
    Calls Try.prog 111 #[.map (some B), .pointer (some ⟨P, 0, none⟩)] w fun e w' => e = .returned (.bool (decide (0 < wyA a b al s i t))) ∧ w = w' := by
  have HLK := hL.look ht
  have HZ : Hid (0 < sat capN (wyA a b al s i t) ↔ 0 < wyA a b al s i t) := Lib.hid (sat_pos (by decide))
  clear hL
  by_cases h : 0 < wyA a b al s i t
  · have HD : Hid (decide (0 < wyA a b al s i t) = true) := Lib.hid (decide_eq_true h)
    have h2 := HZ.out.2 h
    clear h
    generalize sat capN (wyA a b al s i t) = y at HLK h2
    go_enter Try.func111, Try.ntmps111
    go_wp2_with fail
    go_ret
    exact ⟨ret_bool (by rw [HD.out]), rfl⟩
  · have HD : Hid (decide (0 < wyA a b al s i t) = false) := Lib.hid (decide_eq_false h)
    have h2 : sat capN (wyA a b al s i t) = 0 := by
      have := mt HZ.out.1 h
      omega
    clear h
    generalize sat capN (wyA a b al s i t) = y at HLK h2
    subst h2
    go_enter Try.func111, Try.ntmps111
    go_wp2_with fail
    go_ret
    exact ⟨ret_bool (by rw [HD.out]), rfl⟩

set_option maxRecDepth 100000 in
theorem indexFunc_any (a b : Int) (al : ByteArray → Bool) (s t : ByteArray) (g N c P : Nat) (G : Nat → Nat) (w : World) (hL : LysC w a b al s g N G) (hN : N ≤ 1000) (ht : t.size ≤ maxLen) (hP : w.cell? ⟨P, 0, none⟩ = some (.string t)) :
    Calls Try.prog 110 #[.slice (some ⟨g, 0, none⟩) N c, .func (.func 111) #[] #[.pointer (some ⟨P, 0, none⟩)]] w fun e w' => e = .returned (.int .i64 (lwZ a b al s t N)) ∧ w = w' := by
  have HL := Lib.hid hL
  have HT := Lib.hid ht
  clear hL ht
  go_enter Try.func110, Try.ntmps110
  go_wp2_with fail
  go_loop [8] (fun i => ∃ k : Nat, k ≤ N ∧ i = .int .i64 k ∧ ∀ j, j < k → wyA a b al s j t = 0) (fun i => N - (intOf i).toNat)
  case atStart => exact ⟨0, by omega, rfl, fun j hj => by omega⟩
  case round =>
    obtain ⟨k, hk, rfl, hall⟩ := hrel
    have HALL := Lib.hid hall
    clear hall
    by_cases hlt : k < N
    · have z := HL.out.cell k hlt
      have HLY := Lib.hid (HL.out.ly k hlt)
      by_cases hy : 0 < wyA a b al s k t
      · have HY : Hid (decide (0 < wyA a b al s k t) = true) := Lib.hid (decide_eq_true hy)
        have HV := Lib.hid (lwZ_at hlt HALL.out hy)
        clear hy
        go_wp2_with (go_at_call 111; refine (hasIn_any _ _ _ _ _ _ _ _ _ HLY.out HT.out hP).mono ?_; rw [HY.out]; rintro e w2 ⟨rfl, rfl⟩)
        go_ret
        exact ⟨ret_int (by rw [HV.out]), rfl⟩
      · have HY : Hid (decide (0 < wyA a b al s k t) = false) := Lib.hid (decide_eq_false hy)
        have HZ : Hid (wyA a b al s k t = 0) := Lib.hid (by omega)
        clear hy
        go_wp2_with (go_at_call 111; refine (hasIn_any _ _ _ _ _ _ _ _ _ HLY.out HT.out hP).mono ?_; rw [HY.out]; rintro e w2 ⟨rfl, rfl⟩)
        go_round
        case rel => exact ⟨k + 1, by omega, by go_num, fun j hj => by
          by_cases e : j = k
          · rw [e]; exact HZ.out
          · exact HALL.out j (by omega)⟩
        case measure => simp [intOf]; omega
    · obtain rfl : k = N := by omega
      have HV := Lib.hid (lwZ_no HALL.out)
      go_wp2_with fail
      go_ret
      exact ⟨ret_int (by rw [HV.out]), rfl⟩

theorem layerWith_any (a b : Int) (al : ByteArray → Bool) (s t : ByteArray) (g N c : Nat) (G : Nat → Nat) (w : World) (hL : LysC w a b al s g N G) (hN : N ≤ 1000) (ht : t.size ≤ maxLen) :
    Calls Try.prog 70 #[.slice (some ⟨g, 0, none⟩) N c, .string t] w fun e w' => e = .returned (.int .i64 (lwZ a b al s t N)) ∧ Below w.heap.size w w' := by
  have HL := Lib.hid hL
  have HT := Lib.hid ht
  have X0 := Lib.hid (show Below w.heap.size w (w.alloc (.cells #[.string t] 9)) from (Below.refl _ _).alloc (Nat.le_refl _) _)
  have P0 : (w.alloc (.cells #[.string t] 9)).cell? ⟨w.heap.size, 0, none⟩ = some (.string t) := (cells_txt (W := w) (x := t) (t := 9) rfl).cell (show 0 < 1 by omega)
  clear hL ht
  go_enter Try.func70, Try.ntmps70
  go_wp2_with (go_at_call 110; refine (indexFunc_any _ _ _ _ _ _ _ _ _ _ _ (HL.out.call X0.out) hN HT.out P0).mono ?_; rintro e w2 ⟨rfl, rfl⟩)
  go_ret
  exact ⟨rfl, X0.out⟩

end Go.Proofs.Ytilnjlcljjpnmaa
