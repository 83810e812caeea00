/- Stops of steps, as both programs tell them. For at most 1048576 numbers. -/
import Derived.Test.YtfcljanechlmkaaYc
import Derived.Test.YtfcljanechlmkaaLi
namespace Go.Proofs.Ytfcljanechlmkaa
open Go.ChangeShapes Go.WideShapes Go.ChangeAt Go.RowKit Go.Joins

theorem new_one {W : World} {B : Nat} {x : Value} {t : TypeId} (hB : B = W.heap.size) : ∀ j u, ([x] : List Value)[j]? = some u → (W.alloc (.cells #[x] t)).cell? ((⟨B, 0, none⟩ : Addr).add j) = some u := by
  subst hB
  intro j u hu
  rcases j with _ | j
  · simp at hu
    subst hu
    simp [Addr.add]
  · simp at hu

theorem row_kept {w w' : World} {base : Nat} {e : TypeId} {size : Nat} {v : Value} {n : Nat} {xs : List Value} (h : w.ownsRow base e size v n xs) (hb : Below w.heap.size w w') : w'.ownsRow base e size v n xs :=
  h.kept (row := none) ⟨hb.os, hb.tape, hb.output, hb.size, fun i hi _ => hb.block i hi⟩ (Classical.em _)

theorem ints_mk {w w' : World} {xs : List Int} {ok : Bool} {e : Ending} {A : Option Addr} {n c : Nat} (he : e = .returned (.tuple #[.slice A n c, .bool ok])) (hn : xs.length = n) (hL : LI w' w.heap.size w'.heap.size A xs) (hb : Below w.heap.size w w') : IntsL w xs ok e w' :=
  ⟨A, c, by rw [he, hn], hL, hb⟩

/-- Which number is read behind the first k steps. -/
def posN (m s : Int) (xs : List Int) : Nat → Int
  | 0 => s
  | k + 1 => modI m (posN m s xs k + xs.getD k 0)

/-- The first k stops. -/
def stL (m s : Int) (xs : List Int) : Nat → List Int
  | 0 => []
  | k + 1 => stL m s xs k ++ [posN m s xs (k + 1)]

theorem stL_length (m s : Int) (xs : List Int) (k : Nat) : (stL m s xs k).length = k := by
  induction k with
  | zero => rfl
  | succ k ih => rw [stL, List.length_append, ih]; rfl

theorem posN_bd {m s : Int} {xs : List Int} (h : dmB m s = true) (k : Nat) : 0 ≤ posN m s xs k ∧ posN m s xs k < m := by
  obtain ⟨h1, h2, h3, h4⟩ := dm_yes h
  cases k with
  | zero => exact ⟨h3, h4⟩
  | succ k => exact modI_bd h1 _

theorem step_at {xs : List Int} (h : stepsB xs = true) {k : Nat} (hk : k < xs.length) : xs.getD k 0 ≠ 0 ∧ -1000 ≤ xs.getD k 0 ∧ xs.getD k 0 ≤ 1000 := by
  unfold stepsB at h
  rw [Bool.and_eq_true, List.all_eq_true] at h
  have := h.2 xs[k] (List.getElem_mem _)
  simp only [List.getD, List.getElem?_eq_getElem hk, Option.getD_some]
  exact step_yes this

theorem steps_len {xs : List Int} (h : stepsB xs = true) : xs.length ≤ 12 := by
  unfold stepsB at h
  rw [Bool.and_eq_true, decide_eq_true_eq] at h
  exact h.1

/-- Whether stops are told, and which. -/
def soB (m s : Int) (xs : List Int) : Bool := dmB m s && stepsB xs

def soZ (m s : Int) (xs : List Int) : List Int := if soB m s xs then stL m s xs xs.length else []

set_option maxHeartbeats 1000000 in
theorem specStopsOf_any (m s : Int) (A : Option Addr) (n c : Nat) (xs : List Int) (w : World) (hm : -9223372036854775808 ≤ m ∧ m ≤ 9223372036854775807) (hn : n ≤ 1048576) (hA : IntsA w A n xs) :
    Calls Try.prog 19 #[.int .i64 m, .int .i64 s, .slice A n c] w (IntsL w (soZ m s xs) (soB m s xs)) := by
  obtain ⟨i0, hi, hy0, hy1, hy2⟩ := info_parts info_int
  have HL := Lib.hid hA.len
  have HA := Lib.hid hA
  clear hA
  obtain ⟨u, hu⟩ : ∃ u, dmB m s = u := ⟨_, rfl⟩
  obtain ⟨v, hv⟩ : ∃ v, stepsB xs = v := ⟨_, rfl⟩
  have HU := Lib.hid hu
  have HV := Lib.hid hv
  rcases u with _ | _
  · have HB : Hid (soB m s xs = false) := Lib.hid (by unfold soB; rw [hu]; rfl)
    have HZ : Hid (soZ m s xs = []) := Lib.hid (by unfold soZ; rw [HB.out]; rfl)
    go_enter Try.func19, Try.ntmps19
    go_wp2_with (go_at_call 55; refine (diAsked_any _ _ _ hm).mono ?_; rw [HU.out]; rintro e wq ⟨rfl, hwq⟩; replace hwq := hwq.symm; subst hwq)
    go_ret2
    rw [HZ.out, HB.out]
    exact ints_none (Below.refl _ _)
  rcases v with _ | _
  · have HB : Hid (soB m s xs = false) := Lib.hid (by unfold soB; rw [hu, hv]; rfl)
    have HZ : Hid (soZ m s xs = []) := Lib.hid (by unfold soZ; rw [HB.out]; rfl)
    go_enter Try.func19, Try.ntmps19
    go_wp2_with (first | (go_at_call 55; refine (diAsked_any _ _ _ hm).mono ?_; rw [HU.out]; rintro e wq ⟨rfl, hwq⟩; replace hwq := hwq.symm; subst hwq) | (go_at_call 56; refine (diSteps_any _ _ _ xs _ hn HA.out).mono ?_; rw [HV.out]; rintro e wq ⟨rfl, hwq⟩; replace hwq := hwq.symm; subst hwq))
    go_ret2
    rw [HZ.out, HB.out]
    exact ints_none (Below.refl _ _)
  have HB : Hid (soB m s xs = true) := Lib.hid (by unfold soB; rw [hu, hv]; rfl)
  have HZ : Hid (soZ m s xs = stL m s xs n) := Lib.hid (by unfold soZ; rw [HB.out, HL.out]; rfl)
  obtain ⟨m2, m1, _, _⟩ := dm_yes hu
  have hl12 := steps_len hv
  rw [HL.out] at hl12
  clear hu hv hm
  go_enter Try.func19, Try.ntmps19
  go_wp2_with (first | (go_at_call 55; refine (diAsked_any _ _ _ (by omega)).mono ?_; rw [HU.out]; rintro e wq ⟨rfl, hwq⟩; replace hwq := hwq.symm; subst hwq) | (go_at_call 56; refine (diSteps_any _ _ _ xs _ hn HA.out).mono ?_; rw [HV.out]; rintro e wq ⟨rfl, hwq⟩; replace hwq := hwq.symm; subst hwq))
  go_loopw [1, 8, 22] (fun p v i wr => ∃ k : Nat, k ≤ n ∧ i = .int .i64 k ∧ p = .int .i64 (posN m s xs k) ∧ wr.ownsRow w.heap.size 3 1 v k (iv (stL m s xs k)) ∧ Below w.heap.size w wr) (fun _ _ i _ => n - (intOf i).toNat)
  case atStart => exact ⟨0, by omega, rfl, rfl, World.ownsRow_nil _ _ _ _, Below.refl _ _⟩
  case round =>
    obtain ⟨k, hk, rfl, rfl, hO, hB⟩ := hrel
    have HO := Lib.hid hO
    have HBr := Lib.hid hB
    clear hO hB
    by_cases hlt : k < n
    · obtain ⟨b, off, rfl, hb, hc⟩ := (HA.out.below HBr.out).at_.resolve_left (by omega)
      have o1 := hc k hlt
      obtain ⟨p0, p1⟩ := posN_bd (xs := xs) HU.out k
      obtain ⟨_, x0, x1⟩ := step_at HV.out (k := k) (by rw [HL.out]; exact hlt)
      have HP : Hid (modI m (posN m s xs k + xs.getD k 0) = posN m s xs (k + 1)) := Lib.hid rfl
      have HS : Hid (stL m s xs (k + 1) = stL m s xs k ++ [posN m s xs (k + 1)]) := Lib.hid rfl
      obtain ⟨q, hq⟩ : ∃ q, posN m s xs (k + 1) = q := ⟨_, rfl⟩
      rw [hq] at HP HS
      have HQ := Lib.hid hq
      clear hq
      have hsz := HBr.out.size
      generalize posN m s xs k = p at p0 p1 HP
      generalize xs.getD k 0 = x at o1 x0 x1 HP
      clear hc
      go_wp2_with (first
        | (go_at_call 57; refine (l1Mod_m _ _ _ m2 m1).mono ?_; rw [HP.out]; rintro e wq ⟨rfl, hwq⟩; replace hwq := hwq.symm; subst hwq)
        | (at_builtin; refine wpList_append_own _ rfl _ _ 22 rfl w.heap.size 3 i0 (.int .i64 0) 1 8 Try.underlying22 hi hy0 hy1 hy2 rfl (by decide) _ _ _ rfl (HO.out.alloc _) ⟨wr.heap.size, 0, none⟩ 1 1 [.int .i64 q] rfl rfl (new_one rfl) (by simp [Value.oneCell']) (by unfold maxLen; omega) (by omega) (by simp; omega) ?_; intro v9 w9 hown9 hgrow9 hiff9; clear hiff9))
      have HO9 : Hid (w9.ownsRow w.heap.size 3 1 v9 (k + 1) (iv (stL m s xs (k + 1)))) := Lib.hid (by rw [HS.out, iv, List.map_append]; exact hown9)
      have HB9 : Hid (Below w.heap.size w w9) := Lib.hid ((HBr.out.alloc hsz _).grown hgrow9 (by simp; omega) (fun j hj => (HO.out.lt j hj).1))
      clear hown9 hgrow9
      go_wp2_with fail
      go_roundw
      case rel => exact ⟨k + 1, by omega, by go_num, by rw [HQ.out], HO9.out, HB9.out⟩
      case measure => simp [intOf]; omega
    · obtain rfl : k = n := by omega
      obtain ⟨A9, c9, hv, hL⟩ := LI.of_row (xs := stL m s xs k) (by rw [stL_length]; exact HO.out) (by rw [stL_length]; omega)
      rw [stL_length] at hv
      subst hv
      go_wp2_with fail
      go_ret2
      rw [HZ.out, HB.out]
      exact ints_mk rfl (stL_length _ _ _ _) hL HBr.out

end Go.Proofs.Ytfcljanechlmkaa
