/- The code of which steps are the opening turns, as both programs tell it. For lists of at most 1048576 numbers. -/
import Derived.Test.YtfcljanechlmkaaYo
namespace Go.Proofs.Ytfcljanechlmkaa
open Go.ChangeShapes Go.WideShapes Go.ChangeAt Go.RowKit Go.Joins

theorem stL_at (m s : Int) (xs : List Int) {k i : Nat} (h : i < k) : (stL m s xs k).getD i 0 = posN m s xs (i + 1) := by
  induction k with
  | zero => omega
  | succ k ih =>
    rw [stL, app_at, stL_length]
    by_cases h2 : i < k
    · rw [if_pos h2, ih h2]
    · obtain rfl : i = k := by omega
      rw [if_neg h2, if_pos rfl]

theorem stL_code {m s : Int} {xs : List Int} {n : Nat} (hs : dmB m s = true) (h1 : 1 ≤ n) (h2 : n ≤ 12) : codeB m (stL m s xs n) = true := by
  unfold codeB
  rw [stL_length, decide_eq_true ⟨h1, h2⟩, Bool.true_and, List.all_eq_true]
  intro x hx
  obtain ⟨i, hi, rfl⟩ := List.mem_iff_getElem.1 hx
  have h := stL_at m s xs (k := n) (i := i) (by rw [stL_length] at hi; exact hi)
  simp only [List.getD, List.getElem?_eq_getElem hi, Option.getD_some] at h
  rw [h]
  have hd := dm_yes hs
  have hb := posN_bd (xs := xs) hs (i + 1)
  exact decide_eq_true ⟨hd.1, hd.2.1, hb.1, hb.2⟩

/-- Whether steps are the opening turns of a code, and of which. -/
def cdB (m s : Int) (xs : List Int) : Bool := ioZ m s (soZ m s xs) xs

def cdZ (m s : Int) (xs : List Int) : List Int := if cdB m s xs then soZ m s xs else []

theorem cd_io {m s : Int} {xs : List Int} {n : Nat} (hn : xs.length = n) (hs : soB m s xs = true) (h1 : 1 ≤ n) : cdB m s xs = smB (opL m s (stL m s xs n) n n) xs := by
  have hz : soZ m s xs = stL m s xs n := by unfold soZ; rw [if_pos hs, hn]
  unfold soB at hs
  rw [Bool.and_eq_true] at hs
  have hl := steps_len hs.2
  unfold cdB ioZ ioB dcB
  rw [hz, hs.1, hs.2, stL_code hs.1 h1 (by omega), stL_length]
  rfl

theorem cd_no {m s : Int} {xs : List Int} (h : soB m s xs = false ∨ xs.length = 0) : cdB m s xs = false := by
  have hz : soZ m s xs = [] := by
    unfold soZ
    rcases h with h | h
    · rw [h]; rfl
    · rw [h]
      split
      · rfl
      · rfl
  unfold cdB ioZ ioB dcB
  rw [hz]
  have : codeB m [] = false := by unfold codeB; rw [decide_eq_false (by simp)]; rfl
  rw [this, Bool.and_false, Bool.false_and, Bool.false_and]

theorem so_len {m s : Int} {xs : List Int} {n : Nat} (hn : xs.length = n) : (soZ m s xs).length = if soB m s xs then n else 0 := by
  unfold soZ
  split
  · rw [stL_length, hn]
  · rfl

theorem specCode_any (m s : Int) (A : Option Addr) (n c : Nat) (xs : List Int) (w : World) (hm : -9223372036854775808 ≤ m ∧ m ≤ 9223372036854775807) (hn : n ≤ 1048576) (hA : IntsA w A n xs) :
    Calls Try.prog 31 #[.int .i64 m, .int .i64 s, .slice A n c] w (IntsL w (cdZ m s xs) (cdB m s xs)) := by
  have HL := Lib.hid hA.len
  have HA := Lib.hid hA
  clear hA
  obtain ⟨v, hv⟩ : ∃ v, soB m s xs = v := ⟨_, rfl⟩
  have HV := Lib.hid hv
  obtain ⟨Z, hZ⟩ : ∃ Z, soZ m s xs = Z := ⟨_, rfl⟩
  have HZ := Lib.hid hZ
  have hlen : Z.length = if v then n else 0 := by rw [← hZ, so_len HL.out, hv]
  rcases v with _ | _
  · have HB : Hid (cdB m s xs = false) := Lib.hid (cd_no (.inl hv))
    have HC : Hid (cdZ m s xs = []) := Lib.hid (by unfold cdZ; rw [HB.out]; rfl)
    clear hv hZ hlen
    go_enter Try.func31, Try.ntmps31
    go_wp2_with (go_at_call 19; refine (specStopsOf_any _ _ _ _ _ xs _ hm hn HA.out).mono ?_; rw [HV.out, HZ.out]; rintro e w1 ⟨A1, c1, rfl, hL, hb⟩)
    go_ret2
    rw [HC.out, HB.out]
    exact ints_none hb
  have HLZ : Hid (Z.length = n) := Lib.hid hlen
  by_cases h0 : n = 0
  · have HB : Hid (cdB m s xs = false) := Lib.hid (cd_no (.inr (by rw [HL.out]; exact h0)))
    have HC : Hid (cdZ m s xs = []) := Lib.hid (by unfold cdZ; rw [HB.out]; rfl)
    subst h0
    clear hv hZ hlen
    go_enter Try.func31, Try.ntmps31
    go_wp2_with (go_at_call 19; refine (specStopsOf_any _ _ _ _ _ xs _ hm hn HA.out).mono ?_; rw [HV.out, HZ.out]; rintro e w1 ⟨A1, c1, rfl, hL, hb⟩; rw [HLZ.out])
    go_ret2
    rw [HC.out, HB.out]
    exact ints_none hb
  · have HB : Hid (cdB m s xs = smB (opL m s Z n n) xs) := Lib.hid (by rw [cd_io HL.out hv (by omega), ← hZ]; unfold soZ; rw [if_pos hv, HL.out])
    have hso := hv
    unfold soB at hso
    rw [Bool.and_eq_true] at hso
    have HD := Lib.hid hso.1
    have hl12 := steps_len hso.2
    rw [HL.out] at hl12
    have HCO : Hid (codeB m Z = true) := Lib.hid (by rw [← hZ]; unfold soZ; rw [if_pos hv, HL.out]; exact stL_code hso.1 (by omega) (by omega))
    obtain ⟨q, hq⟩ : ∃ q, smB (opL m s Z n n) xs = q := ⟨_, rfl⟩
    have HQ := Lib.hid hq
    rw [hq] at HB
    have HC : Hid (cdZ m s xs = if q then Z else []) := Lib.hid (by unfold cdZ; rw [HB.out, hZ])
    have HOL := Lib.hid (opL_length m s Z n n)
    obtain ⟨L, hLe⟩ : ∃ L, opL m s Z n n = L := ⟨_, rfl⟩
    have HLE := Lib.hid hLe
    rw [hLe] at HOL HQ
    clear hv hZ hlen hso hq hLe
    rcases q with _ | _
    all_goals
      go_enter Try.func31, Try.ntmps31
      go_wp2_with (first | (go_at_call 19; refine (specStopsOf_any _ _ _ _ _ xs _ hm hn HA.out).mono ?_; rw [HV.out, HZ.out]; rintro e w1 ⟨A1, c1, rfl, hL, hb⟩; rw [HLZ.out]; have HI1 := Lib.hid (hL.ints_n HLZ.out); have HL1 := Lib.hid hL; have HB1 := Lib.hid hb; clear hL hb) | (go_at_call 71; refine (diOpen_any _ _ _ _ _ Z _ hn HD.out HCO.out HI1.out).mono ?_; rw [HLE.out]; rintro e w2 ⟨A3, c3, rfl, hL2, hb2⟩; rw [HOL.out]; have HI2 := Lib.hid (hL2.ints_n HOL.out); have HB2 := Lib.hid hb2; clear hL2 hb2) | (go_at_call 74; refine (l1Same_any _ _ _ _ _ _ L xs _ hn hn HI2.out (HA.out.below (bel_call HB1.out HB2.out))).mono ?_; rw [HQ.out]; rintro e w3 ⟨rfl, hb3⟩))
      go_ret2
      rw [HC.out, HB.out]
      first | exact ints_none (bel_call (bel_call HB1.out HB2.out) hb3) | exact ints_mk rfl HLZ.out (((HL1.out.call HB2.out).call hb3).wide (Nat.le_refl _) (Nat.le_trans HB2.out.size hb3.size)) (bel_call (bel_call HB1.out HB2.out) hb3)

theorem code_any (m s : Int) (A : Option Addr) (n c : Nat) (xs : List Int) (w : World) (hn : n ≤ 1048576) (hnc : n ≤ c) (hA : IntsA w A n xs) :
    Calls Try.prog 32 #[.int .i64 m, .int .i64 s, .slice A n c] w (IntsL w (cdZ m s xs) (cdB m s xs)) := by
  have HA := Lib.hid hA
  clear hA
  obtain ⟨v, hv⟩ : ∃ v, soB m s xs = v := ⟨_, rfl⟩
  have HV := Lib.hid hv
  obtain ⟨Z, hZ⟩ : ∃ Z, soZ m s xs = Z := ⟨_, rfl⟩
  have HZ := Lib.hid hZ
  obtain ⟨q, hq⟩ : ∃ q, cdB m s xs = q := ⟨_, rfl⟩
  have HB := Lib.hid hq
  have HQ : Hid (ioZ m s Z xs = q) := Lib.hid (by rw [← hZ]; exact hq)
  have HC : Hid (cdZ m s xs = if q then Z else []) := Lib.hid (by unfold cdZ; rw [HB.out, hZ])
  obtain ⟨N, hN⟩ : ∃ N, Z.length = N := ⟨_, rfl⟩
  have HN := Lib.hid hN
  have hN2 : N ≤ 1048576 := by
    rw [← hN, ← hZ, so_len rfl]
    split
    · rw [HA.out.len]; exact hn
    · omega
  clear hv hZ hq hN
  rcases q with _ | _
  all_goals
    go_enter Try.func32, Try.ntmps32
    go_wp2_with (first | (go_at_call 21; refine (stopsOf_any _ _ _ _ _ xs _ hn hnc HA.out).mono ?_; rw [HV.out, HZ.out]; rintro e w1 ⟨A1, c1, rfl, hL, hb⟩; rw [HN.out]; have HI1 := Lib.hid (hL.ints_n HN.out); have HL1 := Lib.hid hL; have HB1 := Lib.hid hb; clear hL hb) | (go_at_call 34; refine (isOpening_any _ _ _ _ _ _ _ _ Z xs _ hN2 hn HI1.out (HA.out.below HB1.out)).mono ?_; rw [HQ.out]; rintro e w2 ⟨rfl, hb2⟩))
    go_ret2
    rw [HC.out, HB.out]
    first | exact ints_none (bel_call HB1.out hb2) | exact ints_mk rfl HN.out ((HL1.out.call hb2).wide (Nat.le_refl _) hb2.size) (bel_call HB1.out hb2)

end Go.Proofs.Ytfcljanechlmkaa
