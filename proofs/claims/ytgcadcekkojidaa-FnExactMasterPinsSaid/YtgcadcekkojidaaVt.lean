/- Whether a key opens, as the model and the program tell it. For pins and texts of at most 2^20 signs. -/
import Derived.Test.YtgcadcekkojidaaVs
namespace Go.Proofs.Ytgcadcekkojidaa
open Go.ChangeShapes Go.WideShapes Go.ChangeAt Go.RowKit Go.Joins

/-- The first k numbers of a key are cut there. -/
def opN (ks : List (List Int)) (ds : List Int) : Nat → Bool
  | 0 => true
  | k + 1 => opN ks ds k && hasB (ks.getD k []) (ds.getD k 0).toNat

theorem opN_false {ks : List (List Int)} {ds : List Int} {k n : Nat} (hk : k < n) (h : hasB (ks.getD k []) (ds.getD k 0).toNat = false) : opN ks ds n = false := by
  induction n with
  | zero => omega
  | succ n ih =>
    rw [opN]
    by_cases e : k = n
    · subst e; rw [h, Bool.and_false]
    · rw [ih (by omega), Bool.false_and]

theorem opN_all {ks : List (List Int)} {ds : List Int} {n : Nat} : opN ks ds n = true ↔ ∀ k, k < n → hasB (ks.getD k []) (ds.getD k 0).toNat = true := by
  induction n with
  | zero => exact ⟨fun _ k hk => by omega, fun _ => rfl⟩
  | succ n ih =>
    rw [opN, Bool.and_eq_true, ih]
    constructor
    · rintro ⟨h1, h2⟩ k hk
      by_cases e : k = n
      · subst e; exact h2
      · exact h1 k (by omega)
    · intro h
      exact ⟨fun k hk => h k (by omega), h n (by omega)⟩

theorem sameM_all {f g : Nat → Nat} : sameM f g = true ↔ ∀ i, i < 7 → f i = g i := by
  unfold sameM
  simp only [Bool.and_eq_true, decide_eq_true_eq]
  constructor
  · rintro ⟨⟨⟨⟨⟨⟨h0, h1⟩, h2⟩, h3⟩, h4⟩, h5⟩, h6⟩ i hi
    have : i = 0 ∨ i = 1 ∨ i = 2 ∨ i = 3 ∨ i = 4 ∨ i = 5 ∨ i = 6 := by omega
    rcases this with rfl | rfl | rfl | rfl | rfl | rfl | rfl <;> assumption
  · intro h
    exact ⟨⟨⟨⟨⟨⟨h 0 (by omega), h 1 (by omega)⟩, h 2 (by omega)⟩, h 3 (by omega)⟩, h 4 (by omega)⟩, h 5 (by omega)⟩, h 6 (by omega)⟩

theorem hasB_one {x : Int} {e : Nat} : hasB [x] e = decide ((e : Int) = x) := by
  unfold hasB
  refine decide_eq_decide.2 ?_
  rw [List.mem_singleton]

/-- All depths of a key are there just if it opens. -/
theorem hasM_op {dn : Nat} {ks : List (List Int)} {ds : List Int} {n : Nat} (hd : dn ≤ 9) (hn : n ≤ 7) (_ : ks.length = n) (_ : SmallP ks) (hl : ∀ i, i < n → 0 ≤ ds.getD i 0 ∧ ds.getD i 0 < (dn : Int)) : hasM dn ks (kqL ds n) n = opN ks ds n := by
  have hkl : (kqL ds n).length = n := rwL_length _ _
  have hat : ∀ i, i < n → (kqL ds n).getD i [] = [ds.getD i 0] := fun i hi => rwL_at (f := fun i => [ds.getD i 0]) hi
  have s2 : SmallP (kqL ds n) := fun i hi x hx => by
    rw [hkl] at hi
    rw [hat i hi, List.mem_singleton] at hx
    have := hl i hi
    omega
  have sj : SmallP (jnL (fun x y => x && y) dn ks (kqL ds n) n) := jnL_small hd
  rw [Bool.eq_iff_iff]
  unfold hasM
  rw [sameM_all, opN_all]
  constructor
  · intro h i hi
    have h1 := (mkP_eq sj s2 i).1 (h i (by omega)) (ds.getD i 0).toNat (by have := hl i hi; omega)
    have e1 : (jnL (fun x y => x && y) dn ks (kqL ds n) n).getD i [] = lsN (fun e => hasB (ks.getD i []) e && hasB ((kqL ds n).getD i []) e) dn := rwL_at hi
    have hb : hasB [ds.getD i 0] (ds.getD i 0).toNat = true := by rw [hasB_one]; exact decide_eq_true (by have := hl i hi; omega)
    rw [e1, lsN_has (by have := hl i hi; omega), hat i hi, hb, Bool.and_true] at h1
    exact h1
  · intro h i hi7
    refine (mkP_eq sj s2 i).2 fun e he => ?_
    by_cases hi : i < n
    · have e1 : (jnL (fun x y => x && y) dn ks (kqL ds n) n).getD i [] = lsN (fun e => hasB (ks.getD i []) e && hasB ((kqL ds n).getD i []) e) dn := rwL_at hi
      rw [e1, hat i hi]
      have hli := hl i hi
      by_cases hed : e < dn
      · rw [lsN_has hed]
        rw [hasB_one]
        by_cases hx : (e : Int) = ds.getD i 0
        · have h2 := h i hi
          rw [← hx, Int.toNat_natCast] at h2
          rw [h2, Bool.true_and]
        · rw [decide_eq_false hx, Bool.and_false]
      · have f1 : hasB (lsN (fun e => hasB (ks.getD i []) e && hasB ((kqL ds n).getD i []) e) dn) e = false := decide_eq_false fun hm => by
          obtain ⟨e', h1, h2, _⟩ := lsN_mem.1 hm
          omega
        rw [hat i hi] at f1
        rw [f1, hasB_one, decide_eq_false (by omega)]
    · rw [List.getD, List.getElem?_eq_none (by rw [jnL_length]; omega), List.getD, List.getElem?_eq_none (by rw [hkl]; omega)]

theorem okZ_yes {d : Int} {ks : List (List Int)} {s : ByteArray} (h : okZ d ks s = true) : pinsB d ks = true ∧ s.size = ks.length ∧ allK d s = true := by
  unfold okZ at h
  rw [Bool.and_eq_true, Bool.and_eq_true, decide_eq_true_eq] at h
  exact ⟨h.1.1, h.1.2, h.2⟩

theorem dg_bd {d : Int} {s : ByteArray} (h : allK d s = true) {i : Nat} (hi : i < s.size) : 0 ≤ (dg s).getD i 0 ∧ (dg s).getD i 0 < d := by
  have := of_decide_eq_true (allK_at h hi)
  rw [dg_at hi]
  omega

theorem keOpens_any (d : Int) (s : ByteArray) (A : Option Addr) (n c : Nat) (ks : List (List Int)) (w : World) (hs : s.size ≤ maxLen) (hA : KnobsA w A n ks) (hok : okZ d ks s = true) :
    Calls Try.prog 75 #[.agg #[.int .i64 d, .slice A n c], .string s] w fun e w' => e = .returned (.bool (opN ks (dg s) n)) ∧ Below w.heap.size w w' := by
  have HB0 := Lib.hid (show Below w.heap.size w (w.alloc (.cells #[.int .i64 d, .slice A n c] 27)) from (Below.refl _ _).alloc (Nat.le_refl _) _)
  obtain ⟨hp, hsz, hak⟩ := okZ_yes hok
  have HN9 := Lib.hid (pins_nine hp)
  have HAK := Lib.hid hak
  have hsn : s.size = n := hsz.trans hA.len
  have HA := Lib.hid (hA.below HB0.out)
  unfold maxLen at hs
  clear hA hok hsz hak hp
  go_enter Try.func75, Try.ntmps75
  go_wp2_with fail
  go_loop [10] (fun i => ∃ k : Nat, k ≤ n ∧ i = .int .i64 k ∧ opN ks (dg s) k = true) (fun i => n - (intOf i).toNat)
  case atStart => exact ⟨0, by omega, rfl, rfl⟩
  case round =>
    obtain ⟨k, hk, rfl, hop⟩ := hrel
    have HOP := Lib.hid hop
    clear hop
    by_cases hlt : k < n
    · obtain ⟨b, off, rfl, hb, hc⟩ := HA.out.at_.resolve_left (by omega)
      obtain ⟨Ak, ck, o1, _, hI⟩ := hc k hlt
      have HI := Lib.hid hI
      have hl9 := HN9.out k
      have hks : k < s.size := by omega
      have hdb := dg_bd HAK.out hks
      have HDA := Lib.hid (dg_at hks)
      have hu : ((s[k]'hks).toNat : Int) ≤ 255 := by have := (s[k]'hks).toNat_lt; omega
      have HX : Hid (opN ks (dg s) (k + 1) = (opN ks (dg s) k && hasB (ks.getD k []) ((dg s).getD k 0).toNat)) := Lib.hid rfl
      have HFA : Hid (hasB (ks.getD k []) ((dg s).getD k 0).toNat = false → opN ks (dg s) n = false) := Lib.hid (fun h => opN_false hlt h)
      obtain ⟨e, he⟩ : ∃ e : Nat, (dg s).getD k 0 = (e : Int) := ⟨((dg s).getD k 0).toNat, by omega⟩
      have HE : Hid (((s[k]'hks).toNat : Int) - 48 = (e : Int)) := Lib.hid (by rw [← HDA.out]; exact he)
      rw [he, Int.toNat_natCast] at HX HFA
      clear hc hI he HDA
      obtain ⟨x, hx⟩ : ∃ x, (s[k]'hks).toNat = x := ⟨_, rfl⟩
      have hxe : (x : Int) = (e : Int) + 48 := by have := HE.out; rw [hx] at this; omega
      have hxe2 : (e : Int) + 48 - 48 = (e : Int) := by omega
      obtain ⟨v, HV⟩ : ∃ v, Hid (hasB (ks.getD k []) e = v) := ⟨_, Lib.hid rfl⟩
      have HC : Hid (∀ W, IntsA W Ak (ks.getD k []).length (ks.getD k []) → Calls Try.prog 97 #[.slice Ak (ks.getD k []).length ck, .int .i64 (e : Int)] W fun x w' => x = .returned (.bool v) ∧ w' = W) := Lib.hid (fun W h => by rw [← HV.out]; exact l1Has_any _ _ _ (ks.getD k []) e W (by omega) h)
      rw [HV.out] at HX HFA
      clear HV
      generalize ks.getD k [] = xs at o1 HI HC hl9
      generalize xs.length = m at o1 HI HC hl9
      rcases v with _ | _
      · go_wp2_with (go_at_call 97; (try rw [hxe2]); refine (HC.out _ HI.out).mono ?_; rintro e w3 ⟨rfl, hw3⟩; subst hw3)
        go_ret
        exact ⟨ret_bool (HFA.out (by first | rfl | trivial)).symm, HB0.out⟩
      · go_wp2_with (go_at_call 97; (try rw [hxe2]); refine (HC.out _ HI.out).mono ?_; rintro e w3 ⟨rfl, hw3⟩; subst hw3)
        go_round
        case rel => exact ⟨k + 1, by omega, by go_num, by rw [HX.out, HOP.out]; rfl⟩
        case measure => simp [intOf]; omega
    · obtain rfl : k = n := by omega
      go_wp2_with fail
      go_ret
      exact ⟨ret_bool HOP.out.symm, HB0.out⟩

/-- Whether a key opens. -/
def doZ (d : Int) (ks : List (List Int)) (s : ByteArray) : Bool := okZ d ks s && opN ks (dg s) ks.length

set_option maxHeartbeats 2000000 in
theorem specDoesOpen_any (d : Int) (s : ByteArray) (A : Option Addr) (n c : Nat) (ks : List (List Int)) (w : World) (hm : n + lensAt ks n ≤ 1048576) (hs : s.size ≤ maxLen) (hA : KnobsA w A n ks) :
    Calls Try.prog 27 #[.agg #[.int .i64 d, .slice A n c], .string s] w fun e w' => e = .returned (.tuple #[.bool (doZ d ks s), .bool (okZ d ks s)]) ∧ Below w.heap.size w w' := by
  have HB0 := Lib.hid (show Below w.heap.size w (w.alloc (.cells #[.int .i64 d, .slice A n c] 27)) from (Below.refl _ _).alloc (Nat.le_refl _) _)
  have CU := Lib.hid (Cells.new (W := w) (cs := #[.int .i64 d, .slice A n c]) (t := 27) (g := w.heap.size) (n := 2) rfl rfl)
  have HA := Lib.hid hA
  have HN := Lib.hid hA.len
  have HS := Lib.hid hs
  clear hA hs
  obtain ⟨v1, HV1⟩ : ∃ v, Hid (pinsB d ks = v) := ⟨_, Lib.hid rfl⟩
  rcases v1 with _ | _
  · have HZ : Hid (okZ d ks s = false) := Lib.hid (by unfold okZ; rw [HV1.out]; rfl)
    have HD : Hid (doZ d ks s = false) := Lib.hid (by unfold doZ; rw [HZ.out]; rfl)
    rw [HZ.out, HD.out]
    go_enter Try.func27, Try.ntmps27
    go_wp2_with (go_at_call 67; refine (keGood_any _ _ _ _ ks _ hm (HA.out.below HB0.out)).mono ?_; rw [HV1.out]; rintro e w1 ⟨rfl, hb1⟩)
    go_ret2
    exact ⟨rfl, bel_call HB0.out hb1⟩
  · obtain ⟨v2, HV2⟩ : ∃ v, Hid (okZ d ks s = v) := ⟨_, Lib.hid rfl⟩
    rcases v2 with _ | _
    · have HD : Hid (doZ d ks s = false) := Lib.hid (by unfold doZ; rw [HV2.out]; rfl)
      rw [HV2.out, HD.out]
      go_enter Try.func27, Try.ntmps27
      go_wp2_with (first
        | (go_at_call 67; refine (keGood_any _ _ _ _ ks _ hm (HA.out.below HB0.out)).mono ?_; rw [HV1.out]; rintro e w1 ⟨rfl, hb1⟩
           have HB1 := Lib.hid (bel_call HB0.out hb1)
           have HC1 := Lib.hid (CU.out.call hb1)
           have l0 : w1.cell? ⟨w.heap.size, 0, none⟩ = some (.int .i64 d) := HC1.out.cell (show 0 < 2 by omega)
           have l1 : w1.cell? ⟨w.heap.size, 1, none⟩ = some (.slice A n c) := HC1.out.cell (show 1 < 2 by omega)
           clear hb1)
        | (go_at_call 73; refine (keIs_any d s _ _ _ ks _ HS.out HN.out HV1.out).mono ?_; rw [HV2.out]; rintro e w3 ⟨rfl, hb3⟩))
      go_ret2
      exact ⟨rfl, bel_call HB1.out hb3⟩
    · have HD : Hid (doZ d ks s = opN ks (dg s) n) := Lib.hid (by unfold doZ; rw [HV2.out, HN.out]; rfl)
      rw [HV2.out, HD.out]
      go_enter Try.func27, Try.ntmps27
      go_wp2_with (first
        | (go_at_call 67; refine (keGood_any _ _ _ _ ks _ hm (HA.out.below HB0.out)).mono ?_; rw [HV1.out]; rintro e w1 ⟨rfl, hb1⟩
           have HB1 := Lib.hid (bel_call HB0.out hb1)
           have HC1 := Lib.hid (CU.out.call hb1)
           have l0 : w1.cell? ⟨w.heap.size, 0, none⟩ = some (.int .i64 d) := HC1.out.cell (show 0 < 2 by omega)
           have l1 : w1.cell? ⟨w.heap.size, 1, none⟩ = some (.slice A n c) := HC1.out.cell (show 1 < 2 by omega)
           clear hb1)
        | (go_at_call 73; refine (keIs_any d s _ _ _ ks _ HS.out HN.out HV1.out).mono ?_; rw [HV2.out]; rintro e w3 ⟨rfl, hb3⟩
           have HB3 := Lib.hid (bel_call HB1.out hb3)
           have HC3 := Lib.hid (HC1.out.call hb3)
           have r0 : w3.cell? ⟨w.heap.size, 0, none⟩ = some (.int .i64 d) := HC3.out.cell (show 0 < 2 by omega)
           have r1 : w3.cell? ⟨w.heap.size, 1, none⟩ = some (.slice A n c) := HC3.out.cell (show 1 < 2 by omega)
           clear hb3)
        | (go_at_call 75; refine (keOpens_any d s _ _ _ ks _ HS.out (HA.out.below HB3.out) HV2.out).mono ?_; rintro e w5 ⟨rfl, hb5⟩))
      go_ret2
      exact ⟨rfl, bel_call HB3.out hb5⟩

set_option maxHeartbeats 2000000 in
theorem doesOpen_any (d : Int) (s : ByteArray) (A : Option Addr) (n c : Nat) (ks : List (List Int)) (w : World) (hm : n + lensAt ks n ≤ 1048576) (hs : s.size ≤ 1048576) (hA : KnobsA w A n ks) :
    Calls Try.prog 28 #[.agg #[.int .i64 d, .slice A n c], .string s] w fun e w' => e = .returned (.tuple #[.bool (doZ d ks s), .bool (okZ d ks s)]) ∧ Below w.heap.size w w' := by
  have HB0 := Lib.hid (show Below w.heap.size w (w.alloc (.cells #[.int .i64 d, .slice A n c] 27)) from (Below.refl _ _).alloc (Nat.le_refl _) _)
  have CU := Lib.hid (Cells.new (W := w) (cs := #[.int .i64 d, .slice A n c]) (t := 27) (g := w.heap.size) (n := 2) rfl rfl)
  have HA := Lib.hid hA
  have HN := Lib.hid hA.len
  clear hA
  obtain ⟨v2, HV2⟩ : ∃ v, Hid (okZ d ks s = v) := ⟨_, Lib.hid rfl⟩
  have HPK : Hid (∀ W : World, KnobsA W A n ks → Calls Try.prog 74 #[.agg #[.int .i64 d, .slice A n c], .string s] W (PinsOut W (okD d ks s) (okK d ks s) v2)) := Lib.hid (fun W h => by have h := pinsOfKeyM_any d s A n c ks W hm hs h; rw [HV2.out] at h; exact h)
  rcases v2 with _ | _
  · have HD : Hid (doZ d ks s = false) := Lib.hid (by unfold doZ; rw [HV2.out]; rfl)
    rw [HV2.out, HD.out]
    generalize okD d ks s = od at HPK
    generalize okK d ks s = K0 at HPK
    obtain ⟨m, hm0⟩ : ∃ m, K0.length = m := ⟨_, rfl⟩
    have HM := Lib.hid hm0
    clear hm0
    go_enter Try.func28, Try.ntmps28
    go_wp2_with (go_at_call 74; refine (HPK.out _ (HA.out.below HB0.out)).mono ?_; rintro e w1 ⟨v1, rfl, hR1, hb1⟩; obtain ⟨A1, c1, rfl⟩ := hR1.slice; rw [HM.out])
    go_ret2
    exact ⟨rfl, (bel_call HB0.out hb1).alloc (bel_call HB0.out hb1).size _⟩
  · have HD : Hid (doZ d ks s = opN ks (dg s) n) := Lib.hid (by unfold doZ; rw [HV2.out, HN.out]; rfl)
    rw [HV2.out, HD.out]
    obtain ⟨hp, hsz, hak⟩ := okZ_yes HV2.out
    obtain ⟨h1, h2, h3, h4, _⟩ := pinsB_yes hp
    have hsn : s.size = n := hsz.trans HN.out
    have eD : okD d ks s = d := by unfold okD; rw [HV2.out, if_pos rfl]
    have eK : okK d ks s = kqL (dg s) n := by unfold okK; rw [HV2.out, if_pos rfl, hsn]
    rw [eD, eK] at HPK
    have hn7 : n ≤ 7 := by have := HN.out; omega
    obtain ⟨dn, hdn⟩ : ∃ dn : Nat, d = dn := ⟨d.toNat, by omega⟩
    subst hdn
    have hbd : ∀ i, i < n → 0 ≤ (dg s).getD i 0 ∧ (dg s).getD i 0 < (dn : Int) := fun i hi => dg_bd hak (by omega)
    have HHM := Lib.hid (hasM_op (ds := dg s) (show dn ≤ 9 by omega) hn7 HN.out (pins_small hp) hbd)
    have HSM := Lib.hid (pins_small hp)
    have hkl : (kqL (dg s) n).length = n := rwL_length _ _
    have hat : ∀ i, i < n → (kqL (dg s) n).getD i [] = [(dg s).getD i 0] := fun i hi => rwL_at (f := fun i => [(dg s).getD i 0]) hi
    have HS2 : Hid (SmallP (kqL (dg s) n)) := Lib.hid (fun i hi x hx => by
      rw [hkl] at hi
      rw [hat i hi, List.mem_singleton] at hx
      have := hbd i hi
      omega)
    have HMX : Hid (∀ i, i < (kqL (dg s) n).length → ((kqL (dg s) n).getD i []).length ≤ maxLen) := Lib.hid (fun i hi => by
      rw [hkl] at hi
      rw [hat i hi]
      unfold maxLen
      show 1 ≤ _
      omega)
    have HL := Lib.hid hkl
    clear hbd hkl hat hp hak eD eK
    rw [← HHM.out]
    have HCH : Hid (∀ (W : World) (A2 : Option Addr) (c2 : Nat), KnobsA W A n ks → KnobsA W A2 n (kqL (dg s) n) → Calls Try.prog 76 #[.agg #[.int .i64 (dn : Int), .slice A n c], .agg #[.int .i64 (dn : Int), .slice A2 n c2]] W fun e w' => e = .returned (.bool (hasM dn ks (kqL (dg s) n) n)) ∧ Below W.heap.size W w') := Lib.hid (fun W A2 c2 a b => has_any dn (dn : Int) A A2 n n c c2 ks (kqL (dg s) n) W hn7 hn7 (by omega) a b HSM.out HS2.out)
    generalize hasM dn ks (kqL (dg s) n) n = z at HCH ⊢
    clear HHM HS2
    generalize kqL (dg s) n = K0 at HPK HMX HL HCH
    go_enter Try.func28, Try.ntmps28
    go_wp2_with (first
      | (go_at_call 74; refine (HPK.out _ (HA.out.below HB0.out)).mono ?_; rintro e w1 ⟨v1, rfl, hR1, hb1⟩; obtain ⟨A1, c1, rfl⟩ := hR1.slice; rw [HL.out] at hR1 ⊢
         have HB1 := Lib.hid ((bel_call HB0.out hb1).alloc (bel_call HB0.out hb1).size (.cells #[.int .i64 (dn : Int), .slice A1 n c1] 27))
         have HC1 := Lib.hid ((CU.out.call hb1).alloc (.cells #[.int .i64 (dn : Int), .slice A1 n c1] 27))
         have HR1 := Lib.hid (hR1.alloc (.cells #[.int .i64 (dn : Int), .slice A1 n c1] 27))
         have l0 : (w1.alloc (.cells #[.int .i64 (dn : Int), .slice A1 n c1] 27)).cell? ⟨w.heap.size, 0, none⟩ = some (.int .i64 (dn : Int)) := HC1.out.cell (show 0 < 2 by omega)
         have l1 : (w1.alloc (.cells #[.int .i64 (dn : Int), .slice A1 n c1] 27)).cell? ⟨w.heap.size, 1, none⟩ = some (.slice A n c) := HC1.out.cell (show 1 < 2 by omega)
         clear hb1 hR1)
      | (go_at_call 76; refine (HCH.out _ _ _ (HA.out.below HB1.out) (HR1.out.knobs HMX.out)).mono ?_; rintro e w3 ⟨rfl, hb3⟩))
    go_ret2
    exact ⟨rfl, bel_call HB1.out hb3⟩

end Go.Proofs.Ytgcadcekkojidaa
