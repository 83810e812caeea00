/- Codes behind turns of all knobs, as the model tells them. For at most 1048576 numbers. -/
import Derived.Test.YtejpcbkhlnjlfaaKnobs
namespace Go.Proofs.Ytejpcbkhlnjlfaa
open Go.ChangeShapes Go.WideShapes Go.ChangeAt Go.RowKit Go.Joins

theorem zip_knob {a b m : Int} {s : ByteArray} {xs : List Int} (hs : askB a b s = true) (hk : knobB a b xs = true) : knobB a b ((dg s).zipWith (addN b m) xs) = true := by
  have h1 := (asked hs).size
  have h2 := (knobB_yes hk).1
  have hb := (asked hs).b2
  have hl : ((dg s).zipWith (addN b m) xs).length = xs.length := by rw [List.length_zipWith, dg_length]; omega
  unfold knobB
  rw [hl, decide_eq_true h2, Bool.true_and, List.all_eq_true]
  intro x hx
  obtain ⟨j, hj, rfl⟩ := List.getElem_of_mem hx
  rw [List.getElem_zipWith]
  have h := addN_bd m hb ((dg s)[j]'(by rw [dg_length]; rw [hl] at hj; omega)) (xs[j]'(by rw [hl] at hj; exact hj))
  unfold inB
  exact decide_eq_true (by omega)

theorem turnK_ask {a b m : Int} {s : ByteArray} {xs : List Int} (hs : askB a b s = true) (hk : knobB a b xs = true) : askB a b (turnK b m s xs) = true :=
  knob_ask (asked hs).good (zip_knob hs hk)

/-- The code behind so many turns of the first knobs. -/
def afterK (b : Int) (ks : List (List Int)) (ts : List Int) (s : ByteArray) : Nat → ByteArray
  | 0 => s
  | k + 1 => turnK b (ts.getD k 0) (afterK b ks ts s k) (ks.getD k [])

theorem afterK_ask {a b : Int} {ks : List (List Int)} {ts : List Int} {s : ByteArray} (hs : askB a b s = true) (k : Nat) (hk : ∀ j, j < k → knobB a b (ks.getD j []) = true) : askB a b (afterK b ks ts s k) = true := by
  induction k with
  | zero => exact hs
  | succ k ih => exact turnK_ask (ih fun j hj => hk j (by omega)) (hk k (by omega))

theorem joAfter_any (a b : Int) (s : ByteArray) (A At : Option Addr) (n c ct : Nat) (ks : List (List Int)) (ts : List Int) (w : World) (hm : n ≤ 1048576) (hA : KnobsC w A n ks) (hT : IntsA w At n ts) (hs : askB a b s = true) (hk : ∀ j, j < n → knobB a b (ks.getD j []) = true) (ht : ∀ j, j < n → -1000 ≤ ts.getD j 0 ∧ ts.getD j 0 ≤ 1000) :
    Calls Try.prog 78 #[.agg #[.int .i64 a, .int .i64 b, .slice A n c], .string s, .slice At n ct] w fun e w' => e = .returned (.string (afterK b ks ts s n)) ∧ Below w.heap.size w w' := by
  have HS := Lib.hid hs
  have HA := Lib.hid hA
  have HT := Lib.hid hT
  have HK := Lib.hid hk
  have HTB := Lib.hid ht
  have CU := Lib.hid (Cells.new (W := w) (cs := #[.int .i64 a, .int .i64 b, .slice A n c]) (t := 31) (g := w.heap.size) (n := 3) rfl rfl)
  have HB0 := Lib.hid (show Below w.heap.size w (w.alloc (.cells #[.int .i64 a, .int .i64 b, .slice A n c] 31)) from (Below.refl _ _).alloc (Nat.le_refl _) _)
  clear hA hs hT hk ht
  go_enter Try.func78, Try.ntmps78
  go_wp2_with fail
  go_loopw [1, 11] (fun v i wr => ∃ k : Nat, k ≤ n ∧ i = .int .i64 k ∧ v = .string (afterK b ks ts s k) ∧ Cells wr w.heap.size 3 (fun j => (#[.int .i64 a, .int .i64 b, .slice A n c] : Array Value).toList.getD j undef) ∧ Below w.heap.size w wr) (fun _ i _ => n - (intOf i).toNat)
  case atStart => exact ⟨0, by omega, rfl, rfl, CU.out, HB0.out⟩
  case round =>
    obtain ⟨k, hk, rfl, rfl, hD, hB⟩ := hrel
    have HD := Lib.hid hD
    clear hD
    by_cases hlt : k < n
    · obtain ⟨bt, ot, rfl, hbt, hct⟩ := HT.out.at_.resolve_left (by omega)
      have o1 : wr.cell? ⟨bt, ot + k, none⟩ = some (.int .i64 (ts.getD k 0)) := by rw [hB.cell (p := ⟨bt, ot + k, none⟩) hbt]; exact hct k hlt
      have l0 : wr.cell? ⟨w.heap.size, 0, none⟩ = some (.int .i64 a) := HD.out.cell (show 0 < 3 by omega)
      have l1 : wr.cell? ⟨w.heap.size, 1, none⟩ = some (.int .i64 b) := HD.out.cell (show 1 < 3 by omega)
      have l2 : wr.cell? ⟨w.heap.size, 2, none⟩ = some (.slice A n c) := HD.out.cell (show 2 < 3 by omega)
      have HMB := Lib.hid (HTB.out k hlt)
      have HKN := Lib.hid (HK.out k hlt)
      have HAK := Lib.hid (afterK_ask (ts := ts) HS.out k fun j hj => HK.out j (by omega))
      have HNX : Hid (afterK b ks ts s (k + 1) = turnK b (ts.getD k 0) (afterK b ks ts s k) (ks.getD k [])) := Lib.hid rfl
      generalize ts.getD k 0 = m at o1 HMB HNX
      generalize afterK b ks ts s k = t at HAK HNX
      clear hct
      go_wp2_with (go_at_call 75; refine (joTurn_any _ _ _ _ _ _ _ _ ks _ hlt (HA.out.below hB) HAK.out HKN.out HMB.out).mono ?_; rintro e w3 ⟨rfl, hb3⟩)
      go_roundw
      case rel => exact ⟨k + 1, by omega, by go_num, by rw [HNX.out]; simp, HD.out.call hb3, bel_call hB hb3⟩
      case measure => simp [intOf]; omega
    · obtain rfl : k = n := by omega
      go_wp2_with fail
      go_ret
      exact ⟨rfl, hB⟩

/-- Whether all knobs can be turned so. -/
def kaB (a b : Int) (ks : List (List Int)) (s : ByteArray) (ts : List Int) : Bool := gcB a b ks s && decide (ts.length = ks.length) && ts.all fun x => inB x (-1000) 1000

def kaZ (a b : Int) (ks : List (List Int)) (s : ByteArray) (ts : List Int) : ByteArray := if kaB a b ks s ts then afterK b ks ts s ks.length else ⟨#[]⟩

theorem kaZ_yes {a b : Int} {ks : List (List Int)} {s : ByteArray} {ts : List Int} (h : kaB a b ks s ts = true) : kaZ a b ks s ts = afterK b ks ts s ks.length := by unfold kaZ; rw [h]; rfl

theorem kaZ_no {a b : Int} {ks : List (List Int)} {s : ByteArray} {ts : List Int} (h : kaB a b ks s ts = false) : kaZ a b ks s ts = ⟨#[]⟩ := by unfold kaZ; rw [h]; rfl

theorem all_in {xs : List Int} {lo hi : Int} (h : (xs.all fun x => inB x lo hi) = true) (j : Nat) (hj : j < xs.length) : lo ≤ xs.getD j 0 ∧ xs.getD j 0 ≤ hi := by
  have := List.all_eq_true.1 h xs[j] (List.getElem_mem _)
  unfold inB at this
  rw [decide_eq_true_eq] at this
  simpa only [List.getD, List.getElem?_eq_getElem hj, Option.getD_some] using this

set_option maxHeartbeats 2000000 in
theorem specKnobsAfter_any (a b : Int) (s : ByteArray) (A At : Option Addr) (n c nt ct : Nat) (ks : List (List Int)) (ts : List Int) (w : World) (hm : n + lensAt ks n ≤ 1048576) (ht : nt ≤ 1048576) (hs : s.size ≤ maxLen) (hA : KnobsC w A n ks) (hT : IntsA w At nt ts) :
    Calls Try.prog 30 #[.agg #[.int .i64 a, .int .i64 b, .slice A n c], .string s, .slice At nt ct] w fun e w' => e = .returned (.tuple #[.string (kaZ a b ks s ts), .bool (kaB a b ks s ts)]) ∧ Below w.heap.size w w' := by
  have HS := Lib.hid hs
  have HA := Lib.hid hA
  have HN := Lib.hid hA.len
  have HT := Lib.hid hT
  have HTN := Lib.hid hT.len
  have hn2 : n ≤ 1048576 := by omega
  have CU := Lib.hid (Cells.new (W := w) (cs := #[.int .i64 a, .int .i64 b, .slice A n c]) (t := 31) (g := w.heap.size) (n := 3) rfl rfl)
  have HB0 := Lib.hid (show Below w.heap.size w (w.alloc (.cells #[.int .i64 a, .int .i64 b, .slice A n c] 31)) from (Below.refl _ _).alloc (Nat.le_refl _) _)
  clear hA hs hT
  by_cases hg : gcB a b ks s = true
  · have HG := Lib.hid hg
    have HGY := Lib.hid (gearsB_yes (gcB_yes hg).1)
    have HAS := Lib.hid (gcB_yes hg).2
    clear hg
    by_cases hne : nt = n
    · subst hne
      obtain ⟨v, HV⟩ : ∃ v, Hid ((ts.all fun x => inB x (-1000) 1000) = v) := ⟨_, Lib.hid rfl⟩
      have HTB : Hid (kaB a b ks s ts = v) := Lib.hid (by unfold kaB; rw [HG.out, HTN.out, HN.out, HV.out]; simp)
      rcases v with _ | _
      · go_enter Try.func30, Try.ntmps30
        go_wp2_with (first
          | (go_at_call 73; refine (joCode_any _ _ _ _ _ _ ks _ hm HS.out (HA.out.below HB0.out)).mono ?_; rw [HG.out]; rintro e w1 ⟨rfl, hb1⟩
             have D1 := Lib.hid (CU.out.call hb1)
             have B1 := Lib.hid (bel_call HB0.out hb1)
             have l0 : w1.cell? ⟨w.heap.size, 0, none⟩ = some (.int .i64 a) := D1.out.cell (show 0 < 3 by omega)
             have l1 : w1.cell? ⟨w.heap.size, 1, none⟩ = some (.int .i64 b) := D1.out.cell (show 1 < 3 by omega)
             have l2 : w1.cell? ⟨w.heap.size, 2, none⟩ = some (.slice A nt c) := D1.out.cell (show 2 < 3 by omega))
          | (go_at_call 77; refine (l1All_any _ _ _ ts _ _ _ ht (HT.out.below B1.out)).mono ?_; rw [HV.out]; rintro e w2 ⟨rfl, rfl⟩))
        go_ret2
        exact ⟨by rw [kaZ_no HTB.out, HTB.out]; rfl, B1.out⟩
      · have HKN := Lib.hid (show ∀ j, j < nt → knobB a b (ks.getD j []) = true from fun j hj => HGY.out.2.2.2.2 j (by rw [HN.out]; exact hj))
        have HMB := Lib.hid (show ∀ j, j < nt → -1000 ≤ ts.getD j 0 ∧ ts.getD j 0 ≤ 1000 from fun j hj => all_in HV.out j (by rw [HTN.out]; exact hj))
        go_enter Try.func30, Try.ntmps30
        go_wp2_with (first
          | (go_at_call 73; refine (joCode_any _ _ _ _ _ _ ks _ hm HS.out (HA.out.below HB0.out)).mono ?_; rw [HG.out]; rintro e w1 ⟨rfl, hb1⟩
             have D1 := Lib.hid (CU.out.call hb1)
             have B1 := Lib.hid (bel_call HB0.out hb1)
             have l0 : w1.cell? ⟨w.heap.size, 0, none⟩ = some (.int .i64 a) := D1.out.cell (show 0 < 3 by omega)
             have l1 : w1.cell? ⟨w.heap.size, 1, none⟩ = some (.int .i64 b) := D1.out.cell (show 1 < 3 by omega)
             have l2 : w1.cell? ⟨w.heap.size, 2, none⟩ = some (.slice A nt c) := D1.out.cell (show 2 < 3 by omega))
          | (go_at_call 77; refine (l1All_any _ _ _ ts _ _ _ ht (HT.out.below B1.out)).mono ?_; rw [HV.out]; rintro e w2 ⟨rfl, rfl⟩)
          | (go_at_call 78; refine (joAfter_any _ _ _ _ _ _ _ _ ks ts _ ht (HA.out.below B1.out) (HT.out.below B1.out) HAS.out HKN.out HMB.out).mono ?_; rintro e w3 ⟨rfl, hb3⟩))
        go_ret2
        exact ⟨by rw [kaZ_yes HTB.out, HTB.out, HN.out]; rfl, bel_call B1.out hb3⟩
    · have hne2 : ¬ ((nt : Int) = (n : Int)) := by omega
      have HTB : Hid (kaB a b ks s ts = false) := Lib.hid (by unfold kaB; rw [HTN.out, HN.out, decide_eq_false hne, Bool.and_false, Bool.false_and])
      go_enter Try.func30, Try.ntmps30
      go_wp2_with (first
        | (go_at_call 73; refine (joCode_any _ _ _ _ _ _ ks _ hm HS.out (HA.out.below HB0.out)).mono ?_; rw [HG.out]; rintro e w1 ⟨rfl, hb1⟩
           have D1 := Lib.hid (CU.out.call hb1)
           have B1 := Lib.hid (bel_call HB0.out hb1)
           have l0 : w1.cell? ⟨w.heap.size, 0, none⟩ = some (.int .i64 a) := D1.out.cell (show 0 < 3 by omega)
           have l1 : w1.cell? ⟨w.heap.size, 1, none⟩ = some (.int .i64 b) := D1.out.cell (show 1 < 3 by omega)
           have l2 : w1.cell? ⟨w.heap.size, 2, none⟩ = some (.slice A n c) := D1.out.cell (show 2 < 3 by omega)))
      go_ret2
      exact ⟨by rw [kaZ_no HTB.out, HTB.out]; rfl, B1.out⟩
  · have HG := Lib.hid (Bool.eq_false_iff.2 hg)
    have HTB : Hid (kaB a b ks s ts = false) := Lib.hid (by unfold kaB; rw [HG.out]; rfl)
    clear hg
    go_enter Try.func30, Try.ntmps30
    go_wp2_with (go_at_call 73; refine (joCode_any _ _ _ _ _ _ ks _ hm HS.out (HA.out.below HB0.out)).mono ?_; rw [HG.out]; rintro e w1 ⟨rfl, hb1⟩)
    go_ret2
    exact ⟨by rw [kaZ_no HTB.out, HTB.out]; rfl, bel_call HB0.out hb1⟩

end Go.Proofs.Ytejpcbkhlnjlfaa
