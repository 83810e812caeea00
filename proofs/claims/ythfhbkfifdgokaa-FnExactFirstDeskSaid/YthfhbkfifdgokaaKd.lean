/- What the model asks of a lock, dead codes and live ones (without the turns between codes). For lists that can be. -/
import Derived.Test.YthfhbkfifdgokaaDead
import Derived.Test.YthfhbkfifdgokaaNb
namespace Go.Proofs.Ythfhbkfifdgokaa
open Go.ChangeShapes Go.WideShapes Go.ChangeAt Go.RowKit Go.Joins

/-- The text is one of the list. -/
def inS (ts : List ByteArray) (s : ByteArray) : Bool := ts.any fun t => decide (t = s)

theorem inS_iff {ts : List ByteArray} {s : ByteArray} : inS ts s = true ↔ s ∈ ts := by
  unfold inS
  rw [List.any_eq_true]
  constructor
  · rintro ⟨t, ht, h⟩
    rw [decide_eq_true_iff] at h
    rwa [← h]
  · exact fun h => ⟨s, h, decide_eq_true rfl⟩

theorem inS_yes {ts : List ByteArray} {s : ByteArray} (h : s ∈ ts) : inS ts s = true := inS_iff.2 h

theorem inS_no {ts : List ByteArray} {s : ByteArray} (h : s ∉ ts) : inS ts s = false := by
  rw [Bool.eq_false_iff]
  exact fun h2 => h (inS_iff.1 h2)

/-- A code that is not dead. -/
def alB (a b : Int) (ts : List ByteArray) (x : ByteArray) : Bool := askB a b x && !inS ts x

theorem alB_ask {a b : Int} {ts : List ByteArray} {x : ByteArray} (h : alB a b ts x = true) : askB a b x = true := by
  unfold alB at h
  rw [Bool.and_eq_true] at h
  exact h.1

theorem alB_of {a b : Int} {ts : List ByteArray} {x : ByteArray} (h : askB a b x = true) : alB a b ts x = !inS ts x := by unfold alB; rw [h]; rfl

theorem bytesI {b c : ByteArray} (h : b.data.toList = c.data.toList) : b = c := by
  have := Array.toList_inj.1 h
  cases b; cases c; simp at this; rw [this]

theorem bytesN {x y : ByteArray} (h : x ≠ y) : (x.toList == y.toList) = false := by
  rw [ByteArray.toList_eq, ByteArray.toList_eq]
  have : x.data.toList ≠ y.data.toList := fun e => h (bytesI e)
  simpa using this

theorem getD_eq {ts : List ByteArray} {k : Nat} (h : k < ts.length) : ts.getD k ByteArray.empty = ts[k] := by simp [List.getD, List.getElem?_eq_getElem h]

theorem notin_snoc {ts : List ByteArray} {s : ByteArray} {k : Nat} (hk : k < ts.length) (h : s ∉ ts.take k) (hne : ts.getD k ByteArray.empty ≠ s) : s ∉ ts.take (k + 1) := by
  rw [List.take_succ_eq_append_getElem hk, ← getD_eq hk]
  intro hc
  rw [List.mem_append, List.mem_singleton] at hc
  rcases hc with hc | hc
  · exact h hc
  · exact hne hc.symm

theorem l1HasS_any (A : Option Addr) (n c : Nat) (ts : List ByteArray) (s : ByteArray) (w : World) (hn : n ≤ maxLen) (hA : ArgS w A n ts) :
    Calls Try.prog 33 #[.slice A n c, .string s] w fun e w' => e = .returned (.bool (inS ts s)) ∧ w = w' := by
  unfold maxLen at hn
  have HL := Lib.hid hA.len
  rcases hA.at_ with h0 | ⟨B, off, rfl, hb, hc⟩
  · subst h0
    have HV : Hid (inS ts s = false) := Lib.hid (by rw [List.length_eq_zero_iff.1 HL.out]; exact inS_no (by simp))
    clear hA
    go_enter Try.func33, Try.ntmps33
    go_wp2_with fail
    go_loop [9] (fun i => i = .int .i64 0) (fun _ => 0)
    case atStart => rfl
    case round =>
      obtain rfl := hrel
      go_wp2_with fail
      go_ret
      exact ⟨ret_bool HV.out.symm, rfl⟩
  · have HC := Lib.hid hc
    clear hc hA
    go_enter Try.func33, Try.ntmps33
    go_wp2_with fail
    go_loop [9] (fun i => ∃ k : Nat, k ≤ n ∧ i = .int .i64 k ∧ s ∉ ts.take k) (fun i => n - (intOf i).toNat)
    case atStart => exact ⟨0, by omega, rfl, by simp⟩
    case round =>
      obtain ⟨k, hk, rfl, hall⟩ := hrel
      have HAL := Lib.hid hall
      clear hall
      by_cases hlt : k < n
      · have o1 := HC.out k hlt
        have HM : Hid (ts.getD k ByteArray.empty ∈ ts) := Lib.hid (by rw [getD_eq (by rw [HL.out]; exact hlt)]; exact List.getElem_mem _)
        have HS : Hid (ts.getD k ByteArray.empty ≠ s → s ∉ ts.take (k + 1)) := Lib.hid (notin_snoc (by rw [HL.out]; exact hlt) HAL.out)
        generalize ts.getD k ByteArray.empty = x at o1 HM HS
        by_cases he : x = s
        · subst he
          have HV : Hid (inS ts x = true) := Lib.hid (inS_yes HM.out)
          go_wp2_with fail
          go_ret
          exact ⟨ret_bool HV.out.symm, rfl⟩
        · have hne := bytesN he
          have HN := Lib.hid (HS.out he)
          clear he
          go_wp2_with fail
          go_round
          case rel => exact ⟨k + 1, by omega, by go_num, HN.out⟩
          case measure => simp [intOf]; omega
      · obtain rfl : k = n := by omega
        go_wp2_with fail
        go_ret
        have h := HAL.out
        rw [← HL.out, List.take_length] at h
        exact ⟨ret_bool (inS_no h).symm, rfl⟩

/-- There are a lock of few codes, dead codes and a live one. -/
def dkB (a b : Int) (ts : List ByteArray) (s : ByteArray) : Bool := areZ a b ts && alB a b ts s

theorem dkB_parts {a b : Int} {ts : List ByteArray} {s : ByteArray} (h : dkB a b ts s = true) : searchB a b = true ∧ deadB a b ts = true ∧ goodB a b = true ∧ cnN a b ≤ 1000 ∧ askB a b s = true ∧ s ∉ ts ∧ alB a b ts s = true := by
  unfold dkB areZ at h
  rw [Bool.and_eq_true, Bool.and_eq_true] at h
  obtain ⟨⟨h1, h2⟩, h3⟩ := h
  obtain ⟨g1, g2⟩ := searchB_good h1
  have h4 := h3
  unfold alB at h4
  rw [Bool.and_eq_true, Bool.not_eq_true'] at h4
  refine ⟨h1, h2, g1, ?_, h4.1, fun hm => by rw [inS_yes hm] at h4; exact absurd h4.2 (by simp), h3⟩
  have hc := cnN_cast g1
  unfold countZ at g2
  rw [g1, if_pos rfl] at g2
  omega

def okSm (a b : Int) (ts : List ByteArray) : Bool := searchB a b && deadB a b ts

/-- The places in memory of a lock that is boxed. -/
theorem box_below {W w1 : World} {a b : Int} {t : TypeId} (hb : Below (W.alloc (.cells #[.int .i64 a, .int .i64 b] t)).heap.size (W.alloc (.cells #[.int .i64 a, .int .i64 b] t)) w1) : Cells w1 W.heap.size 2 (b2F a b) ∧ Below W.heap.size W w1 :=
  ⟨(box_new (W := W) (a := a) (b := b) (t := t) rfl).call hb, bel_call ((Below.refl _ _).alloc (Nat.le_refl _) _) hb⟩

set_option maxHeartbeats 1000000 in
theorem deAsked_any (a b : Int) (A : Option Addr) (n c : Nat) (ts : List ByteArray) (s : ByteArray) (w : World) (hn : n ≤ maxLen) (hs : s.size ≤ maxLen) (hA : ArgS w A n ts) :
    Calls Try.prog 26 #[.agg #[.int .i64 a, .int .i64 b], .slice A n c, .string s] w fun e w' => e = .returned (.bool (dkB a b ts s)) ∧ Below w.heap.size w w' := by
  have HA := Lib.hid hA
  have HN := Lib.hid hn
  have HS := Lib.hid hs
  clear hA hn hs
  by_cases h1 : searchB a b = true
  · have H1 := Lib.hid h1
    clear h1
    by_cases h2 : deadB a b ts = true
    · have H2 := Lib.hid h2
      clear h2
      by_cases h3 : isCodeB a b s = true
      · have H3 := Lib.hid h3
        have HV : Hid (dkB a b ts s = !inS ts s) := Lib.hid (by unfold dkB areZ alB askB; rw [H1.out, H2.out, h3, (searchB_good H1.out).1]; rfl)
        clear h3
        go_enter Try.func26, Try.ntmps26
        go_wp2_with (first
          | (go_at_call 30; refine (deSmall_any _ _ _).mono ?_; rw [H1.out]; rintro e w1 ⟨rfl, hb1⟩; obtain ⟨C1, X1⟩ := box_below hb1; have HX1 := Lib.hid X1; have HC1 := Lib.hid C1; clear hb1 C1 X1; have l0 : w1.cell? ⟨w.heap.size, 0, none⟩ = some (.int .i64 a) := HC1.out.cell (show 0 < 2 by omega); have l1 : w1.cell? ⟨w.heap.size, 1, none⟩ = some (.int .i64 b) := HC1.out.cell (show 1 < 2 by omega))
          | (go_at_call 31; refine (deList_any _ _ _ _ _ ts _ HN.out (searchB_good H1.out).1 (HA.out.below HX1.out)).mono ?_; rw [H2.out]; rintro e w2 ⟨rfl, hb2⟩; have HC2 := Lib.hid (HC1.out.call hb2); have HX2 := Lib.hid (bel_call HX1.out hb2); have m0 : w2.cell? ⟨w.heap.size, 0, none⟩ = some (.int .i64 a) := HC2.out.cell (show 0 < 2 by omega); have m1 : w2.cell? ⟨w.heap.size, 1, none⟩ = some (.int .i64 b) := HC2.out.cell (show 1 < 2 by omega))
          | (go_at_call 32; refine (whCode_any _ _ _ _ HS.out (searchB_good H1.out).1).mono ?_; rw [H3.out]; rintro e w3 ⟨rfl, hb3⟩; have HX3 := Lib.hid (bel_call HX2.out hb3))
          | (go_at_call 33; refine (l1HasS_any _ _ _ ts _ _ HN.out (HA.out.below HX3.out)).mono ?_; rintro e w4 ⟨rfl, rfl⟩))
        go_ret
        exact ⟨ret_bool HV.out.symm, HX3.out⟩
      · have H3 := Lib.hid (Bool.eq_false_iff.2 h3)
        have HV : Hid (dkB a b ts s = false) := Lib.hid (by unfold dkB areZ alB askB; rw [H1.out, H2.out, H3.out, (searchB_good H1.out).1]; rfl)
        clear h3
        go_enter Try.func26, Try.ntmps26
        go_wp2_with (first
          | (go_at_call 30; refine (deSmall_any _ _ _).mono ?_; rw [H1.out]; rintro e w1 ⟨rfl, hb1⟩; obtain ⟨C1, X1⟩ := box_below hb1; have HX1 := Lib.hid X1; have HC1 := Lib.hid C1; clear hb1 C1 X1; have l0 : w1.cell? ⟨w.heap.size, 0, none⟩ = some (.int .i64 a) := HC1.out.cell (show 0 < 2 by omega); have l1 : w1.cell? ⟨w.heap.size, 1, none⟩ = some (.int .i64 b) := HC1.out.cell (show 1 < 2 by omega))
          | (go_at_call 31; refine (deList_any _ _ _ _ _ ts _ HN.out (searchB_good H1.out).1 (HA.out.below HX1.out)).mono ?_; rw [H2.out]; rintro e w2 ⟨rfl, hb2⟩; have HC2 := Lib.hid (HC1.out.call hb2); have HX2 := Lib.hid (bel_call HX1.out hb2); have m0 : w2.cell? ⟨w.heap.size, 0, none⟩ = some (.int .i64 a) := HC2.out.cell (show 0 < 2 by omega); have m1 : w2.cell? ⟨w.heap.size, 1, none⟩ = some (.int .i64 b) := HC2.out.cell (show 1 < 2 by omega))
          | (go_at_call 32; refine (whCode_any _ _ _ _ HS.out (searchB_good H1.out).1).mono ?_; rw [H3.out]; rintro e w3 ⟨rfl, hb3⟩; have HX3 := Lib.hid (bel_call HX2.out hb3)))
        go_ret
        exact ⟨ret_bool HV.out.symm, HX3.out⟩
    · have H2 := Lib.hid (Bool.eq_false_iff.2 h2)
      have HV : Hid (dkB a b ts s = false) := Lib.hid (by unfold dkB areZ; rw [H1.out, H2.out]; rfl)
      clear h2
      go_enter Try.func26, Try.ntmps26
      go_wp2_with (first
        | (go_at_call 30; refine (deSmall_any _ _ _).mono ?_; rw [H1.out]; rintro e w1 ⟨rfl, hb1⟩; obtain ⟨C1, X1⟩ := box_below hb1; have HX1 := Lib.hid X1; have HC1 := Lib.hid C1; clear hb1 C1 X1; have l0 : w1.cell? ⟨w.heap.size, 0, none⟩ = some (.int .i64 a) := HC1.out.cell (show 0 < 2 by omega); have l1 : w1.cell? ⟨w.heap.size, 1, none⟩ = some (.int .i64 b) := HC1.out.cell (show 1 < 2 by omega))
        | (go_at_call 31; refine (deList_any _ _ _ _ _ ts _ HN.out (searchB_good H1.out).1 (HA.out.below HX1.out)).mono ?_; rw [H2.out]; rintro e w2 ⟨rfl, hb2⟩; have HX2 := Lib.hid (bel_call HX1.out hb2)))
      go_ret
      exact ⟨ret_bool HV.out.symm, HX2.out⟩
  · have H1 := Lib.hid (Bool.eq_false_iff.2 h1)
    have HV : Hid (dkB a b ts s = false) := Lib.hid (by unfold dkB areZ; rw [H1.out]; rfl)
    clear h1
    go_enter Try.func26, Try.ntmps26
    go_wp2_with (go_at_call 30; refine (deSmall_any _ _ _).mono ?_; rw [H1.out]; rintro e w1 ⟨rfl, hb1⟩; obtain ⟨C1, X1⟩ := box_below hb1)
    go_ret
    exact ⟨ret_bool HV.out.symm, X1⟩

/-- .. two live ones. -/
def dtB (a b : Int) (ts : List ByteArray) (s t : ByteArray) : Bool := dkB a b ts s && dkB a b ts t

end Go.Proofs.Ythfhbkfifdgokaa
