/- Solutions, their number, the first one, whether a puzzle is solved, as both programs answer. No conditions. -/
import Derived.Test.YtgopaflggbgplaaUk
namespace Go.Proofs.Ytgopaflggbgplaa
open Go.ChangeShapes Go.WideShapes Go.ChangeAt Go.RowKit Go.Joins

/-- A puzzle in a block of the call's own. -/
abbrev PB (w : World) (a b : Int) (v : Value) (w' : World) : Prop :=
  w'.cell? ⟨w.heap.size, 0, none⟩ = some (.int .i64 a) ∧ w'.cell? ⟨w.heap.size, 1, none⟩ = some (.int .i64 b) ∧ w'.cell? ⟨w.heap.size, 2, none⟩ = some v ∧ Below w.heap.size w w' ∧ w.heap.size < w'.heap.size

theorem PB.below {w W W' : World} {a b : Int} {v : Value} (h : PB w a b v W) (hb : Below W.heap.size W W') : PB w a b v W' := by
  obtain ⟨h0, h1, h2, h3, h4⟩ := h
  exact ⟨by rw [hb.cell (p := ⟨w.heap.size, 0, none⟩) h4, h0], by rw [hb.cell (p := ⟨w.heap.size, 1, none⟩) h4, h1], by rw [hb.cell (p := ⟨w.heap.size, 2, none⟩) h4, h2], bel_call h3 hb, Nat.lt_of_lt_of_le h4 hb.size⟩

theorem call_PB {K : FuncId} {args : Array Value} {u : Value} {w W : World} {a b : Int} {v : Value} (h : PB w a b v W) (c : Calls Try.prog K args W fun e w' => e = .returned u ∧ Below W.heap.size W w') :
    Calls Try.prog K args W fun e w' => e = .returned u ∧ PB w a b v w' :=
  c.mono fun _ _ ⟨he, hb⟩ => ⟨he, h.below hb⟩

theorem PB_new (w : World) (a b : Int) (v : Value) (t : TypeId) : PB w a b v (w.alloc (.cells #[.int .i64 a, .int .i64 b, v] t)) := by
  refine ⟨by simp, by simp, by simp, ?_, by simp⟩
  (repeat (first | assumption | exact Below.refl _ _ | (refine Below.alloc ?_ (by first | omega | (simp; done) | (simp; omega)) _) | (refine Below.setCell ?_ (by first | omega | (simp; done) | (simp; omega)) _) | refine bel_drewN ?_ _ | refine bel_drew ?_ | (refine bel_call ?_ (by assumption))))

/-- The solutions. -/
def slL (a b : Int) (cs : List Clu) : List ByteArray := if pzB a b cs then solL a b cs else []

theorem slL_yes {a b : Int} {cs : List Clu} (h : pzB a b cs = true) : slL a b cs = solL a b cs := by unfold slL; rw [h]; rfl

theorem slL_no {a b : Int} {cs : List Clu} (h : pzB a b cs = false) : slL a b cs = [] := by unfold slL; rw [h]; rfl

theorem slL_length (a b : Int) (cs : List Clu) : (slL a b cs).length ≤ 125 := by
  by_cases h : pzB a b cs = true
  · rw [slL_yes h]; exact solL_length cs (pzB_yes h).1
  · rw [slL_no (Bool.eq_false_iff.2 h)]; simp

/-- How many there are, whether there is a first one, the first one, whether there is one alone. -/
def csN (a b : Int) (cs : List Clu) : Int := (slL a b cs).length
def fsB (a b : Int) (cs : List Clu) : Bool := decide (0 < (slL a b cs).length)
def fsS (a b : Int) (cs : List Clu) : ByteArray := (slL a b cs).getD 0 ByteArray.empty
def isB (a b : Int) (cs : List Clu) : Bool := decide (csN a b cs = 1)

/-- Texts handed back with yes or no. -/
def SolsOut (w : World) (ts : List ByteArray) (ok : Bool) (e : Ending) (w' : World) : Prop := ∃ A c, e = .returned (.tuple #[.slice A ts.length c, .bool ok]) ∧ OwnS w' w.heap.size A ts.length ts ∧ Below w.heap.size w w'

theorem OwnS.first {w : World} {B : Nat} {A : Option Addr} {n : Nat} {ts : List ByteArray} (h : OwnS w B A n ts) (hn : 0 < n) : ∃ g, A = some ⟨g, 0, none⟩ ∧ w.cell? ⟨g, 0, none⟩ = some (.string (ts.getD 0 ByteArray.empty)) := by
  obtain ⟨g, e, _, hC⟩ := h.2.2.resolve_left (by omega)
  exact ⟨g, e, hC.cell hn⟩

theorem ownS_down {w : World} {B B' : Nat} {A : Option Addr} {n : Nat} {ts : List ByteArray} (h : OwnS w B A n ts) (hB : B' ≤ B) : OwnS w B' A n ts :=
  ⟨h.1, h.2.1, h.2.2.imp id fun ⟨g, e, hg, hC⟩ => ⟨g, e, Nat.le_trans hB hg, hC⟩⟩

set_option maxHeartbeats 2000000 in
theorem solutions_any (a b : Int) (A : Option Addr) (n c : Nat) (cs : List Clu) (w : World) (hn : n ≤ maxLen) (hA : ArgC w A n cs) :
    Calls Try.prog 69 #[.agg #[.int .i64 a, .int .i64 b, .slice A n c]] w (SolsOut w (slL a b cs) (pzB a b cs)) := by
  have H0 : Hid (PB w a b (.slice A n c) (w.alloc (.cells #[.int .i64 a, .int .i64 b, .slice A n c] 33))) := Lib.hid (PB_new ..)
  have HN := Lib.hid hn
  have HA := Lib.hid hA
  clear hn hA
  by_cases hp : pzB a b cs = true
  · have HP := Lib.hid hp
    obtain ⟨hp1, hp2, hp3⟩ := pzB_yes hp
    have HP1 := Lib.hid hp1
    have HP3 := Lib.hid hp3
    have H6 : Hid (n ≤ 6) := Lib.hid (by rw [← HA.out.len]; exact hp2)
    have HV := Lib.hid (slL_yes hp)
    clear hp hp1 hp2 hp3
    go_enter Try.func69, Try.ntmps69
    go_wp2_with (first | (go_at_call 23; refine (call_PB H0.out (isPuzzle_any _ _ _ _ _ cs _ HN.out (HA.out.below H0.out.2.2.2.1))).mono ?_; rw [HP.out]; rintro e w1 ⟨rfl, hS1⟩; have H1 := Lib.hid hS1; obtain ⟨p1, q1, s1, _, z1⟩ := hS1) | (go_at_call 34; refine (codesWith_any _ _ _ _ _ cs _ H6.out (HA.out.below H1.out.2.2.2.1) HP1.out HP3.out).mono ?_; rintro e w2 ⟨A9, c9, rfl, hO, hb⟩))
    go_ret2
    exact ⟨A9, c9, by rw [HV.out, HP.out]; rfl, by rw [HV.out]; exact ownS_down hO (Nat.le_of_lt z1), bel_call H1.out.2.2.2.1 hb⟩
  · have HP := Lib.hid (Bool.eq_false_iff.2 hp)
    have HV := Lib.hid (slL_no HP.out)
    clear hp
    go_enter Try.func69, Try.ntmps69
    go_wp2_with (go_at_call 23; refine (call_PB H0.out (isPuzzle_any _ _ _ _ _ cs _ HN.out (HA.out.below H0.out.2.2.2.1))).mono ?_; rw [HP.out]; rintro e w1 ⟨rfl, hS1⟩; have H1 := Lib.hid hS1; obtain ⟨p1, q1, s1, _, z1⟩ := hS1)
    go_ret2
    exact ⟨none, 0, by rw [HV.out, HP.out]; rfl, by rw [HV.out]; exact ⟨rfl, Nat.zero_le _, .inl rfl⟩, H1.out.2.2.2.1⟩

set_option maxHeartbeats 2000000 in
theorem countSolutions_any (a b : Int) (A : Option Addr) (n c : Nat) (cs : List Clu) (w : World) (hn : n ≤ maxLen) (hA : ArgC w A n cs) :
    Calls Try.prog 49 #[.agg #[.int .i64 a, .int .i64 b, .slice A n c]] w fun e w' => e = .returned (.tuple #[.int .i64 (csN a b cs), .bool (pzB a b cs)]) ∧ Below w.heap.size w w' := by
  have H0 : Hid (PB w a b (.slice A n c) (w.alloc (.cells #[.int .i64 a, .int .i64 b, .slice A n c] 33))) := Lib.hid (PB_new ..)
  have HN := Lib.hid hn
  have HA := Lib.hid hA
  clear hn hA
  have HV : Hid (csN a b cs = ((slL a b cs).length : Int)) := Lib.hid rfl
  go_enter Try.func49, Try.ntmps49
  go_wp2_with (go_at_call 69; refine (solutions_any _ _ _ _ _ cs _ HN.out (HA.out.below H0.out.2.2.2.1)).mono ?_; rintro e w1 ⟨A9, c9, rfl, hO, hb⟩)
  go_ret2
  exact ⟨by rw [HV.out]; rfl, bel_call H0.out.2.2.2.1 hb⟩

/-- There is one code alone that fits. -/
def oneB (a b : Int) (cs : List Clu) : Bool := decide (((solL a b cs).length : Int) = 1)

set_option maxHeartbeats 1000000 in
theorem pzSolved_any (a b : Int) (A : Option Addr) (n c : Nat) (cs : List Clu) (w : World) (hn : n ≤ 6) (hA : ArgC w A n cs) (hp : puzB a b = true) (h : cs.all (cluB a b) = true) :
    Calls Try.prog 30 #[.agg #[.int .i64 a, .int .i64 b], .slice A n c] w fun e w' => e = .returned (.bool (oneB a b cs)) ∧ Below w.heap.size w w' := by
  have hA1 := hA.below ((Below.refl _ _).alloc (Nat.le_refl _) (.cells #[.int .i64 a, .int .i64 b] 30))
  have HALL := Lib.hid (pzAll_any a b A n c cs _ hn hA1 hp h)
  have HV : Hid (oneB a b cs = decide (((solL a b cs).length : Int) = 1)) := Lib.hid rfl
  clear hA hp h hA1
  go_enter Try.func30, Try.ntmps30
  go_wp2_with (go_at_call 48; refine HALL.out.mono ?_; rintro e w2 ⟨A9, c9, rfl, hO, hb⟩)
  go_ret
  refine ⟨ret_bool (by rw [HV.out, ← eq_int_dec]), ?_⟩
  (repeat (first | assumption | exact Below.refl _ _ | (refine Below.alloc ?_ (by first | omega | (simp; done) | (simp; omega)) _) | (refine Below.setCell ?_ (by first | omega | (simp; done) | (simp; omega)) _) | refine bel_drewN ?_ _ | refine bel_drew ?_ | (refine bel_call ?_ (by assumption))))

set_option maxHeartbeats 2000000 in
theorem isSolved_any (a b : Int) (A : Option Addr) (n c : Nat) (cs : List Clu) (w : World) (hn : n ≤ maxLen) (hA : ArgC w A n cs) :
    Calls Try.prog 32 #[.agg #[.int .i64 a, .int .i64 b, .slice A n c]] w fun e w' => e = .returned (.tuple #[.bool (isB a b cs), .bool (pzB a b cs)]) ∧ Below w.heap.size w w' := by
  have H0 : Hid (PB w a b (.slice A n c) (w.alloc (.cells #[.int .i64 a, .int .i64 b, .slice A n c] 33))) := Lib.hid (PB_new ..)
  have HN := Lib.hid hn
  have HA := Lib.hid hA
  clear hn hA
  obtain ⟨v, hv⟩ : ∃ v, csN a b cs = v := ⟨_, rfl⟩
  have HQ := Lib.hid hv
  have HV : Hid (isB a b cs = (v == 1)) := Lib.hid (by unfold isB; rw [hv, eq_int_dec])
  clear hv
  go_enter Try.func32, Try.ntmps32
  go_wp2_with (go_at_call 49; refine (countSolutions_any _ _ _ _ _ cs _ HN.out (HA.out.below H0.out.2.2.2.1)).mono ?_; rw [HQ.out]; rintro e w1 ⟨rfl, hb⟩)
  go_ret2
  exact ⟨by rw [HV.out]; rfl, bel_call H0.out.2.2.2.1 hb⟩

end Go.Proofs.Ytgopaflggbgplaa
