/- For every input at which the law FnExactAddClue can be called it answers true and leaves its arguments as they were. No conditions. -/
import Derived.Test.YtgopaflggbgplaaUu
import Derived.Test.YtgopaflggbgplaaFacts
import Derived.Deep.DeepCutAuto
namespace Go.Proofs.Ytgopaflggbgplaa.fnExactAddClue
open Go.ChangeShapes Go.WideShapes Go.ChangeAt Go.RowKit Go.Joins
open Go.ChangeMaps (open_string shut_string)

def CutA (b : Nat) (za zb : Int) (zk : List Clu) (zo : Bool) (s6 s7 : Value) (wx : World) : Prop :=
  ∃ (U lo hi c : Nat) (A : Option Addr), s6 = .pointer (some ⟨U, 0, none⟩) ∧ s7 = .bool zo ∧ Cells wx U 3 (g3F za zb (.slice A zk.length c)) ∧ KC wx lo hi A zk.length (cluF zk) ∧ hi ≤ wx.heap.size ∧ b ≤ U ∧ b ≤ lo ∧ (U < lo ∨ hi ≤ U)

theorem cutA_new {w5 : World} {b : Nat} {za zb : Int} {zk : List Clu} {zo : Bool} {A : Option Addr} {c lo : Nat} {t : TypeId} (K : KC w5 lo w5.heap.size A zk.length (cluF zk)) (hb : b ≤ lo) (hs : lo ≤ w5.heap.size) :
    CutA b za zb zk zo (.pointer (some ⟨w5.heap.size, 0, none⟩)) (.bool zo) (w5.alloc (.cells #[.int .i64 za, .int .i64 zb, .slice A zk.length c] t)) :=
  ⟨_, lo, w5.heap.size, c, A, rfl, rfl, Cells.new (n := 3) rfl rfl, K.call ((Below.refl _ _).alloc (Nat.le_refl _) _), by rw [World.size_alloc]; omega, by omega, hb, .inr (Nat.le_refl _)⟩

theorem cutA_set {w5 : World} {b : Nat} {za zb : Int} {zk : List Clu} {zo : Bool} {A : Option Addr} {c lo g : Nat} (K : KC w5 lo w5.heap.size A zk.length (cluF zk)) (CA : Cells w5 g 3 (g3F 0 0 (.slice none 0 0))) (hb : b ≤ g) (hl : g < lo) :
    CutA b za zb zk zo (.pointer (some ⟨g, 0, none⟩)) (.bool zo) (((w5.setCell ⟨g, 0, none⟩ (.int .i64 za)).setCell ⟨g, 1, none⟩ (.int .i64 zb)).setCell ⟨g, 2, none⟩ (.slice A zk.length c)) :=
  ⟨g, lo, w5.heap.size, c, A, rfl, rfl, (((CA.set_ (show 0 < 3 by omega) _).set_ (show 1 < 3 by omega) _).set_ (show 2 < 3 by omega) _).congr (fun j hj => by
      have : j = 0 ∨ j = 1 ∨ j = 2 := by omega
      rcases this with rfl | rfl | rfl <;> rfl),
    ((K.far (p := ⟨g, 0, none⟩) hl _).far (p := ⟨g, 1, none⟩) hl _).far (p := ⟨g, 2, none⟩) hl _, by rw [size_setCell, size_setCell, size_setCell]; omega, hb, by omega, .inl hl⟩

set_option maxRecDepth 100000 in
set_option maxHeartbeats 60000000 in
theorem lawAddClue_true (a b : Int) (A : Option Addr) (n c : Nat) (cs : List Clu) (_ : (Lit.int .i64 a).wf = true) (_ : (Lit.int .i64 b).wf = true) {w : World} (hA : ArgC w A n cs) (hn : n ≤ maxLen) (x y z : Int) (_ : (Lit.int .i64 x).wf = true) (_ : (Lit.int .i64 y).wf = true) (_ : (Lit.int .i64 z).wf = true) (_ : World) :
    Calls Try.prog 3 #[.agg #[.int .i64 a, .int .i64 b, .slice A n c], .agg #[.int .i64 x, .int .i64 y, .int .i64 z]] w fun e w' => e = .returned (.bool true) ∧ Below w.heap.size w w' := by
  obtain rfl := hA.len
  have HA := Lib.hid hA
  unfold maxLen at hn
  clear hA
  have HQ1 : Hid (∀ (W : World) (g : Nat), ArgC W (some ⟨g, 0, none⟩) cs.length cs → cs.length ≤ 1048576 → Calls Try.prog 7 #[.agg #[.int .i64 a, .int .i64 b, .slice (some ⟨g, 0, none⟩) cs.length cs.length], .agg #[.int .i64 x, .int .i64 y, .int .i64 z]] W (PzOut W (acA a b cs (x, y, z) a) (acA a b cs (x, y, z) b) (acZ a b cs (x, y, z)) (acB a b cs (x, y, z)))) := Lib.hid (fun W g h hm => specAddClue_any _ _ _ _ cs _ _ _ W (by unfold maxLen; omega) h)
  have HQ2 : Hid (∀ (W : World) (g : Nat), ArgC W (some ⟨g, 0, none⟩) cs.length cs → cs.length ≤ 1048576 → Calls Try.prog 10 #[.agg #[.int .i64 a, .int .i64 b, .slice (some ⟨g, 0, none⟩) cs.length cs.length], .agg #[.int .i64 x, .int .i64 y, .int .i64 z]] W (PzOut W (acA a b cs (x, y, z) a) (acA a b cs (x, y, z) b) (acZ a b cs (x, y, z)) (acB a b cs (x, y, z)))) := Lib.hid (fun W g h hm => addClue_any _ _ _ _ cs _ _ _ W (by unfold maxLen; omega) h)
  have HM : Hid ((acZ a b cs (x, y, z)).length ≤ 1048576) := Lib.hid (by have := acZ_size a b cs (x, y, z); omega)
  generalize acA a b cs (x, y, z) a = za at HQ1 HQ2
  generalize acA a b cs (x, y, z) b = zb at HQ1 HQ2
  generalize acZ a b cs (x, y, z) = zk at HQ1 HQ2 HM
  generalize acB a b cs (x, y, z) = zo at HQ1 HQ2
  obtain ⟨W0, hW0⟩ : ∃ W, (w.alloc (.cells #[.int .i64 a, .int .i64 b, .slice A cs.length c] 26)).alloc (.cells #[.int .i64 x, .int .i64 y, .int .i64 z] 28) = W := ⟨_, rfl⟩
  have X0 := Lib.hid (show Below w.heap.size w W0 from by rw [← hW0]; (repeat (first | assumption | exact Below.refl _ _ | (refine Below.alloc ?_ (by first | omega | (simp; done) | (simp; omega)) _) | (refine Below.setCell ?_ (by first | omega | (simp; done) | (simp; omega)) _) | refine bel_drewN ?_ _ | refine bel_drew ?_ | (refine bel_call ?_ (by assumption)))))
  have CP0 := Lib.hid (show Cells W0 w.heap.size 3 (g3F a b (.slice A cs.length c)) from by rw [← hW0]; exact (Cells.new (n := 3) rfl rfl).alloc _)
  have CQ0 := Lib.hid (show Cells W0 (w.heap.size + 1) 3 (g3C x y z) from by rw [← hW0]; exact Cells.new (W := w.alloc _) (n := 3) (by rw [World.size_alloc]) rfl)
  have HW0 := Lib.hid hW0
  clear hW0
  go_enter Try.func3, Try.ntmps3
  go_wp2_with fail
  rw [HW0.out]
  refine (szPuzzle_any _ _ _ _ _ _ (by omega)).mono ?_
  rintro e w1 ⟨⟨r, rfl, hr⟩, hb1⟩

  have CP1 := Lib.hid (CP0.out.call hb1)
  have CQ1 := Lib.hid (CQ0.out.call hb1)
  have X1 := Lib.hid (bel_call X0.out hb1)
  clear hb1 CP0 CQ0 X0
  clear HW0
  by_cases hr0 : r < 0
  · go_wp2_with fail
    go_ret
    exact ⟨rfl, X1.out⟩
  have hm := hr (by omega)
  have hr2 : 0 ≤ r := by omega
  clear hr hr0
  go_wp2_with fail
  go_cut [6, 7] (fun s6 s7 wx => CutA w1.heap.size za zb zk zo s6 s7 wx ∧ Below w1.heap.size w1 wx)
  case first =>
    have X1b := Lib.hid (bel_drew (X1.out.alloc X1.out.size (.cells #[.int .i64 0, .int .i64 0, .slice none 0 0] 33)))
    have CP1b := Lib.hid ((CP1.out.call ((Below.refl _ _).alloc (Nat.le_refl _) (.cells #[.int .i64 0, .int .i64 0, .slice none 0 0] 33))).call (bel_drew (Below.refl _ _)))
    have CQ1b := Lib.hid ((CQ1.out.call ((Below.refl _ _).alloc (Nat.le_refl _) (.cells #[.int .i64 0, .int .i64 0, .slice none 0 0] 33))).call (bel_drew (Below.refl _ _)))
    have CA1b := Lib.hid (show Cells (w1.alloc (.cells #[.int .i64 0, .int .i64 0, .slice none 0 0] 33)).drew w1.heap.size 3 (g3F 0 0 (.slice none 0 0)) from (Cells.new (n := 3) rfl rfl).drew)
    have sz1 : w.heap.size + 1 < w1.heap.size := CQ1.out.lt
    have X1a := Lib.hid (bel_drew X1.out)
    have CP1a := Lib.hid (CP1.out.call (bel_drew (Below.refl _ _)))
    have CQ1a := Lib.hid (CQ1.out.call (bel_drew (Below.refl _ _)))
    have p0_1a : w1.drew.cell? ⟨w.heap.size, 0, none⟩ = some (.int .i64 a) := CP1a.out.cell (show 0 < 3 by omega)
    have p1_1a : w1.drew.cell? ⟨w.heap.size, 1, none⟩ = some (.int .i64 b) := CP1a.out.cell (show 1 < 3 by omega)
    have p2_1a : w1.drew.cell? ⟨w.heap.size, 2, none⟩ = some (.slice A cs.length c) := CP1a.out.cell (show 2 < 3 by omega)
    have q0_1a : w1.drew.cell? ⟨w.heap.size + 1, 0, none⟩ = some (.int .i64 x) := CQ1a.out.cell (show 0 < 3 by omega)
    have q1_1a : w1.drew.cell? ⟨w.heap.size + 1, 1, none⟩ = some (.int .i64 y) := CQ1a.out.cell (show 1 < 3 by omega)
    have q2_1a : w1.drew.cell? ⟨w.heap.size + 1, 2, none⟩ = some (.int .i64 z) := CQ1a.out.cell (show 2 < 3 by omega)
    have p0_1b : (w1.alloc (.cells #[.int .i64 0, .int .i64 0, .slice none 0 0] 33)).drew.cell? ⟨w.heap.size, 0, none⟩ = some (.int .i64 a) := CP1b.out.cell (show 0 < 3 by omega)
    have p1_1b : (w1.alloc (.cells #[.int .i64 0, .int .i64 0, .slice none 0 0] 33)).drew.cell? ⟨w.heap.size, 1, none⟩ = some (.int .i64 b) := CP1b.out.cell (show 1 < 3 by omega)
    have p2_1b : (w1.alloc (.cells #[.int .i64 0, .int .i64 0, .slice none 0 0] 33)).drew.cell? ⟨w.heap.size, 2, none⟩ = some (.slice A cs.length c) := CP1b.out.cell (show 2 < 3 by omega)
    have q0_1b : (w1.alloc (.cells #[.int .i64 0, .int .i64 0, .slice none 0 0] 33)).drew.cell? ⟨w.heap.size + 1, 0, none⟩ = some (.int .i64 x) := CQ1b.out.cell (show 0 < 3 by omega)
    have q1_1b : (w1.alloc (.cells #[.int .i64 0, .int .i64 0, .slice none 0 0] 33)).drew.cell? ⟨w.heap.size + 1, 1, none⟩ = some (.int .i64 y) := CQ1b.out.cell (show 1 < 3 by omega)
    have q2_1b : (w1.alloc (.cells #[.int .i64 0, .int .i64 0, .slice none 0 0] 33)).drew.cell? ⟨w.heap.size + 1, 2, none⟩ = some (.int .i64 z) := CQ1b.out.cell (show 2 < 3 by omega)
    have BZ1a := Lib.hid (bel_drew (Below.refl w1.heap.size w1))
    have BZ1b := Lib.hid (bel_drew ((Below.refl w1.heap.size w1).alloc (Nat.le_refl _) (.cells #[.int .i64 0, .int .i64 0, .slice none 0 0] 33)))
    go_region_with (first
      | (go_at_call 7
         refine (HQ1.out _ _ (argC_of rfl GP3a.out) hm).mono ?_
         rintro e w4 ⟨A0', c0', rfl, k0, hb4⟩
         have CP4a := Lib.hid (CP3a.out.call hb4)
         have CQ4a := Lib.hid (CQ3a.out.call hb4)
         have X4a := Lib.hid (bel_call X3a.out hb4)
         have BZ4a := Lib.hid (bel_call BZ3a.out hb4)
         have K04a := Lib.hid k0
         clear k0
         have zz4a : w3.heap.size ≤ w4.heap.size := hb4.size)
      | (go_at_call 7
         refine (HQ1.out _ _ (argC_of rfl GP3b.out) hm).mono ?_
         rintro e w4 ⟨A0', c0', rfl, k0, hb4⟩
         have CP4b := Lib.hid (CP3b.out.call hb4)
         have CQ4b := Lib.hid (CQ3b.out.call hb4)
         have X4b := Lib.hid (bel_call X3b.out hb4)
         have BZ4b := Lib.hid (bel_call BZ3b.out hb4)
         have K04b := Lib.hid k0
         clear k0
         have CA4b := Lib.hid (CA3b.out.call hb4)
         have v0 := CA4b.out.cell (show 0 < 3 by omega)
         have u0 := CA4b.out.frozen (show 0 < 3 by omega)
         have v1 := CA4b.out.cell (show 1 < 3 by omega)
         have u1 := CA4b.out.frozen (show 1 < 3 by omega)
         have v2 := CA4b.out.cell (show 2 < 3 by omega)
         have u2 := CA4b.out.frozen (show 2 < 3 by omega))
      | (go_at_call 7
         refine (HQ1.out _ _ (argC_of rfl GP3c.out) hm).mono ?_
         rintro e w4 ⟨A0', c0', rfl, k0, hb4⟩
         have CP4c := Lib.hid (CP3c.out.call hb4)
         have CQ4c := Lib.hid (CQ3c.out.call hb4)
         have X4c := Lib.hid (bel_call X3c.out hb4)
         have BZ4c := Lib.hid (bel_call BZ3c.out hb4)
         have K04c := Lib.hid k0
         clear k0
         have CA4c := Lib.hid (CA3c.out.call hb4)
         have v0 := CA4c.out.cell (show 0 < 3 by omega)
         have u0 := CA4c.out.frozen (show 0 < 3 by omega)
         have v1 := CA4c.out.cell (show 1 < 3 by omega)
         have u1 := CA4c.out.frozen (show 1 < 3 by omega)
         have v2 := CA4c.out.cell (show 2 < 3 by omega)
         have u2 := CA4c.out.frozen (show 2 < 3 by omega))
      | (go_at_call 9
         refine (toClue_any _ _ _ _).mono ?_
         rintro e w3 ⟨rfl, hb3⟩
         have GP3a := Lib.hid (GP2a.out.call hb3)
         have CP3a := Lib.hid (CP2a.out.call hb3)
         have CQ3a := Lib.hid (CQ2a.out.call hb3)
         have X3a := Lib.hid (bel_call X2a.out hb3)
         have BZ3a := Lib.hid (bel_call BZ2a.out hb3)
         have X3b := Lib.hid (X3a.out.alloc X3a.out.size (.cells #[.int .i64 0, .int .i64 0, .slice none 0 0] 33))
         have CP3b := Lib.hid ((CP3a.out.call ((Below.refl _ _).alloc (Nat.le_refl _) (.cells #[.int .i64 0, .int .i64 0, .slice none 0 0] 33))))
         have CQ3b := Lib.hid ((CQ3a.out.call ((Below.refl _ _).alloc (Nat.le_refl _) (.cells #[.int .i64 0, .int .i64 0, .slice none 0 0] 33))))
         have GP3b := Lib.hid ((GP3a.out.call ((Below.refl _ _).alloc (Nat.le_refl _) (.cells #[.int .i64 0, .int .i64 0, .slice none 0 0] 33))))
         have CA3b := Lib.hid (show Cells (w3.alloc (.cells #[.int .i64 0, .int .i64 0, .slice none 0 0] 33)) w3.heap.size 3 (g3F 0 0 (.slice none 0 0)) from Cells.new (n := 3) rfl rfl)
         have BZ3b := Lib.hid (BZ3a.out.alloc BZ3a.out.size (.cells #[.int .i64 0, .int .i64 0, .slice none 0 0] 33))
         clear hb3
         have sz3 : w.heap.size + 1 < w3.heap.size := CQ3a.out.lt
         have sy3 : w1.heap.size ≤ w3.heap.size := BZ3a.out.size
         have p0_3a : w3.cell? ⟨w.heap.size, 0, none⟩ = some (.int .i64 a) := CP3a.out.cell (show 0 < 3 by omega)
         have p1_3a : w3.cell? ⟨w.heap.size, 1, none⟩ = some (.int .i64 b) := CP3a.out.cell (show 1 < 3 by omega)
         have p2_3a : w3.cell? ⟨w.heap.size, 2, none⟩ = some (.slice A cs.length c) := CP3a.out.cell (show 2 < 3 by omega)
         have q0_3a : w3.cell? ⟨w.heap.size + 1, 0, none⟩ = some (.int .i64 x) := CQ3a.out.cell (show 0 < 3 by omega)
         have q1_3a : w3.cell? ⟨w.heap.size + 1, 1, none⟩ = some (.int .i64 y) := CQ3a.out.cell (show 1 < 3 by omega)
         have q2_3a : w3.cell? ⟨w.heap.size + 1, 2, none⟩ = some (.int .i64 z) := CQ3a.out.cell (show 2 < 3 by omega)
         have p0_3b : (w3.alloc (.cells #[.int .i64 0, .int .i64 0, .slice none 0 0] 33)).cell? ⟨w.heap.size, 0, none⟩ = some (.int .i64 a) := CP3b.out.cell (show 0 < 3 by omega)
         have p1_3b : (w3.alloc (.cells #[.int .i64 0, .int .i64 0, .slice none 0 0] 33)).cell? ⟨w.heap.size, 1, none⟩ = some (.int .i64 b) := CP3b.out.cell (show 1 < 3 by omega)
         have p2_3b : (w3.alloc (.cells #[.int .i64 0, .int .i64 0, .slice none 0 0] 33)).cell? ⟨w.heap.size, 2, none⟩ = some (.slice A cs.length c) := CP3b.out.cell (show 2 < 3 by omega)
         have q0_3b : (w3.alloc (.cells #[.int .i64 0, .int .i64 0, .slice none 0 0] 33)).cell? ⟨w.heap.size + 1, 0, none⟩ = some (.int .i64 x) := CQ3b.out.cell (show 0 < 3 by omega)
         have q1_3b : (w3.alloc (.cells #[.int .i64 0, .int .i64 0, .slice none 0 0] 33)).cell? ⟨w.heap.size + 1, 1, none⟩ = some (.int .i64 y) := CQ3b.out.cell (show 1 < 3 by omega)
         have q2_3b : (w3.alloc (.cells #[.int .i64 0, .int .i64 0, .slice none 0 0] 33)).cell? ⟨w.heap.size + 1, 2, none⟩ = some (.int .i64 z) := CQ3b.out.cell (show 2 < 3 by omega))
      | (go_at_call 9
         refine (toClue_any _ _ _ _).mono ?_
         rintro e w3 ⟨rfl, hb3⟩
         have GP3c := Lib.hid (GP2b.out.call hb3)
         have CP3c := Lib.hid (CP2b.out.call hb3)
         have CQ3c := Lib.hid (CQ2b.out.call hb3)
         have X3c := Lib.hid (bel_call X2b.out hb3)
         have BZ3c := Lib.hid (bel_call BZ2b.out hb3)
         have CA3c := Lib.hid (CA2b.out.call hb3)
         clear hb3
         have sz3 : w.heap.size + 1 < w3.heap.size := CQ3c.out.lt
         have sy3 : w1.heap.size ≤ w3.heap.size := BZ3c.out.size
         have p0_3c : w3.cell? ⟨w.heap.size, 0, none⟩ = some (.int .i64 a) := CP3c.out.cell (show 0 < 3 by omega)
         have p1_3c : w3.cell? ⟨w.heap.size, 1, none⟩ = some (.int .i64 b) := CP3c.out.cell (show 1 < 3 by omega)
         have p2_3c : w3.cell? ⟨w.heap.size, 2, none⟩ = some (.slice A cs.length c) := CP3c.out.cell (show 2 < 3 by omega)
         have q0_3c : w3.cell? ⟨w.heap.size + 1, 0, none⟩ = some (.int .i64 x) := CQ3c.out.cell (show 0 < 3 by omega)
         have q1_3c : w3.cell? ⟨w.heap.size + 1, 1, none⟩ = some (.int .i64 y) := CQ3c.out.cell (show 1 < 3 by omega)
         have q2_3c : w3.cell? ⟨w.heap.size + 1, 2, none⟩ = some (.int .i64 z) := CQ3c.out.cell (show 2 < 3 by omega))
      | (go_at_call 9
         refine (toClue_any _ _ _ _).mono ?_
         rintro e w3 ⟨rfl, hb3⟩
         have GP3c := Lib.hid (GP2c.out.call hb3)
         have CP3c := Lib.hid (CP2c.out.call hb3)
         have CQ3c := Lib.hid (CQ2c.out.call hb3)
         have X3c := Lib.hid (bel_call X2c.out hb3)
         have BZ3c := Lib.hid (bel_call BZ2c.out hb3)
         have CA3c := Lib.hid (CA2c.out.call hb3)
         clear hb3
         have sz3 : w.heap.size + 1 < w3.heap.size := CQ3c.out.lt
         have sy3 : w1.heap.size ≤ w3.heap.size := BZ3c.out.size
         have p0_3c : w3.cell? ⟨w.heap.size, 0, none⟩ = some (.int .i64 a) := CP3c.out.cell (show 0 < 3 by omega)
         have p1_3c : w3.cell? ⟨w.heap.size, 1, none⟩ = some (.int .i64 b) := CP3c.out.cell (show 1 < 3 by omega)
         have p2_3c : w3.cell? ⟨w.heap.size, 2, none⟩ = some (.slice A cs.length c) := CP3c.out.cell (show 2 < 3 by omega)
         have q0_3c : w3.cell? ⟨w.heap.size + 1, 0, none⟩ = some (.int .i64 x) := CQ3c.out.cell (show 0 < 3 by omega)
         have q1_3c : w3.cell? ⟨w.heap.size + 1, 1, none⟩ = some (.int .i64 y) := CQ3c.out.cell (show 1 < 3 by omega)
         have q2_3c : w3.cell? ⟨w.heap.size + 1, 2, none⟩ = some (.int .i64 z) := CQ3c.out.cell (show 2 < 3 by omega))
      | (go_at_call 8
         refine (toPuzzle_any _ _ _ _ _ cs _ hm (HA.out.below X1a.out)).mono ?_
         rintro e w2 ⟨gp, rfl, _, hG2, hb2⟩
         have GP2a := Lib.hid hG2
         clear hG2
         have CP2a := Lib.hid (CP1a.out.call hb2)
         have CQ2a := Lib.hid (CQ1a.out.call hb2)
         have X2a := Lib.hid (bel_call X1a.out hb2)
         have BZ2a := Lib.hid (bel_call BZ1a.out hb2)
         have X2b := Lib.hid (X2a.out.alloc X2a.out.size (.cells #[.int .i64 0, .int .i64 0, .slice none 0 0] 33))
         have CP2b := Lib.hid ((CP2a.out.call ((Below.refl _ _).alloc (Nat.le_refl _) (.cells #[.int .i64 0, .int .i64 0, .slice none 0 0] 33))))
         have CQ2b := Lib.hid ((CQ2a.out.call ((Below.refl _ _).alloc (Nat.le_refl _) (.cells #[.int .i64 0, .int .i64 0, .slice none 0 0] 33))))
         have GP2b := Lib.hid ((GP2a.out.call ((Below.refl _ _).alloc (Nat.le_refl _) (.cells #[.int .i64 0, .int .i64 0, .slice none 0 0] 33))))
         have CA2b := Lib.hid (show Cells (w2.alloc (.cells #[.int .i64 0, .int .i64 0, .slice none 0 0] 33)) w2.heap.size 3 (g3F 0 0 (.slice none 0 0)) from Cells.new (n := 3) rfl rfl)
         have BZ2b := Lib.hid (BZ2a.out.alloc BZ2a.out.size (.cells #[.int .i64 0, .int .i64 0, .slice none 0 0] 33))
         clear hb2
         have sz2 : w.heap.size + 1 < w2.heap.size := CQ2a.out.lt
         have sy2 : w1.heap.size ≤ w2.heap.size := BZ2a.out.size
         have p0_2a : w2.cell? ⟨w.heap.size, 0, none⟩ = some (.int .i64 a) := CP2a.out.cell (show 0 < 3 by omega)
         have p1_2a : w2.cell? ⟨w.heap.size, 1, none⟩ = some (.int .i64 b) := CP2a.out.cell (show 1 < 3 by omega)
         have p2_2a : w2.cell? ⟨w.heap.size, 2, none⟩ = some (.slice A cs.length c) := CP2a.out.cell (show 2 < 3 by omega)
         have q0_2a : w2.cell? ⟨w.heap.size + 1, 0, none⟩ = some (.int .i64 x) := CQ2a.out.cell (show 0 < 3 by omega)
         have q1_2a : w2.cell? ⟨w.heap.size + 1, 1, none⟩ = some (.int .i64 y) := CQ2a.out.cell (show 1 < 3 by omega)
         have q2_2a : w2.cell? ⟨w.heap.size + 1, 2, none⟩ = some (.int .i64 z) := CQ2a.out.cell (show 2 < 3 by omega)
         have p0_2b : (w2.alloc (.cells #[.int .i64 0, .int .i64 0, .slice none 0 0] 33)).cell? ⟨w.heap.size, 0, none⟩ = some (.int .i64 a) := CP2b.out.cell (show 0 < 3 by omega)
         have p1_2b : (w2.alloc (.cells #[.int .i64 0, .int .i64 0, .slice none 0 0] 33)).cell? ⟨w.heap.size, 1, none⟩ = some (.int .i64 b) := CP2b.out.cell (show 1 < 3 by omega)
         have p2_2b : (w2.alloc (.cells #[.int .i64 0, .int .i64 0, .slice none 0 0] 33)).cell? ⟨w.heap.size, 2, none⟩ = some (.slice A cs.length c) := CP2b.out.cell (show 2 < 3 by omega)
         have q0_2b : (w2.alloc (.cells #[.int .i64 0, .int .i64 0, .slice none 0 0] 33)).cell? ⟨w.heap.size + 1, 0, none⟩ = some (.int .i64 x) := CQ2b.out.cell (show 0 < 3 by omega)
         have q1_2b : (w2.alloc (.cells #[.int .i64 0, .int .i64 0, .slice none 0 0] 33)).cell? ⟨w.heap.size + 1, 1, none⟩ = some (.int .i64 y) := CQ2b.out.cell (show 1 < 3 by omega)
         have q2_2b : (w2.alloc (.cells #[.int .i64 0, .int .i64 0, .slice none 0 0] 33)).cell? ⟨w.heap.size + 1, 2, none⟩ = some (.int .i64 z) := CQ2b.out.cell (show 2 < 3 by omega))
      | (go_at_call 8
         refine (toPuzzle_any _ _ _ _ _ cs _ hm (HA.out.below X1b.out)).mono ?_
         rintro e w2 ⟨gp, rfl, _, hG2, hb2⟩
         have GP2c := Lib.hid hG2
         clear hG2
         have CP2c := Lib.hid (CP1b.out.call hb2)
         have CQ2c := Lib.hid (CQ1b.out.call hb2)
         have X2c := Lib.hid (bel_call X1b.out hb2)
         have BZ2c := Lib.hid (bel_call BZ1b.out hb2)
         have CA2c := Lib.hid (CA1b.out.call hb2)
         clear hb2
         have sz2 : w.heap.size + 1 < w2.heap.size := CQ2c.out.lt
         have sy2 : w1.heap.size ≤ w2.heap.size := BZ2c.out.size
         have p0_2c : w2.cell? ⟨w.heap.size, 0, none⟩ = some (.int .i64 a) := CP2c.out.cell (show 0 < 3 by omega)
         have p1_2c : w2.cell? ⟨w.heap.size, 1, none⟩ = some (.int .i64 b) := CP2c.out.cell (show 1 < 3 by omega)
         have p2_2c : w2.cell? ⟨w.heap.size, 2, none⟩ = some (.slice A cs.length c) := CP2c.out.cell (show 2 < 3 by omega)
         have q0_2c : w2.cell? ⟨w.heap.size + 1, 0, none⟩ = some (.int .i64 x) := CQ2c.out.cell (show 0 < 3 by omega)
         have q1_2c : w2.cell? ⟨w.heap.size + 1, 1, none⟩ = some (.int .i64 y) := CQ2c.out.cell (show 1 < 3 by omega)
         have q2_2c : w2.cell? ⟨w.heap.size + 1, 2, none⟩ = some (.int .i64 z) := CQ2c.out.cell (show 2 < 3 by omega)))
    all_goals (go_wp2_with fail; go_meet)
    all_goals first
      | exact ⟨cutA_new K04a.out BZ3a.out.size (by have := X4a.out.size; exact zz4a), BZ4a.out.alloc BZ4a.out.size _⟩
      | exact ⟨cutA_set K04b.out CA4b.out BZ3a.out.size (by rw [World.size_alloc]; omega), (((BZ4b.out.setCell (p := ⟨_, 0, none⟩) (by first | exact BZ3a.out.size | exact sy3 | exact Nat.le_refl _) _).setCell (p := ⟨_, 1, none⟩) (by first | exact BZ3a.out.size | exact sy3 | exact Nat.le_refl _) _).setCell (p := ⟨_, 2, none⟩) (by first | exact BZ3a.out.size | exact sy3 | exact Nat.le_refl _) _)⟩
      | exact ⟨cutA_set K04c.out CA4c.out (by first | exact sy2 | exact Nat.le_refl _) (by have := CA3c.out.lt; omega), (((BZ4c.out.setCell (p := ⟨_, 0, none⟩) (by first | exact sy2 | exact Nat.le_refl _) _).setCell (p := ⟨_, 1, none⟩) (by first | exact sy2 | exact Nat.le_refl _) _).setCell (p := ⟨_, 2, none⟩) (by first | exact sy2 | exact Nat.le_refl _) _)⟩
  case rest =>
    obtain ⟨w4, hWc⟩ : ∃ W, W = wc := ⟨_, rfl⟩
    subst hWc
    obtain ⟨⟨U1, lo0, hi0, c0, A0, rfl, rfl, hx1, hx2, hx3, hx4, hx5, hx6⟩, hb4⟩ := hcut
    have DX4 := Lib.hid hx1
    have K04 := Lib.hid hx2
    have d4 := hx1.lt
    clear hx1 hx2
    have z4 := hb4.size
    have CP4 := Lib.hid (CP1.out.call hb4)
    have CQ4 := Lib.hid (CQ1.out.call hb4)
    have X4 := Lib.hid (bel_call X1.out hb4)
    clear hb4 CP1 CQ1 X1
    obtain ⟨hi4, lo4, un4, ap4⟩ : hi0 ≤ w4.heap.size ∧ w1.heap.size ≤ lo0 ∧ w1.heap.size ≤ U1 ∧ (U1 < lo0 ∨ hi0 ≤ U1) := ⟨hx3, hx5, hx4, hx6⟩
    clear hx3 hx4 hx5 hx6
    have sq : w.heap.size + 1 < w4.heap.size := CQ4.out.lt
    have p0_4 : w4.cell? ⟨w.heap.size, 0, none⟩ = some (.int .i64 a) := CP4.out.cell (show 0 < 3 by omega)
    have p1_4 : w4.cell? ⟨w.heap.size, 1, none⟩ = some (.int .i64 b) := CP4.out.cell (show 1 < 3 by omega)
    have p2_4 : w4.cell? ⟨w.heap.size, 2, none⟩ = some (.slice A cs.length c) := CP4.out.cell (show 2 < 3 by omega)
    go_wp2_with fail
    refine (toPuzzle_any _ _ _ _ _ cs _ hm (HA.out.below X4.out)).mono ?_
    rintro e w5 ⟨gx, rfl, hgx, hGX, hb5⟩
    have z5 := hb5.size
    clear p0_4 p1_4 p2_4
    have CP5 := Lib.hid (CP4.out.call hb5)
    have CQ5 := Lib.hid (CQ4.out.call hb5)
    have DX5 := Lib.hid (DX4.out.call hb5)
    have K05 := Lib.hid (K04.out.call hb5)
    have X5 := Lib.hid (bel_call X4.out hb5)
    clear hb5 CP4 CQ4 DX4 K04 X4
    have hgl := hGX.lt
    have KH5 := Lib.hid (kc_of hgx hGX)
    have GX5 := Lib.hid hGX
    clear hGX
    obtain ⟨W6, hW6⟩ : ∃ W, w5.alloc (.cells #[.int .i64 a, .int .i64 b, .slice (some ⟨gx, 0, none⟩) cs.length cs.length] 33) = W := ⟨_, rfl⟩
    have hb6 : Below w5.heap.size w5 W6 := by rw [← hW6]; exact (Below.refl _ _).alloc (Nat.le_refl _) _
    have E06 := Lib.hid (show Cells W6 w5.heap.size 3 (g3F a b (.slice (some ⟨gx, 0, none⟩) cs.length cs.length)) from by rw [← hW6]; exact Cells.new (n := 3) rfl rfl)
    have s6 : W6.heap.size = w5.heap.size + 1 := by rw [← hW6, World.size_alloc]
    have HW6 := Lib.hid hW6
    clear hW6
    have CP6 := Lib.hid (CP5.out.call hb6)
    have CQ6 := Lib.hid (CQ5.out.call hb6)
    have DX6 := Lib.hid (DX5.out.call hb6)
    have K06 := Lib.hid (K05.out.call hb6)
    have KH6 := Lib.hid (KH5.out.call hb6)
    have GX6 := Lib.hid (GX5.out.call hb6)
    have X6 := Lib.hid (bel_call X5.out hb6)
    clear hb6 CP5 CQ5 DX5 K05 KH5 GX5 X5
    obtain ⟨U2, hU2⟩ : ∃ U, w5.heap.size = U := ⟨_, rfl⟩
    rw [hU2] at E06 s6 hgl z5 KH6
    have HU2 := Lib.hid hU2
    clear hU2
    obtain ⟨S4, hS4⟩ : ∃ U, w4.heap.size = U := ⟨_, rfl⟩
    rw [hS4] at KH6 hgx z5 sq hi4 d4
    have zz4 : w1.heap.size ≤ S4 := by rw [← hS4]; exact z4
    clear hS4 z4
    go_wp2_with fail
    try rw [HU2.out]
    rw [HW6.out]
    have HS6 := Lib.hid s6
    clear s6
    go_cut [9, 10] (fun s6 s7 wx => CutA W6.heap.size za zb zk zo s6 s7 wx ∧ Below W6.heap.size W6 wx)
    case first =>
      have X6b := Lib.hid (bel_drew (X6.out.alloc X6.out.size (.cells #[.int .i64 0, .int .i64 0, .slice none 0 0] 33)))
      have CQ6b := Lib.hid ((CQ6.out.call ((Below.refl _ _).alloc (Nat.le_refl _) (.cells #[.int .i64 0, .int .i64 0, .slice none 0 0] 33))).call (bel_drew (Below.refl _ _)))
      have E06b := Lib.hid ((E06.out.call ((Below.refl _ _).alloc (Nat.le_refl _) (.cells #[.int .i64 0, .int .i64 0, .slice none 0 0] 33))).call (bel_drew (Below.refl _ _)))
      have GX6b := Lib.hid ((GX6.out.call ((Below.refl _ _).alloc (Nat.le_refl _) (.cells #[.int .i64 0, .int .i64 0, .slice none 0 0] 33))).call (bel_drew (Below.refl _ _)))
      have CA6b := Lib.hid (show Cells (W6.alloc (.cells #[.int .i64 0, .int .i64 0, .slice none 0 0] 33)).drew W6.heap.size 3 (g3F 0 0 (.slice none 0 0)) from (Cells.new (n := 3) rfl rfl).drew)
      have sz6 : w.heap.size + 1 < W6.heap.size := CQ6.out.lt
      have X6a := Lib.hid (bel_drew X6.out)
      have CQ6a := Lib.hid (CQ6.out.call (bel_drew (Below.refl _ _)))
      have E06a := Lib.hid (E06.out.call (bel_drew (Below.refl _ _)))
      have GX6a := Lib.hid (GX6.out.call (bel_drew (Below.refl _ _)))
      have q0_6a : W6.drew.cell? ⟨w.heap.size + 1, 0, none⟩ = some (.int .i64 x) := CQ6a.out.cell (show 0 < 3 by omega)
      have q1_6a : W6.drew.cell? ⟨w.heap.size + 1, 1, none⟩ = some (.int .i64 y) := CQ6a.out.cell (show 1 < 3 by omega)
      have q2_6a : W6.drew.cell? ⟨w.heap.size + 1, 2, none⟩ = some (.int .i64 z) := CQ6a.out.cell (show 2 < 3 by omega)
      have e0_6a : W6.drew.cell? ⟨U2, 0, none⟩ = some (.int .i64 a) := E06a.out.cell (show 0 < 3 by omega)
      have e1_6a : W6.drew.cell? ⟨U2, 1, none⟩ = some (.int .i64 b) := E06a.out.cell (show 1 < 3 by omega)
      have e2_6a : W6.drew.cell? ⟨U2, 2, none⟩ = some (.slice (some ⟨gx, 0, none⟩) cs.length cs.length) := E06a.out.cell (show 2 < 3 by omega)
      have q0_6b : (W6.alloc (.cells #[.int .i64 0, .int .i64 0, .slice none 0 0] 33)).drew.cell? ⟨w.heap.size + 1, 0, none⟩ = some (.int .i64 x) := CQ6b.out.cell (show 0 < 3 by omega)
      have q1_6b : (W6.alloc (.cells #[.int .i64 0, .int .i64 0, .slice none 0 0] 33)).drew.cell? ⟨w.heap.size + 1, 1, none⟩ = some (.int .i64 y) := CQ6b.out.cell (show 1 < 3 by omega)
      have q2_6b : (W6.alloc (.cells #[.int .i64 0, .int .i64 0, .slice none 0 0] 33)).drew.cell? ⟨w.heap.size + 1, 2, none⟩ = some (.int .i64 z) := CQ6b.out.cell (show 2 < 3 by omega)
      have e0_6b : (W6.alloc (.cells #[.int .i64 0, .int .i64 0, .slice none 0 0] 33)).drew.cell? ⟨U2, 0, none⟩ = some (.int .i64 a) := E06b.out.cell (show 0 < 3 by omega)
      have e1_6b : (W6.alloc (.cells #[.int .i64 0, .int .i64 0, .slice none 0 0] 33)).drew.cell? ⟨U2, 1, none⟩ = some (.int .i64 b) := E06b.out.cell (show 1 < 3 by omega)
      have e2_6b : (W6.alloc (.cells #[.int .i64 0, .int .i64 0, .slice none 0 0] 33)).drew.cell? ⟨U2, 2, none⟩ = some (.slice (some ⟨gx, 0, none⟩) cs.length cs.length) := E06b.out.cell (show 2 < 3 by omega)
      have BZ6a := Lib.hid (bel_drew (Below.refl W6.heap.size W6))
      have BZ6b := Lib.hid (bel_drew ((Below.refl W6.heap.size W6).alloc (Nat.le_refl _) (.cells #[.int .i64 0, .int .i64 0, .slice none 0 0] 33)))
      go_region_with (first
        | (go_at_call 10
           refine (HQ2.out _ _ (argC_of rfl GX7a.out) hm).mono ?_
           rintro e w8 ⟨A0', c0', rfl, k0, hb8⟩
           have CQ8a := Lib.hid (CQ7a.out.call hb8)
           have E08a := Lib.hid (E07a.out.call hb8)
           have GX8a := Lib.hid (GX7a.out.call hb8)
           have X8a := Lib.hid (bel_call X7a.out hb8)
           have BZ8a := Lib.hid (bel_call BZ7a.out hb8)
           have K08a := Lib.hid k0
           clear k0
           have zz8a : w7.heap.size ≤ w8.heap.size := hb8.size)
        | (go_at_call 10
           refine (HQ2.out _ _ (argC_of rfl GX7b.out) hm).mono ?_
           rintro e w8 ⟨A0', c0', rfl, k0, hb8⟩
           have CQ8b := Lib.hid (CQ7b.out.call hb8)
           have E08b := Lib.hid (E07b.out.call hb8)
           have GX8b := Lib.hid (GX7b.out.call hb8)
           have X8b := Lib.hid (bel_call X7b.out hb8)
           have BZ8b := Lib.hid (bel_call BZ7b.out hb8)
           have K08b := Lib.hid k0
           clear k0
           have CA8b := Lib.hid (CA7b.out.call hb8)
           have v0 := CA8b.out.cell (show 0 < 3 by omega)
           have u0 := CA8b.out.frozen (show 0 < 3 by omega)
           have v1 := CA8b.out.cell (show 1 < 3 by omega)
           have u1 := CA8b.out.frozen (show 1 < 3 by omega)
           have v2 := CA8b.out.cell (show 2 < 3 by omega)
           have u2 := CA8b.out.frozen (show 2 < 3 by omega))
        | (go_at_call 10
           refine (HQ2.out _ _ (argC_of rfl GX7c.out) hm).mono ?_
           rintro e w8 ⟨A0', c0', rfl, k0, hb8⟩
           have CQ8c := Lib.hid (CQ7c.out.call hb8)
           have E08c := Lib.hid (E07c.out.call hb8)
           have GX8c := Lib.hid (GX7c.out.call hb8)
           have X8c := Lib.hid (bel_call X7c.out hb8)
           have BZ8c := Lib.hid (bel_call BZ7c.out hb8)
           have K08c := Lib.hid k0
           clear k0
           have CA8c := Lib.hid (CA7c.out.call hb8)
           have v0 := CA8c.out.cell (show 0 < 3 by omega)
           have u0 := CA8c.out.frozen (show 0 < 3 by omega)
           have v1 := CA8c.out.cell (show 1 < 3 by omega)
           have u1 := CA8c.out.frozen (show 1 < 3 by omega)
           have v2 := CA8c.out.cell (show 2 < 3 by omega)
           have u2 := CA8c.out.frozen (show 2 < 3 by omega))
        | (go_at_call 9
           refine (toClue_any _ _ _ _).mono ?_
           rintro e w7 ⟨rfl, hb7⟩
           have CQ7a := Lib.hid (CQ6a.out.call hb7)
           have E07a := Lib.hid (E06a.out.call hb7)
           have GX7a := Lib.hid (GX6a.out.call hb7)
           have X7a := Lib.hid (bel_call X6a.out hb7)
           have BZ7a := Lib.hid (bel_call BZ6a.out hb7)
           have X7b := Lib.hid (X7a.out.alloc X7a.out.size (.cells #[.int .i64 0, .int .i64 0, .slice none 0 0] 33))
           have CQ7b := Lib.hid ((CQ7a.out.call ((Below.refl _ _).alloc (Nat.le_refl _) (.cells #[.int .i64 0, .int .i64 0, .slice none 0 0] 33))))
           have E07b := Lib.hid ((E07a.out.call ((Below.refl _ _).alloc (Nat.le_refl _) (.cells #[.int .i64 0, .int .i64 0, .slice none 0 0] 33))))
           have GX7b := Lib.hid ((GX7a.out.call ((Below.refl _ _).alloc (Nat.le_refl _) (.cells #[.int .i64 0, .int .i64 0, .slice none 0 0] 33))))
           have CA7b := Lib.hid (show Cells (w7.alloc (.cells #[.int .i64 0, .int .i64 0, .slice none 0 0] 33)) w7.heap.size 3 (g3F 0 0 (.slice none 0 0)) from Cells.new (n := 3) rfl rfl)
           have BZ7b := Lib.hid (BZ7a.out.alloc BZ7a.out.size (.cells #[.int .i64 0, .int .i64 0, .slice none 0 0] 33))
           clear hb7
           have sz7 : w.heap.size + 1 < w7.heap.size := CQ7a.out.lt
           have sy7 : W6.heap.size ≤ w7.heap.size := BZ7a.out.size
           have q0_7a : w7.cell? ⟨w.heap.size + 1, 0, none⟩ = some (.int .i64 x) := CQ7a.out.cell (show 0 < 3 by omega)
           have q1_7a : w7.cell? ⟨w.heap.size + 1, 1, none⟩ = some (.int .i64 y) := CQ7a.out.cell (show 1 < 3 by omega)
           have q2_7a : w7.cell? ⟨w.heap.size + 1, 2, none⟩ = some (.int .i64 z) := CQ7a.out.cell (show 2 < 3 by omega)
           have e0_7a : w7.cell? ⟨U2, 0, none⟩ = some (.int .i64 a) := E07a.out.cell (show 0 < 3 by omega)
           have e1_7a : w7.cell? ⟨U2, 1, none⟩ = some (.int .i64 b) := E07a.out.cell (show 1 < 3 by omega)
           have e2_7a : w7.cell? ⟨U2, 2, none⟩ = some (.slice (some ⟨gx, 0, none⟩) cs.length cs.length) := E07a.out.cell (show 2 < 3 by omega)
           have q0_7b : (w7.alloc (.cells #[.int .i64 0, .int .i64 0, .slice none 0 0] 33)).cell? ⟨w.heap.size + 1, 0, none⟩ = some (.int .i64 x) := CQ7b.out.cell (show 0 < 3 by omega)
           have q1_7b : (w7.alloc (.cells #[.int .i64 0, .int .i64 0, .slice none 0 0] 33)).cell? ⟨w.heap.size + 1, 1, none⟩ = some (.int .i64 y) := CQ7b.out.cell (show 1 < 3 by omega)
           have q2_7b : (w7.alloc (.cells #[.int .i64 0, .int .i64 0, .slice none 0 0] 33)).cell? ⟨w.heap.size + 1, 2, none⟩ = some (.int .i64 z) := CQ7b.out.cell (show 2 < 3 by omega)
           have e0_7b : (w7.alloc (.cells #[.int .i64 0, .int .i64 0, .slice none 0 0] 33)).cell? ⟨U2, 0, none⟩ = some (.int .i64 a) := E07b.out.cell (show 0 < 3 by omega)
           have e1_7b : (w7.alloc (.cells #[.int .i64 0, .int .i64 0, .slice none 0 0] 33)).cell? ⟨U2, 1, none⟩ = some (.int .i64 b) := E07b.out.cell (show 1 < 3 by omega)
           have e2_7b : (w7.alloc (.cells #[.int .i64 0, .int .i64 0, .slice none 0 0] 33)).cell? ⟨U2, 2, none⟩ = some (.slice (some ⟨gx, 0, none⟩) cs.length cs.length) := E07b.out.cell (show 2 < 3 by omega))
        | (go_at_call 9
           refine (toClue_any _ _ _ _).mono ?_
           rintro e w7 ⟨rfl, hb7⟩
           have CQ7c := Lib.hid (CQ6b.out.call hb7)
           have E07c := Lib.hid (E06b.out.call hb7)
           have GX7c := Lib.hid (GX6b.out.call hb7)
           have X7c := Lib.hid (bel_call X6b.out hb7)
           have BZ7c := Lib.hid (bel_call BZ6b.out hb7)
           have CA7c := Lib.hid (CA6b.out.call hb7)
           clear hb7
           have sz7 : w.heap.size + 1 < w7.heap.size := CQ7c.out.lt
           have sy7 : W6.heap.size ≤ w7.heap.size := BZ7c.out.size
           have q0_7c : w7.cell? ⟨w.heap.size + 1, 0, none⟩ = some (.int .i64 x) := CQ7c.out.cell (show 0 < 3 by omega)
           have q1_7c : w7.cell? ⟨w.heap.size + 1, 1, none⟩ = some (.int .i64 y) := CQ7c.out.cell (show 1 < 3 by omega)
           have q2_7c : w7.cell? ⟨w.heap.size + 1, 2, none⟩ = some (.int .i64 z) := CQ7c.out.cell (show 2 < 3 by omega)
           have e0_7c : w7.cell? ⟨U2, 0, none⟩ = some (.int .i64 a) := E07c.out.cell (show 0 < 3 by omega)
           have e1_7c : w7.cell? ⟨U2, 1, none⟩ = some (.int .i64 b) := E07c.out.cell (show 1 < 3 by omega)
           have e2_7c : w7.cell? ⟨U2, 2, none⟩ = some (.slice (some ⟨gx, 0, none⟩) cs.length cs.length) := E07c.out.cell (show 2 < 3 by omega)))
      all_goals (go_wp2_with fail; go_meet)
      all_goals first
        | exact ⟨cutA_new K08a.out BZ7a.out.size (by have := X8a.out.size; exact zz8a), BZ8a.out.alloc BZ8a.out.size _⟩
        | exact ⟨cutA_set K08b.out CA8b.out BZ7a.out.size (by rw [World.size_alloc]; omega), (((BZ8b.out.setCell (p := ⟨_, 0, none⟩) (by first | exact BZ7a.out.size | exact sy7 | exact Nat.le_refl _) _).setCell (p := ⟨_, 1, none⟩) (by first | exact BZ7a.out.size | exact sy7 | exact Nat.le_refl _) _).setCell (p := ⟨_, 2, none⟩) (by first | exact BZ7a.out.size | exact sy7 | exact Nat.le_refl _) _)⟩
        | exact ⟨cutA_set K08c.out CA8c.out (by first | exact sy7 | exact Nat.le_refl _) (by have := CA7c.out.lt; omega), (((BZ8c.out.setCell (p := ⟨_, 0, none⟩) (by first | exact sy7 | exact Nat.le_refl _) _).setCell (p := ⟨_, 1, none⟩) (by first | exact sy7 | exact Nat.le_refl _) _).setCell (p := ⟨_, 2, none⟩) (by first | exact sy7 | exact Nat.le_refl _) _)⟩
    case rest =>
      obtain ⟨w9, hWc⟩ : ∃ W, W = wc := ⟨_, rfl⟩
      subst hWc
      obtain ⟨⟨U3, lo1, hi1, c1, A1, rfl, rfl, hx1, hx2, hx3, hx4, hx5, hx6⟩, hb9⟩ := hcut
      have DY9 := Lib.hid hx1
      have K19 := Lib.hid hx2
      have d9 := hx1.lt
      clear hx1 hx2
      have z9 := hb9.size
      have CP9 := Lib.hid (CP6.out.call hb9)
      have CQ9 := Lib.hid (CQ6.out.call hb9)
      have DX9 := Lib.hid (DX6.out.call hb9)
      have K09 := Lib.hid (K06.out.call hb9)
      have KH9 := Lib.hid (KH6.out.call hb9)
      have GX9 := Lib.hid (GX6.out.call hb9)
      have E09 := Lib.hid (E06.out.call hb9)
      have X9 := Lib.hid (bel_call X6.out hb9)
      clear hb9 CP6 CQ6 DX6 K06 KH6 GX6 E06 X6
      obtain ⟨hi9, lo9, un9, ap9⟩ : hi1 ≤ w9.heap.size ∧ W6.heap.size ≤ lo1 ∧ W6.heap.size ≤ U3 ∧ (U3 < lo1 ∨ hi1 ≤ U3) := ⟨hx3, hx5, hx4, hx6⟩
      clear hx3 hx4 hx5 hx6
      rw [HS6.out] at lo9 un9 z9
      clear GX9
      have x0_9 : w9.cell? ⟨U1, 0, none⟩ = some (.int .i64 za) := DX9.out.cell (show 0 < 3 by omega)
      have x1_9 : w9.cell? ⟨U1, 1, none⟩ = some (.int .i64 zb) := DX9.out.cell (show 1 < 3 by omega)
      have x2_9 : w9.cell? ⟨U1, 2, none⟩ = some (.slice A0 zk.length c0) := DX9.out.cell (show 2 < 3 by omega)
      have y0_9 : w9.cell? ⟨U3, 0, none⟩ = some (.int .i64 za) := DY9.out.cell (show 0 < 3 by omega)
      have y1_9 : w9.cell? ⟨U3, 1, none⟩ = some (.int .i64 zb) := DY9.out.cell (show 1 < 3 by omega)
      have y2_9 : w9.cell? ⟨U3, 2, none⟩ = some (.slice A1 zk.length c1) := DY9.out.cell (show 2 < 3 by omega)
      go_wp2_with fail
      refine (eqKC_any _ _ _ _ _ _ _ _ _ _ zk _ HM.out K19.out K09.out).mono ?_
      rintro e w10 ⟨rfl, hb10⟩
      have z10 := hb10.size
      clear x0_9 x1_9 x2_9 y0_9 y1_9 y2_9
      have CP10 := Lib.hid (CP9.out.call hb10)
      have CQ10 := Lib.hid (CQ9.out.call hb10)
      have DX10 := Lib.hid (DX9.out.call hb10)
      have K010 := Lib.hid (K09.out.call hb10)
      have KH10 := Lib.hid (KH9.out.call hb10)
      have E010 := Lib.hid (E09.out.call hb10)
      have DY10 := Lib.hid (DY9.out.call hb10)
      have K110 := Lib.hid (K19.out.call hb10)
      have X10 := Lib.hid (bel_call X9.out hb10)
      clear hb10 CP9 CQ9 DX9 K09 KH9 E09 DY9 K19 X9
      go_wp2_with fail
      go_cut [51] (fun v wx => v = .bool false ∧ Below w10.heap.size w10 wx)
      case first =>
        have BD := Lib.hid (bel_drew (Below.refl w10.heap.size w10))
        have XD := Lib.hid (bel_drew X10.out)
        have CZ := Lib.hid (CP10.out.call BD.out)
        have EZ := Lib.hid (E010.out.call BD.out)
        have KZ := Lib.hid (KH10.out.call BD.out)
        have p0_d : w10.drew.cell? ⟨w.heap.size, 0, none⟩ = some (.int .i64 a) := CZ.out.cell (show 0 < 3 by omega)
        have p1_d : w10.drew.cell? ⟨w.heap.size, 1, none⟩ = some (.int .i64 b) := CZ.out.cell (show 1 < 3 by omega)
        have p2_d : w10.drew.cell? ⟨w.heap.size, 2, none⟩ = some (.slice A cs.length c) := CZ.out.cell (show 2 < 3 by omega)
        have e0_d : w10.drew.cell? ⟨U2, 0, none⟩ = some (.int .i64 a) := EZ.out.cell (show 0 < 3 by omega)
        have e1_d : w10.drew.cell? ⟨U2, 1, none⟩ = some (.int .i64 b) := EZ.out.cell (show 1 < 3 by omega)
        have e2_d : w10.drew.cell? ⟨U2, 2, none⟩ = some (.slice (some ⟨gx, 0, none⟩) cs.length cs.length) := EZ.out.cell (show 2 < 3 by omega)
        go_region_with (first
          | (go_at_call 11
             refine (eqPuzzle_any _ _ _ _ _ _ _ cs _ hm KW.out.argC (argC_of rfl GV.out)).mono ?_
             rintro e wE ⟨rfl, hbE⟩
             have BE := Lib.hid (bel_call BW.out hbE))
          | (go_at_call 8
             refine (toPuzzle_any _ _ _ _ _ cs _ hm (HA.out.below XD.out)).mono ?_
             rintro e wV ⟨gV, rfl, _, hGV, hbV⟩
             have GV := Lib.hid hGV
             have KW := Lib.hid (KZ.out.call hbV)
             have BW := Lib.hid (bel_call BD.out hbV)
             have EV := Lib.hid (EZ.out.call hbV)
             clear hGV hbV
             have i0 : wV.cell? ⟨U2, 0, none⟩ = some (.int .i64 a) := EV.out.cell (show 0 < 3 by omega)
             have i1 : wV.cell? ⟨U2, 1, none⟩ = some (.int .i64 b) := EV.out.cell (show 1 < 3 by omega)
             have i2 : wV.cell? ⟨U2, 2, none⟩ = some (.slice (some ⟨gx, 0, none⟩) cs.length cs.length) := EV.out.cell (show 2 < 3 by omega)))
        all_goals (go_wp2_with fail; go_meet)
        all_goals exact ⟨rfl, BE.out⟩
      case rest =>
        obtain ⟨w12, hWc⟩ : ∃ W, W = wc := ⟨_, rfl⟩
        subst hWc
        obtain ⟨rfl, hb12⟩ := hcut
        have z12 := hb12.size
        have CP12 := Lib.hid (CP10.out.call hb12)
        have CQ12 := Lib.hid (CQ10.out.call hb12)
        have DX12 := Lib.hid (DX10.out.call hb12)
        have K012 := Lib.hid (K010.out.call hb12)
        have KH12 := Lib.hid (KH10.out.call hb12)
        have E012 := Lib.hid (E010.out.call hb12)
        have DY12 := Lib.hid (DY10.out.call hb12)
        have K112 := Lib.hid (K110.out.call hb12)
        have X12 := Lib.hid (bel_call X10.out hb12)
        clear hb12 CP10 CQ10 DX10 K010 KH10 E010 DY10 K110 X10
        have e0_12 : w12.cell? ⟨U2, 0, none⟩ = some (.int .i64 a) := E012.out.cell (show 0 < 3 by omega)
        have e1_12 : w12.cell? ⟨U2, 1, none⟩ = some (.int .i64 b) := E012.out.cell (show 1 < 3 by omega)
        have e2_12 : w12.cell? ⟨U2, 2, none⟩ = some (.slice (some ⟨gx, 0, none⟩) cs.length cs.length) := E012.out.cell (show 2 < 3 by omega)
        go_wp2_with fail
        refine (markKC_any _ _ _ _ _ _ _ cs _ hm KH12.out).mono ?_
        rintro e w13 ⟨rfl, m1, m2, m3⟩
        have KA13 := Lib.hid m1
        have b13 := m2 w.heap.size (by omega) (by omega)
        have z13 : w12.heap.size ≤ w13.heap.size := (m2 0 (Nat.zero_le _) (Nat.zero_le _)).size
        have X13 := Lib.hid (X12.out.trans b13)
        have CP13 := Lib.hid (m3 _ _ _ (by omega) CP12.out)
        have CQ13 := Lib.hid (m3 _ _ _ (by omega) CQ12.out)
        have DX13 := Lib.hid (m3 _ _ _ (by omega) DX12.out)
        have DY13 := Lib.hid (m3 _ _ _ (by omega) DY12.out)
        have K013 := Lib.hid (K012.out.keep (lo2 := S4) (hi2 := U2) (by omega) m3)
        have K113 := Lib.hid (K112.out.keep (lo2 := S4) (hi2 := U2) (by omega) m3)
        clear m1 m2 m3 b13 X12 CP12 CQ12 DX12 K012 KH12 E012 DY12 K112
        clear e0_12 e1_12 e2_12
        clear KA13
        have x0_13 : w13.cell? ⟨U1, 0, none⟩ = some (.int .i64 za) := DX13.out.cell (show 0 < 3 by omega)
        have x1_13 : w13.cell? ⟨U1, 1, none⟩ = some (.int .i64 zb) := DX13.out.cell (show 1 < 3 by omega)
        have x2_13 : w13.cell? ⟨U1, 2, none⟩ = some (.slice A0 zk.length c0) := DX13.out.cell (show 2 < 3 by omega)
        have y0_13 : w13.cell? ⟨U3, 0, none⟩ = some (.int .i64 za) := DY13.out.cell (show 0 < 3 by omega)
        have y1_13 : w13.cell? ⟨U3, 1, none⟩ = some (.int .i64 zb) := DY13.out.cell (show 1 < 3 by omega)
        have y2_13 : w13.cell? ⟨U3, 2, none⟩ = some (.slice A1 zk.length c1) := DY13.out.cell (show 2 < 3 by omega)
        go_wp2_with fail
        refine (eqKC_any _ _ _ _ _ _ _ _ _ _ zk _ HM.out K113.out K013.out).mono ?_
        rintro e w14 ⟨rfl, hb14⟩
        have z14 := hb14.size
        clear x0_13 x1_13 x2_13 y0_13 y1_13 y2_13
        have CP14 := Lib.hid (CP13.out.call hb14)
        have CQ14 := Lib.hid (CQ13.out.call hb14)
        have DX14 := Lib.hid (DX13.out.call hb14)
        have K014 := Lib.hid (K013.out.call hb14)
        have DY14 := Lib.hid (DY13.out.call hb14)
        have K114 := Lib.hid (K113.out.call hb14)
        have X14 := Lib.hid (bel_call X13.out hb14)
        clear hb14 CP13 CQ13 DX13 K013 DY13 K113 X13
        have y0_14 : w14.cell? ⟨U3, 0, none⟩ = some (.int .i64 za) := DY14.out.cell (show 0 < 3 by omega)
        have y1_14 : w14.cell? ⟨U3, 1, none⟩ = some (.int .i64 zb) := DY14.out.cell (show 1 < 3 by omega)
        have y2_14 : w14.cell? ⟨U3, 2, none⟩ = some (.slice A1 zk.length c1) := DY14.out.cell (show 2 < 3 by omega)
        go_wp2_with fail
        refine (markKC_any _ _ _ _ _ _ _ zk _ HM.out K114.out).mono ?_
        rintro e w15 ⟨rfl, m1, m2, m3⟩
        have KM15 := Lib.hid m1
        have b15 := m2 w.heap.size (by omega) (by omega)
        have z15 : w14.heap.size ≤ w15.heap.size := (m2 0 (Nat.zero_le _) (Nat.zero_le _)).size
        have X15 := Lib.hid (X14.out.trans b15)
        have CP15 := Lib.hid (m3 _ _ _ (by omega) CP14.out)
        have CQ15 := Lib.hid (m3 _ _ _ (by omega) CQ14.out)
        have DX15 := Lib.hid (m3 _ _ _ (by omega) DX14.out)
        have DY15 := Lib.hid (m3 _ _ _ (by omega) DY14.out)
        have K015 := Lib.hid (K014.out.keep (lo2 := lo1) (hi2 := hi1) (by omega) m3)
        clear m1 m2 m3 b15 X14 CP14 CQ14 DX14 K014 DY14 K114
        clear y0_14 y1_14 y2_14
        have y0_15 : w15.cell? ⟨U3, 0, none⟩ = some (.int .i64 za) := DY15.out.cell (show 0 < 3 by omega)
        have y1_15 : w15.cell? ⟨U3, 1, none⟩ = some (.int .i64 zb) := DY15.out.cell (show 1 < 3 by omega)
        have y2_15 : w15.cell? ⟨U3, 2, none⟩ = some (.slice A1 zk.length c1) := DY15.out.cell (show 2 < 3 by omega)
        go_wp2_with fail
        refine (heldKC_any _ _ _ _ _ _ _ _ HM.out KM15.out).mono ?_
        rintro e w16 ⟨rfl, hb16⟩
        have z16 := hb16.size
        clear y0_15 y1_15 y2_15
        have CP16 := Lib.hid (CP15.out.call hb16)
        have CQ16 := Lib.hid (CQ15.out.call hb16)
        have DX16 := Lib.hid (DX15.out.call hb16)
        have K016 := Lib.hid (K015.out.call hb16)
        have DY16 := Lib.hid (DY15.out.call hb16)
        have KM16 := Lib.hid (KM15.out.call hb16)
        have X16 := Lib.hid (bel_call X15.out hb16)
        clear hb16 CP15 CQ15 DX15 K015 DY15 KM15 X15
        go_wp2_with fail
        go_cut [14, 15] (fun s6 s7 wx => CutA w16.heap.size za zb zk zo s6 s7 wx ∧ Below w16.heap.size w16 wx)
        case first =>
          have X16b := Lib.hid (bel_drew (X16.out.alloc X16.out.size (.cells #[.int .i64 0, .int .i64 0, .slice none 0 0] 33)))
          have CP16b := Lib.hid ((CP16.out.call ((Below.refl _ _).alloc (Nat.le_refl _) (.cells #[.int .i64 0, .int .i64 0, .slice none 0 0] 33))).call (bel_drew (Below.refl _ _)))
          have CQ16b := Lib.hid ((CQ16.out.call ((Below.refl _ _).alloc (Nat.le_refl _) (.cells #[.int .i64 0, .int .i64 0, .slice none 0 0] 33))).call (bel_drew (Below.refl _ _)))
          have CA16b := Lib.hid (show Cells (w16.alloc (.cells #[.int .i64 0, .int .i64 0, .slice none 0 0] 33)).drew w16.heap.size 3 (g3F 0 0 (.slice none 0 0)) from (Cells.new (n := 3) rfl rfl).drew)
          have sz16 : w.heap.size + 1 < w16.heap.size := CQ16.out.lt
          have X16a := Lib.hid (bel_drew X16.out)
          have CP16a := Lib.hid (CP16.out.call (bel_drew (Below.refl _ _)))
          have CQ16a := Lib.hid (CQ16.out.call (bel_drew (Below.refl _ _)))
          have p0_16a : w16.drew.cell? ⟨w.heap.size, 0, none⟩ = some (.int .i64 a) := CP16a.out.cell (show 0 < 3 by omega)
          have p1_16a : w16.drew.cell? ⟨w.heap.size, 1, none⟩ = some (.int .i64 b) := CP16a.out.cell (show 1 < 3 by omega)
          have p2_16a : w16.drew.cell? ⟨w.heap.size, 2, none⟩ = some (.slice A cs.length c) := CP16a.out.cell (show 2 < 3 by omega)
          have q0_16a : w16.drew.cell? ⟨w.heap.size + 1, 0, none⟩ = some (.int .i64 x) := CQ16a.out.cell (show 0 < 3 by omega)
          have q1_16a : w16.drew.cell? ⟨w.heap.size + 1, 1, none⟩ = some (.int .i64 y) := CQ16a.out.cell (show 1 < 3 by omega)
          have q2_16a : w16.drew.cell? ⟨w.heap.size + 1, 2, none⟩ = some (.int .i64 z) := CQ16a.out.cell (show 2 < 3 by omega)
          have p0_16b : (w16.alloc (.cells #[.int .i64 0, .int .i64 0, .slice none 0 0] 33)).drew.cell? ⟨w.heap.size, 0, none⟩ = some (.int .i64 a) := CP16b.out.cell (show 0 < 3 by omega)
          have p1_16b : (w16.alloc (.cells #[.int .i64 0, .int .i64 0, .slice none 0 0] 33)).drew.cell? ⟨w.heap.size, 1, none⟩ = some (.int .i64 b) := CP16b.out.cell (show 1 < 3 by omega)
          have p2_16b : (w16.alloc (.cells #[.int .i64 0, .int .i64 0, .slice none 0 0] 33)).drew.cell? ⟨w.heap.size, 2, none⟩ = some (.slice A cs.length c) := CP16b.out.cell (show 2 < 3 by omega)
          have q0_16b : (w16.alloc (.cells #[.int .i64 0, .int .i64 0, .slice none 0 0] 33)).drew.cell? ⟨w.heap.size + 1, 0, none⟩ = some (.int .i64 x) := CQ16b.out.cell (show 0 < 3 by omega)
          have q1_16b : (w16.alloc (.cells #[.int .i64 0, .int .i64 0, .slice none 0 0] 33)).drew.cell? ⟨w.heap.size + 1, 1, none⟩ = some (.int .i64 y) := CQ16b.out.cell (show 1 < 3 by omega)
          have q2_16b : (w16.alloc (.cells #[.int .i64 0, .int .i64 0, .slice none 0 0] 33)).drew.cell? ⟨w.heap.size + 1, 2, none⟩ = some (.int .i64 z) := CQ16b.out.cell (show 2 < 3 by omega)
          have BZ16a := Lib.hid (bel_drew (Below.refl w16.heap.size w16))
          have BZ16b := Lib.hid (bel_drew ((Below.refl w16.heap.size w16).alloc (Nat.le_refl _) (.cells #[.int .i64 0, .int .i64 0, .slice none 0 0] 33)))
          go_region_with (first
            | (go_at_call 10
               refine (HQ2.out _ _ (argC_of rfl GP18a.out) hm).mono ?_
               rintro e w19 ⟨A0', c0', rfl, k0, hb19⟩
               have CP19a := Lib.hid (CP18a.out.call hb19)
               have CQ19a := Lib.hid (CQ18a.out.call hb19)
               have X19a := Lib.hid (bel_call X18a.out hb19)
               have BZ19a := Lib.hid (bel_call BZ18a.out hb19)
               have K019a := Lib.hid k0
               clear k0
               have zz19a : w18.heap.size ≤ w19.heap.size := hb19.size)
            | (go_at_call 10
               refine (HQ2.out _ _ (argC_of rfl GP18b.out) hm).mono ?_
               rintro e w19 ⟨A0', c0', rfl, k0, hb19⟩
               have CP19b := Lib.hid (CP18b.out.call hb19)
               have CQ19b := Lib.hid (CQ18b.out.call hb19)
               have X19b := Lib.hid (bel_call X18b.out hb19)
               have BZ19b := Lib.hid (bel_call BZ18b.out hb19)
               have K019b := Lib.hid k0
               clear k0
               have CA19b := Lib.hid (CA18b.out.call hb19)
               have v0 := CA19b.out.cell (show 0 < 3 by omega)
               have u0 := CA19b.out.frozen (show 0 < 3 by omega)
               have v1 := CA19b.out.cell (show 1 < 3 by omega)
               have u1 := CA19b.out.frozen (show 1 < 3 by omega)
               have v2 := CA19b.out.cell (show 2 < 3 by omega)
               have u2 := CA19b.out.frozen (show 2 < 3 by omega))
            | (go_at_call 10
               refine (HQ2.out _ _ (argC_of rfl GP18c.out) hm).mono ?_
               rintro e w19 ⟨A0', c0', rfl, k0, hb19⟩
               have CP19c := Lib.hid (CP18c.out.call hb19)
               have CQ19c := Lib.hid (CQ18c.out.call hb19)
               have X19c := Lib.hid (bel_call X18c.out hb19)
               have BZ19c := Lib.hid (bel_call BZ18c.out hb19)
               have K019c := Lib.hid k0
               clear k0
               have CA19c := Lib.hid (CA18c.out.call hb19)
               have v0 := CA19c.out.cell (show 0 < 3 by omega)
               have u0 := CA19c.out.frozen (show 0 < 3 by omega)
               have v1 := CA19c.out.cell (show 1 < 3 by omega)
               have u1 := CA19c.out.frozen (show 1 < 3 by omega)
               have v2 := CA19c.out.cell (show 2 < 3 by omega)
               have u2 := CA19c.out.frozen (show 2 < 3 by omega))
            | (go_at_call 9
               refine (toClue_any _ _ _ _).mono ?_
               rintro e w18 ⟨rfl, hb18⟩
               have GP18a := Lib.hid (GP17a.out.call hb18)
               have CP18a := Lib.hid (CP17a.out.call hb18)
               have CQ18a := Lib.hid (CQ17a.out.call hb18)
               have X18a := Lib.hid (bel_call X17a.out hb18)
               have BZ18a := Lib.hid (bel_call BZ17a.out hb18)
               have X18b := Lib.hid (X18a.out.alloc X18a.out.size (.cells #[.int .i64 0, .int .i64 0, .slice none 0 0] 33))
               have CP18b := Lib.hid ((CP18a.out.call ((Below.refl _ _).alloc (Nat.le_refl _) (.cells #[.int .i64 0, .int .i64 0, .slice none 0 0] 33))))
               have CQ18b := Lib.hid ((CQ18a.out.call ((Below.refl _ _).alloc (Nat.le_refl _) (.cells #[.int .i64 0, .int .i64 0, .slice none 0 0] 33))))
               have GP18b := Lib.hid ((GP18a.out.call ((Below.refl _ _).alloc (Nat.le_refl _) (.cells #[.int .i64 0, .int .i64 0, .slice none 0 0] 33))))
               have CA18b := Lib.hid (show Cells (w18.alloc (.cells #[.int .i64 0, .int .i64 0, .slice none 0 0] 33)) w18.heap.size 3 (g3F 0 0 (.slice none 0 0)) from Cells.new (n := 3) rfl rfl)
               have BZ18b := Lib.hid (BZ18a.out.alloc BZ18a.out.size (.cells #[.int .i64 0, .int .i64 0, .slice none 0 0] 33))
               clear hb18
               have sz18 : w.heap.size + 1 < w18.heap.size := CQ18a.out.lt
               have sy18 : w16.heap.size ≤ w18.heap.size := BZ18a.out.size
               have p0_18a : w18.cell? ⟨w.heap.size, 0, none⟩ = some (.int .i64 a) := CP18a.out.cell (show 0 < 3 by omega)
               have p1_18a : w18.cell? ⟨w.heap.size, 1, none⟩ = some (.int .i64 b) := CP18a.out.cell (show 1 < 3 by omega)
               have p2_18a : w18.cell? ⟨w.heap.size, 2, none⟩ = some (.slice A cs.length c) := CP18a.out.cell (show 2 < 3 by omega)
               have q0_18a : w18.cell? ⟨w.heap.size + 1, 0, none⟩ = some (.int .i64 x) := CQ18a.out.cell (show 0 < 3 by omega)
               have q1_18a : w18.cell? ⟨w.heap.size + 1, 1, none⟩ = some (.int .i64 y) := CQ18a.out.cell (show 1 < 3 by omega)
               have q2_18a : w18.cell? ⟨w.heap.size + 1, 2, none⟩ = some (.int .i64 z) := CQ18a.out.cell (show 2 < 3 by omega)
               have p0_18b : (w18.alloc (.cells #[.int .i64 0, .int .i64 0, .slice none 0 0] 33)).cell? ⟨w.heap.size, 0, none⟩ = some (.int .i64 a) := CP18b.out.cell (show 0 < 3 by omega)
               have p1_18b : (w18.alloc (.cells #[.int .i64 0, .int .i64 0, .slice none 0 0] 33)).cell? ⟨w.heap.size, 1, none⟩ = some (.int .i64 b) := CP18b.out.cell (show 1 < 3 by omega)
               have p2_18b : (w18.alloc (.cells #[.int .i64 0, .int .i64 0, .slice none 0 0] 33)).cell? ⟨w.heap.size, 2, none⟩ = some (.slice A cs.length c) := CP18b.out.cell (show 2 < 3 by omega)
               have q0_18b : (w18.alloc (.cells #[.int .i64 0, .int .i64 0, .slice none 0 0] 33)).cell? ⟨w.heap.size + 1, 0, none⟩ = some (.int .i64 x) := CQ18b.out.cell (show 0 < 3 by omega)
               have q1_18b : (w18.alloc (.cells #[.int .i64 0, .int .i64 0, .slice none 0 0] 33)).cell? ⟨w.heap.size + 1, 1, none⟩ = some (.int .i64 y) := CQ18b.out.cell (show 1 < 3 by omega)
               have q2_18b : (w18.alloc (.cells #[.int .i64 0, .int .i64 0, .slice none 0 0] 33)).cell? ⟨w.heap.size + 1, 2, none⟩ = some (.int .i64 z) := CQ18b.out.cell (show 2 < 3 by omega))
            | (go_at_call 9
               refine (toClue_any _ _ _ _).mono ?_
               rintro e w18 ⟨rfl, hb18⟩
               have GP18c := Lib.hid (GP17b.out.call hb18)
               have CP18c := Lib.hid (CP17b.out.call hb18)
               have CQ18c := Lib.hid (CQ17b.out.call hb18)
               have X18c := Lib.hid (bel_call X17b.out hb18)
               have BZ18c := Lib.hid (bel_call BZ17b.out hb18)
               have CA18c := Lib.hid (CA17b.out.call hb18)
               clear hb18
               have sz18 : w.heap.size + 1 < w18.heap.size := CQ18c.out.lt
               have sy18 : w16.heap.size ≤ w18.heap.size := BZ18c.out.size
               have p0_18c : w18.cell? ⟨w.heap.size, 0, none⟩ = some (.int .i64 a) := CP18c.out.cell (show 0 < 3 by omega)
               have p1_18c : w18.cell? ⟨w.heap.size, 1, none⟩ = some (.int .i64 b) := CP18c.out.cell (show 1 < 3 by omega)
               have p2_18c : w18.cell? ⟨w.heap.size, 2, none⟩ = some (.slice A cs.length c) := CP18c.out.cell (show 2 < 3 by omega)
               have q0_18c : w18.cell? ⟨w.heap.size + 1, 0, none⟩ = some (.int .i64 x) := CQ18c.out.cell (show 0 < 3 by omega)
               have q1_18c : w18.cell? ⟨w.heap.size + 1, 1, none⟩ = some (.int .i64 y) := CQ18c.out.cell (show 1 < 3 by omega)
               have q2_18c : w18.cell? ⟨w.heap.size + 1, 2, none⟩ = some (.int .i64 z) := CQ18c.out.cell (show 2 < 3 by omega))
            | (go_at_call 9
               refine (toClue_any _ _ _ _).mono ?_
               rintro e w18 ⟨rfl, hb18⟩
               have GP18c := Lib.hid (GP17c.out.call hb18)
               have CP18c := Lib.hid (CP17c.out.call hb18)
               have CQ18c := Lib.hid (CQ17c.out.call hb18)
               have X18c := Lib.hid (bel_call X17c.out hb18)
               have BZ18c := Lib.hid (bel_call BZ17c.out hb18)
               have CA18c := Lib.hid (CA17c.out.call hb18)
               clear hb18
               have sz18 : w.heap.size + 1 < w18.heap.size := CQ18c.out.lt
               have sy18 : w16.heap.size ≤ w18.heap.size := BZ18c.out.size
               have p0_18c : w18.cell? ⟨w.heap.size, 0, none⟩ = some (.int .i64 a) := CP18c.out.cell (show 0 < 3 by omega)
               have p1_18c : w18.cell? ⟨w.heap.size, 1, none⟩ = some (.int .i64 b) := CP18c.out.cell (show 1 < 3 by omega)
               have p2_18c : w18.cell? ⟨w.heap.size, 2, none⟩ = some (.slice A cs.length c) := CP18c.out.cell (show 2 < 3 by omega)
               have q0_18c : w18.cell? ⟨w.heap.size + 1, 0, none⟩ = some (.int .i64 x) := CQ18c.out.cell (show 0 < 3 by omega)
               have q1_18c : w18.cell? ⟨w.heap.size + 1, 1, none⟩ = some (.int .i64 y) := CQ18c.out.cell (show 1 < 3 by omega)
               have q2_18c : w18.cell? ⟨w.heap.size + 1, 2, none⟩ = some (.int .i64 z) := CQ18c.out.cell (show 2 < 3 by omega))
            | (go_at_call 8
               refine (toPuzzle_any _ _ _ _ _ cs _ hm (HA.out.below X16a.out)).mono ?_
               rintro e w17 ⟨gp, rfl, _, hG17, hb17⟩
               have GP17a := Lib.hid hG17
               clear hG17
               have CP17a := Lib.hid (CP16a.out.call hb17)
               have CQ17a := Lib.hid (CQ16a.out.call hb17)
               have X17a := Lib.hid (bel_call X16a.out hb17)
               have BZ17a := Lib.hid (bel_call BZ16a.out hb17)
               have X17b := Lib.hid (X17a.out.alloc X17a.out.size (.cells #[.int .i64 0, .int .i64 0, .slice none 0 0] 33))
               have CP17b := Lib.hid ((CP17a.out.call ((Below.refl _ _).alloc (Nat.le_refl _) (.cells #[.int .i64 0, .int .i64 0, .slice none 0 0] 33))))
               have CQ17b := Lib.hid ((CQ17a.out.call ((Below.refl _ _).alloc (Nat.le_refl _) (.cells #[.int .i64 0, .int .i64 0, .slice none 0 0] 33))))
               have GP17b := Lib.hid ((GP17a.out.call ((Below.refl _ _).alloc (Nat.le_refl _) (.cells #[.int .i64 0, .int .i64 0, .slice none 0 0] 33))))
               have CA17b := Lib.hid (show Cells (w17.alloc (.cells #[.int .i64 0, .int .i64 0, .slice none 0 0] 33)) w17.heap.size 3 (g3F 0 0 (.slice none 0 0)) from Cells.new (n := 3) rfl rfl)
               have BZ17b := Lib.hid (BZ17a.out.alloc BZ17a.out.size (.cells #[.int .i64 0, .int .i64 0, .slice none 0 0] 33))
               clear hb17
               have sz17 : w.heap.size + 1 < w17.heap.size := CQ17a.out.lt
               have sy17 : w16.heap.size ≤ w17.heap.size := BZ17a.out.size
               have p0_17a : w17.cell? ⟨w.heap.size, 0, none⟩ = some (.int .i64 a) := CP17a.out.cell (show 0 < 3 by omega)
               have p1_17a : w17.cell? ⟨w.heap.size, 1, none⟩ = some (.int .i64 b) := CP17a.out.cell (show 1 < 3 by omega)
               have p2_17a : w17.cell? ⟨w.heap.size, 2, none⟩ = some (.slice A cs.length c) := CP17a.out.cell (show 2 < 3 by omega)
               have q0_17a : w17.cell? ⟨w.heap.size + 1, 0, none⟩ = some (.int .i64 x) := CQ17a.out.cell (show 0 < 3 by omega)
               have q1_17a : w17.cell? ⟨w.heap.size + 1, 1, none⟩ = some (.int .i64 y) := CQ17a.out.cell (show 1 < 3 by omega)
               have q2_17a : w17.cell? ⟨w.heap.size + 1, 2, none⟩ = some (.int .i64 z) := CQ17a.out.cell (show 2 < 3 by omega)
               have p0_17b : (w17.alloc (.cells #[.int .i64 0, .int .i64 0, .slice none 0 0] 33)).cell? ⟨w.heap.size, 0, none⟩ = some (.int .i64 a) := CP17b.out.cell (show 0 < 3 by omega)
               have p1_17b : (w17.alloc (.cells #[.int .i64 0, .int .i64 0, .slice none 0 0] 33)).cell? ⟨w.heap.size, 1, none⟩ = some (.int .i64 b) := CP17b.out.cell (show 1 < 3 by omega)
               have p2_17b : (w17.alloc (.cells #[.int .i64 0, .int .i64 0, .slice none 0 0] 33)).cell? ⟨w.heap.size, 2, none⟩ = some (.slice A cs.length c) := CP17b.out.cell (show 2 < 3 by omega)
               have q0_17b : (w17.alloc (.cells #[.int .i64 0, .int .i64 0, .slice none 0 0] 33)).cell? ⟨w.heap.size + 1, 0, none⟩ = some (.int .i64 x) := CQ17b.out.cell (show 0 < 3 by omega)
               have q1_17b : (w17.alloc (.cells #[.int .i64 0, .int .i64 0, .slice none 0 0] 33)).cell? ⟨w.heap.size + 1, 1, none⟩ = some (.int .i64 y) := CQ17b.out.cell (show 1 < 3 by omega)
               have q2_17b : (w17.alloc (.cells #[.int .i64 0, .int .i64 0, .slice none 0 0] 33)).cell? ⟨w.heap.size + 1, 2, none⟩ = some (.int .i64 z) := CQ17b.out.cell (show 2 < 3 by omega))
            | (go_at_call 8
               refine (toPuzzle_any _ _ _ _ _ cs _ hm (HA.out.below X16b.out)).mono ?_
               rintro e w17 ⟨gp, rfl, _, hG17, hb17⟩
               have GP17c := Lib.hid hG17
               clear hG17
               have CP17c := Lib.hid (CP16b.out.call hb17)
               have CQ17c := Lib.hid (CQ16b.out.call hb17)
               have X17c := Lib.hid (bel_call X16b.out hb17)
               have BZ17c := Lib.hid (bel_call BZ16b.out hb17)
               have CA17c := Lib.hid (CA16b.out.call hb17)
               clear hb17
               have sz17 : w.heap.size + 1 < w17.heap.size := CQ17c.out.lt
               have sy17 : w16.heap.size ≤ w17.heap.size := BZ17c.out.size
               have p0_17c : w17.cell? ⟨w.heap.size, 0, none⟩ = some (.int .i64 a) := CP17c.out.cell (show 0 < 3 by omega)
               have p1_17c : w17.cell? ⟨w.heap.size, 1, none⟩ = some (.int .i64 b) := CP17c.out.cell (show 1 < 3 by omega)
               have p2_17c : w17.cell? ⟨w.heap.size, 2, none⟩ = some (.slice A cs.length c) := CP17c.out.cell (show 2 < 3 by omega)
               have q0_17c : w17.cell? ⟨w.heap.size + 1, 0, none⟩ = some (.int .i64 x) := CQ17c.out.cell (show 0 < 3 by omega)
               have q1_17c : w17.cell? ⟨w.heap.size + 1, 1, none⟩ = some (.int .i64 y) := CQ17c.out.cell (show 1 < 3 by omega)
               have q2_17c : w17.cell? ⟨w.heap.size + 1, 2, none⟩ = some (.int .i64 z) := CQ17c.out.cell (show 2 < 3 by omega)))
          all_goals (go_wp2_with fail; go_meet)
          all_goals first
            | exact ⟨cutA_new K019a.out BZ18a.out.size (by have := X19a.out.size; exact zz19a), BZ19a.out.alloc BZ19a.out.size _⟩
            | exact ⟨cutA_set K019b.out CA19b.out BZ18a.out.size (by rw [World.size_alloc]; omega), (((BZ19b.out.setCell (p := ⟨_, 0, none⟩) (by first | exact BZ18a.out.size | exact sy18 | exact Nat.le_refl _) _).setCell (p := ⟨_, 1, none⟩) (by first | exact BZ18a.out.size | exact sy18 | exact Nat.le_refl _) _).setCell (p := ⟨_, 2, none⟩) (by first | exact BZ18a.out.size | exact sy18 | exact Nat.le_refl _) _)⟩
            | exact ⟨cutA_set K019c.out CA19c.out (by first | exact sy17 | exact Nat.le_refl _) (by have := CA18c.out.lt; omega), (((BZ19c.out.setCell (p := ⟨_, 0, none⟩) (by first | exact sy17 | exact Nat.le_refl _) _).setCell (p := ⟨_, 1, none⟩) (by first | exact sy17 | exact Nat.le_refl _) _).setCell (p := ⟨_, 2, none⟩) (by first | exact sy17 | exact Nat.le_refl _) _)⟩
        case rest =>
          obtain ⟨w19, hWc⟩ : ∃ W, W = wc := ⟨_, rfl⟩
          subst hWc
          obtain ⟨⟨U4, lo4, hi4, c4, A4, rfl, rfl, hx1, hx2, hx3, hx4, hx5, hx6⟩, hb19⟩ := hcut
          have DZ19 := Lib.hid hx1
          have K419 := Lib.hid hx2
          have d19 := hx1.lt
          clear hx1 hx2
          have z19 := hb19.size
          have CP19 := Lib.hid (CP16.out.call hb19)
          have CQ19 := Lib.hid (CQ16.out.call hb19)
          have DX19 := Lib.hid (DX16.out.call hb19)
          have K019 := Lib.hid (K016.out.call hb19)
          have DY19 := Lib.hid (DY16.out.call hb19)
          have KM19 := Lib.hid (KM16.out.call hb19)
          have X19 := Lib.hid (bel_call X16.out hb19)
          clear hb19 CP16 CQ16 DX16 K016 DY16 KM16 X16
          obtain ⟨hi19, lo19, un19, ap19⟩ : hi4 ≤ w19.heap.size ∧ w16.heap.size ≤ lo4 ∧ w16.heap.size ≤ U4 ∧ (U4 < lo4 ∨ hi4 ≤ U4) := ⟨hx3, hx5, hx4, hx6⟩
          clear hx3 hx4 hx5 hx6
          have x0_19 : w19.cell? ⟨U1, 0, none⟩ = some (.int .i64 za) := DX19.out.cell (show 0 < 3 by omega)
          have x1_19 : w19.cell? ⟨U1, 1, none⟩ = some (.int .i64 zb) := DX19.out.cell (show 1 < 3 by omega)
          have x2_19 : w19.cell? ⟨U1, 2, none⟩ = some (.slice A0 zk.length c0) := DX19.out.cell (show 2 < 3 by omega)
          have h0_19 : w19.cell? ⟨U4, 0, none⟩ = some (.int .i64 za) := DZ19.out.cell (show 0 < 3 by omega)
          have h1_19 : w19.cell? ⟨U4, 1, none⟩ = some (.int .i64 zb) := DZ19.out.cell (show 1 < 3 by omega)
          have h2_19 : w19.cell? ⟨U4, 2, none⟩ = some (.slice A4 zk.length c4) := DZ19.out.cell (show 2 < 3 by omega)
          go_wp2_with fail
          refine (eqKC_any _ _ _ _ _ _ _ _ _ _ zk _ HM.out K419.out K019.out).mono ?_
          rintro e w20 ⟨rfl, hb20⟩
          have z20 := hb20.size
          clear x0_19 x1_19 x2_19 h0_19 h1_19 h2_19
          have CP20 := Lib.hid (CP19.out.call hb20)
          have CQ20 := Lib.hid (CQ19.out.call hb20)
          have DX20 := Lib.hid (DX19.out.call hb20)
          have K020 := Lib.hid (K019.out.call hb20)
          have DY20 := Lib.hid (DY19.out.call hb20)
          have KM20 := Lib.hid (KM19.out.call hb20)
          have DZ20 := Lib.hid (DZ19.out.call hb20)
          have K420 := Lib.hid (K419.out.call hb20)
          have X20 := Lib.hid (bel_call X19.out hb20)
          clear hb20 CP19 CQ19 DX19 K019 DY19 KM19 DZ19 K419 X19
          clear DZ20 K420
          have y0_20 : w20.cell? ⟨U3, 0, none⟩ = some (.int .i64 za) := DY20.out.cell (show 0 < 3 by omega)
          have y1_20 : w20.cell? ⟨U3, 1, none⟩ = some (.int .i64 zb) := DY20.out.cell (show 1 < 3 by omega)
          have y2_20 : w20.cell? ⟨U3, 2, none⟩ = some (.slice A1 zk.length c1) := DY20.out.cell (show 2 < 3 by omega)
          go_wp2_with fail
          refine (heldKC_any _ _ _ _ _ _ _ _ HM.out KM20.out).mono ?_
          rintro e w21 ⟨rfl, hb21⟩
          have z21 := hb21.size
          clear y0_20 y1_20 y2_20
          have CP21 := Lib.hid (CP20.out.call hb21)
          have CQ21 := Lib.hid (CQ20.out.call hb21)
          have DX21 := Lib.hid (DX20.out.call hb21)
          have K021 := Lib.hid (K020.out.call hb21)
          have DY21 := Lib.hid (DY20.out.call hb21)
          have KM21 := Lib.hid (KM20.out.call hb21)
          have X21 := Lib.hid (bel_call X20.out hb21)
          clear hb21 CP20 CQ20 DX20 K020 DY20 KM20 X20
          go_wp2_with fail
          go_ret
          exact ⟨rfl, X21.out⟩

set_option maxRecDepth 100000 in
theorem lifted (os : Os) (started : os.Started) (H : Type) (enc : TypeId × Value → H) :
    ReturnsInHanded {} Try.checked os 3 .any (Rows.fnExactAddClueSpec.pre6 enc Try.prog Try.f3 Rows.fnExactAddClueRow.domain false) (Rows.fnExactAddClueSpec.post enc Try.prog Try.f3 false true false false) := by
  refine returnsInHanded_of_change (C := Try.checked) Try.own started (by kernel_rfl) Try.func3
    (ChangeSpec.witness6 (enc := enc) (C := Try.checked) false ⟨#[], #[.agg #[.int .i64 0, .int .i64 0, .slice none 0 0], .agg #[.int .i64 0, .int .i64 0, .int .i64 0]], []⟩ 8 (by kernel_rfl) (by kernel_rfl) (by kernel_rfl) (by kernel_rfl)) ?_
  intro W base args ds gs before hval0 hW _ _
  have hval : ∀ (j : Nat) t v, Try.f3.params[j]? = some t → args[j]? = some v → Value.okWide Try.prog W .any base t v := hval0
  have hW' := hW
  obtain ⟨p, q, hA0, hV, rfl, _, _⟩ := hW
  have hA : DataW.TrodAll enc Try.prog W 0 (fun _ => true) true Try.f3.params.toList args.toList ds p := hA0
  rw [Try.params3] at hA hval
  obtain ⟨v0, vs0, d0, ds0, p0, q0, hargs, rfl, rfl, h0, r0⟩ := trodAll_cons hA
  obtain ⟨v1, vs1, d1, ds1, p1, q1, rfl, rfl, rfl, h1, r1⟩ := trodAll_cons r0
  obtain ⟨rfl, rfl, rfl⟩ := trodAll_nil r1
  obtain rfl : args = #[v0, v1] := by cases args; simp_all
  obtain ⟨rfl, rfl⟩ := trodVars_none hV
  have t0 := h0
  have lt0 : ∀ x ∈ p0, x.block < W.heap.size := by obtain ⟨m, hm⟩ := t0; exact DataW.trod_lt m _ _ _ hm
  have t0' := h0
  have t1 := h1
  have lt1 : ∀ x ∈ p1, x.block < W.heap.size := by obtain ⟨m, hm⟩ := t1; exact DataW.trod_lt m _ _ _ hm
  have t1' := h1
  obtain ⟨x0, x0b, x0A, x0n, x0c, x0k, rfl, k0, l0, m0, o0⟩ := open_puzzle (hval 0 26 v0 rfl rfl) t0'
  obtain ⟨x1, x1y, x1z, rfl, k1, l1, m1⟩ := open_clue (hval 1 28 v1 rfl rfl) t1'
  clear hA0 hval0
  refine (lawAddClue_true x0 x0b x0A x0n x0c x0k k0 l0 m0 o0 x1 x1y x1z k1 l1 m1 W).mono fun e W' ⟨he, bel⟩ => ?_
  subst he
  exact ⟨_, rfl, _, _, _, [], _, [], hW', trodAll_mk1 (shut_bool Try.underlying4 _), (trodAll_cons_mk (Below.trod Try.laidOut (by kernel_rfl) (of_decide_eq_true (by kernel_rfl)) h0 bel lt0) (trodAll_cons_mk (Below.trod Try.laidOut (by kernel_rfl) (of_decide_eq_true (by kernel_rfl)) h1 bel lt1) trodAll_mk0)), rfl, bel.frame _, fun h => by cases h⟩

set_option maxRecDepth 100000 in
theorem jf : joinedFacts Try.pinned.checked.prog 3 Try.f3 Rows.fnExactAddClueSpec Rows.fnExactAddClueRow = true := by
  unfold joinedFacts
  rw [whole_all.1, whole_all.2.1, whole_all.2.2]
  kernel_rfl

theorem over : Rows.fnExactAddClueRow.holds Try.pinned (OpenSpec.ofChange Rows.fnExactAddClueSpec) :=
  OpenClaim.holds_of_wide 3 Try.f3 rfl rfl rfl rfl rfl rfl rfl ⟨rfl, rfl, rfl, rfl, rfl⟩ rfl rfl rfl rfl rfl (by kernel_rfl) Try.func3 jf
    (of_decide_eq_true (by kernel_rfl)) (by unfold Func.isWrapper; rw [if_neg (of_decide_eq_false (by kernel_rfl))]; exact ⟨rfl, rfl⟩)
    (fun os started H enc _ => lifted os started H enc)

theorem proved : Rows.FnExactAddClueSaid := over
end Go.Proofs.Ytgopaflggbgplaa.fnExactAddClue
