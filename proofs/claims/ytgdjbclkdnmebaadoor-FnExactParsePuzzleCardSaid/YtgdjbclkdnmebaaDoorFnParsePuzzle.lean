/- For every input at which the law FnExactParsePuzzle can be called it answers true and leaves its arguments as they were, where the library's two errors and its tables are as the row lists them. No further conditions. -/
import Derived.Test.YtgdjbclkdnmebaaDoorJx
import Derived.Test.YtgdjbclkdnmebaaDoorTie
import Derived.Test.YtgdjbclkdnmebaaDoorCards
import Derived.Shelf.Vars
import Derived.HandedShaped
import Derived.Lay
import Derived.LaidOnce
import Derived.LaidLaws
import Derived.LaidHandle
import Derived.Stop.LaidErr
import Derived.Lib.LaidTab
import Derived.Stop.Joined
import Derived.SevenTiedAt
namespace Go
variable {H : Type} {enc : TypeId × Value → H}

theorem Proofs.YtgdjbclkdnmebaaDoor.handed_both {a : Assume} {C : Checked} {os : Os} {f : FuncId} {fn : Func} {s : ChangeSpec} {conds : List PathCond} {apart fresh handsOn again : Bool} {X : World → Array Value → Prop}
    (hX : ∀ (w w' : World) (args : Array Value), w.heap = w'.heap → X w args → X w' args)
    (own : ownKnob C.prog.godebug = none) (started : os.Started) (noInit : C.prog.inits.idxOf? f = none) (hfn : C.prog.funcs[f]? = some fn)
    (witness : ∃ (w : World) (tape : Tape) (i : Input), w.os = os ∧ (w.forCall tape i).Shaped C.prog ∧ i.vars = [] ∧ Input.okWide C.prog (w.forCall tape i) .any w.heap.size f i ∧
      ((s.pre enc C.prog fn conds apart (w.forCall tape i).memory i.args ∧ X (w.forCall tape i).memory i.args) ∧ sizedMet enc C.prog fn (OpenSpec.ofChange s) apart (w.forCall tape i).memory i.args) ∧ a.holds C.prog (lone (Frame.enter C.prog f i.args .normal) [] (w.forCall tape i)))
    (walk : ∀ (W : World) (base : Nat) (args : Array Value) (ds gs : List (DataW H)) (before : List MemPlace),
      (∀ (j : Nat) t v, fn.params[j]? = some t → args[j]? = some v → Value.okWide C.prog W .any base t v) →
      DataW.Whole enc C.prog fn.params.toList s.vars apart W args.toList ds gs before → X W args → W.ShapedOpen C.prog →
      Calls C.prog f args W fun e W' => ∃ v, e = .returned v ∧ s.post enc C.prog fn apart fresh handsOn again W args v W') :
    ReturnsInHanded a C os f .any (fun w args => (s.pre enc C.prog fn conds apart w args ∧ X w args) ∧ sizedMet enc C.prog fn (OpenSpec.ofChange s) apart w args) (s.post enc C.prog fn apart fresh handsOn again) :=
  returnsInHanded_of_calls own started noInit witness fun w tape i _ hsh _ hok hpre _ => by
    obtain ⟨_, _, _, g, hg, _, _, _, _, hval⟩ := hok
    cases Option.some.inj (hg.symm.trans hfn)
    obtain ⟨⟨⟨ds, gs, before, hw, _⟩, hx⟩, _⟩ := hpre
    refine (walk (w.forCall tape i) w.heap.size i.args ds gs before hval (DataW.Whole.of_heap (w := (w.forCall tape i).memory) (w' := w.forCall tape i) (by rfl) hw) (hX (w.forCall tape i).memory _ _ (by rfl) hx) hsh).mono fun e W' ⟨v, he, hp⟩ => ?_
    subst he
    exact ChangeSpec.post_blind hp

end Go
namespace Go.Proofs.YtgdjbclkdnmebaaDoor
open Go.ChangeShapes Go.WideShapes Go.ChangeAt Go.RowKit Go.Joins

/-- Marks: k, k + 1, .. -/
def upF (k : Nat) (j : Nat) : Value := .int .i64 ((k + j : Nat) : Int)

theorem up_cells {w : World} {g n k k0 : Nat} {f : Nat → Value} (hk : k < n) (h : Cells w g (n * 3) (fun j => if j < k * 3 then upF k0 j else f j)) :
    Cells (((w.setCell ⟨g, k * 3, none⟩ (.int .i64 ((k0 : Int) + ((k * 3 : Nat) : Int)))).setCell ⟨g, k * 3 + 1, none⟩ (.int .i64 ((k0 : Int) + ((k * 3 : Nat) : Int) + 1))).setCell ⟨g, k * 3 + 2, none⟩ (.int .i64 ((k0 : Int) + ((k * 3 : Nat) : Int) + 1 + 1))) g (n * 3) (fun j => if j < (k + 1) * 3 then upF k0 j else f j) :=
  (((h.set_ (show k * 3 < n * 3 by omega) _).set_ (show k * 3 + 1 < n * 3 by omega) _).set_ (show k * 3 + 2 < n * 3 by omega) _).congr (fun j hj => by
    by_cases e2 : j = k * 3 + 2
    · subst e2; rw [if_pos rfl, if_pos (by omega)]; exact congrArg (Value.int .i64) (by omega)
    · rw [if_neg e2]
      by_cases e1 : j = k * 3 + 1
      · subst e1; rw [if_pos rfl, if_pos (by omega)]; exact congrArg (Value.int .i64) (by omega)
      · rw [if_neg e1]
        by_cases e0 : j = k * 3
        · subst e0; rw [if_pos rfl, if_pos (by omega)]; exact congrArg (Value.int .i64) (by omega)
        · rw [if_neg e0]
          by_cases e3 : j < k * 3
          · rw [if_pos e3, if_pos (by omega)]
          · rw [if_neg e3, if_neg (by omega)])

set_option maxHeartbeats 1000000 in
theorem markClueS_any (g n c k0 : Nat) (f : Nat → Value) (w : World) (hn : k0 + n * 3 ≤ 4000000) (hC : Cells w g (n * 3) f) (hi : ∀ j, j < n * 3 → ∃ x, f j = .int .i64 x) :
    Calls Tryd.prog 54 #[.slice (some ⟨g, 0, none⟩) n c, .int .i64 (k0 : Int)] w fun e w' => e = .returned (.int .i64 ((k0 + n * 3 : Nat) : Int)) ∧ Cells w' g (n * 3) (upF k0) ∧ w.heap.size ≤ w'.heap.size ∧ (∀ B, B ≤ g → Below B w w') ∧ ∀ g' m f', g' ≠ g → Cells w g' m f' → Cells w' g' m f' := by
  have HC := Lib.hid hC
  have HI := Lib.hid hi
  clear hC hi
  go_enter Tryd.func54, Tryd.ntmps54
  go_wp2_with fail
  go_loopw [1, 5] (fun m i wr => ∃ k : Nat, k ≤ n ∧ i = .int .i64 k ∧ m = .int .i64 ((k0 : Int) + ((k * 3 : Nat) : Int)) ∧ Cells wr g (n * 3) (fun j => if j < k * 3 then upF k0 j else f j) ∧ w.heap.size ≤ wr.heap.size ∧ (∀ B, B ≤ g → Below B w wr) ∧ ∀ g' m f', g' ≠ g → Cells w g' m f' → Cells wr g' m f') (fun _ i _ => n - (intOf i).toNat)
  case atStart => exact ⟨0, by omega, rfl, by simp, HC.out.congr (fun j _ => by simp), Nat.le_refl _, fun B _ => Below.refl _ _, fun _ _ _ _ h => h⟩
  case round =>
    obtain ⟨k, hk, rfl, rfl, hCr, hz, hB, hO⟩ := hrel
    have HR := Lib.hid hCr
    have HB := Lib.hid hB
    have HO := Lib.hid hO
    clear hCr hB hO
    by_cases hlt : k < n
    · obtain ⟨x0, e0⟩ := HI.out (k * 3) (by omega)
      obtain ⟨x1, e1⟩ := HI.out (k * 3 + 1) (by omega)
      obtain ⟨x2, e2⟩ := HI.out (k * 3 + 2) (by omega)
      have p0 : wr.cell? ⟨g, k * 3, none⟩ = some (.int .i64 x0) := by rw [HR.out.cell (by omega), if_neg (by omega), e0]
      have p1 : wr.cell? ⟨g, k * 3 + 1, none⟩ = some (.int .i64 x1) := by rw [HR.out.cell (by omega), if_neg (by omega), e1]
      have p2 : wr.cell? ⟨g, k * 3 + 2, none⟩ = some (.int .i64 x2) := by rw [HR.out.cell (by omega), if_neg (by omega), e2]
      have f0 := HR.out.frozen (show k * 3 < n * 3 by omega)
      have f1 := HR.out.frozen (show k * 3 + 1 < n * 3 by omega)
      have f2 := HR.out.frozen (show k * 3 + 2 < n * 3 by omega)
      have HW := Lib.hid (up_cells hlt HR.out)
      clear e0 e1 e2
      have HK : Hid ((k0 : Int) + ((k * 3 : Nat) : Int) + 1 + 1 + 1 = (k0 : Int) + (((k + 1) * 3 : Nat) : Int)) := Lib.hid (by omega)
      have hq1 : (k0 : Int) + ((k * 3 : Nat) : Int) ≤ 4000000 := by omega
      obtain ⟨q, hq⟩ : ∃ q, (k0 : Int) + ((k * 3 : Nat) : Int) = q := ⟨_, rfl⟩
      have hq0 : 0 ≤ q := by omega
      rw [hq] at HW HK hq1 ⊢
      clear hq
      go_wp2_with fail
      go_roundw
      case rel => exact ⟨k + 1, by omega, by go_num, congrArg (Value.int .i64) HK.out, HW.out, by rw [size_setCell, size_setCell, size_setCell]; exact hz, fun B h => (((HB.out B h).setCell h _).setCell h _).setCell h _, fun g' m f' hne h => (((HO.out g' m f' hne h).far (fun e => hne e.symm) _).far (fun e => hne e.symm) _).far (fun e => hne e.symm) _⟩
      case measure => simp [intOf]; omega
    · obtain rfl : k = n := by omega
      go_wp2_with fail
      go_ret
      exact ⟨ret_int (by omega), HR.out.congr (fun j hj => by rw [if_pos hj]), hz, HB.out, HO.out⟩

set_option maxHeartbeats 1000000 in
theorem heldClueS_any (g n c k0 : Nat) (w : World) (hn : k0 + n * 3 ≤ 4000000) (hC : Cells w g (n * 3) (upF k0)) :
    Calls Tryd.prog 55 #[.slice (some ⟨g, 0, none⟩) n c, .int .i64 (k0 : Int)] w fun e w' => e = .returned (.int .i64 ((k0 + n * 3 : Nat) : Int)) ∧ w = w' := by
  have HC := Lib.hid hC
  clear hC
  go_enter Tryd.func55, Tryd.ntmps55
  go_wp2_with fail
  go_loop [1, 5] (fun m i => ∃ k : Nat, k ≤ n ∧ i = .int .i64 k ∧ m = .int .i64 ((k0 : Int) + ((k * 3 : Nat) : Int))) (fun _ i => n - (intOf i).toNat)
  case atStart => exact ⟨0, by omega, rfl, by simp⟩
  case round =>
    obtain ⟨k, hk, rfl, rfl⟩ := hrel
    by_cases hlt : k < n
    · have HK : Hid ((k0 : Int) + ((k * 3 : Nat) : Int) + 1 + 1 + 1 = (k0 : Int) + (((k + 1) * 3 : Nat) : Int)) := Lib.hid (by omega)
      have p0 : w.cell? ⟨g, k * 3, none⟩ = some (.int .i64 ((k0 : Int) + ((k * 3 : Nat) : Int))) := by rw [HC.out.cell (by omega)]; exact congrArg (fun x => some (Value.int .i64 x)) (by omega)
      have p1 : w.cell? ⟨g, k * 3 + 1, none⟩ = some (.int .i64 ((k0 : Int) + ((k * 3 : Nat) : Int) + 1)) := by rw [HC.out.cell (by omega)]; exact congrArg (fun x => some (Value.int .i64 x)) (by omega)
      have p2 : w.cell? ⟨g, k * 3 + 2, none⟩ = some (.int .i64 ((k0 : Int) + ((k * 3 : Nat) : Int) + 1 + 1)) := by rw [HC.out.cell (by omega)]; exact congrArg (fun x => some (Value.int .i64 x)) (by omega)
      have hq1 : (k0 : Int) + ((k * 3 : Nat) : Int) ≤ 4000000 := by omega
      obtain ⟨q, hq⟩ : ∃ q, (k0 : Int) + ((k * 3 : Nat) : Int) = q := ⟨_, rfl⟩
      have hq0 : 0 ≤ q := by omega
      rw [hq] at HK hq1 p0 p1 p2 ⊢
      clear hq
      go_wp2_with fail
      go_round
      case rel => exact ⟨k + 1, by omega, by go_num, congrArg (Value.int .i64) HK.out⟩
      case measure => simp [intOf]; omega
    · obtain rfl : k = n := by omega
      go_wp2_with fail
      go_ret
      exact ⟨ret_int (by omega), rfl⟩

theorem markC_zero (A : Option Addr) (c : Nat) (w : World) :
    Calls Tryd.prog 54 #[.slice A 0 c, .int .i64 1] w fun e w' => e = .returned (.int .i64 1) ∧ w = w' := by
  go_enter Tryd.func54, Tryd.ntmps54
  go_wp2_with fail
  go_loop [1, 5] (fun m i => m = .int .i64 1 ∧ i = .int .i64 0) (fun _ _ => 0)
  case atStart => exact ⟨rfl, rfl⟩
  case round =>
    obtain ⟨rfl, rfl⟩ := hrel
    go_wp2_with fail
    go_ret
    exact ⟨rfl, rfl⟩

theorem heldC_zero (A : Option Addr) (c : Nat) (w : World) :
    Calls Tryd.prog 55 #[.slice A 0 c, .int .i64 1] w fun e w' => e = .returned (.int .i64 1) ∧ w = w' := by
  go_enter Tryd.func55, Tryd.ntmps55
  go_wp2_with fail
  go_loop [1, 5] (fun m i => m = .int .i64 1 ∧ i = .int .i64 0) (fun _ _ => 0)
  case atStart => exact ⟨rfl, rfl⟩
  case round =>
    obtain ⟨rfl, rfl⟩ := hrel
    go_wp2_with fail
    go_ret
    exact ⟨rfl, rfl⟩

theorem clu_ints (cs : List Clu) (j : Nat) : ∃ x, cluF cs j = .int .i64 x := by
  unfold cluF
  split
  · exact ⟨_, rfl⟩
  · split
    · exact ⟨_, rfl⟩
    · exact ⟨_, rfl⟩

/-- What marking a puzzle leaves. -/
theorem markKC_any (a b : Int) (A : Option Addr) (n c lo hi : Nat) (cs : List Clu) (w : World) (hm : n ≤ 1048576) (hD : KC w lo hi A n (cluF cs)) :
    Calls Tryd.prog 23 #[.agg #[.int .i64 a, .int .i64 b, .slice A n c], .int .i64 1] w fun e w' => e = .returned (.int .i64 ((1 + n * 3 : Nat) : Int)) ∧ KC w' lo hi A n (upF 1) ∧ (∀ B, B ≤ w.heap.size → B ≤ lo → Below B w w') ∧ ∀ g' m f', ¬ (lo ≤ g' ∧ g' < hi) → Cells w g' m f' → Cells w' g' m f' := by
  have HB0 := Lib.hid (show Below w.heap.size w (w.alloc (.cells #[.int .i64 a, .int .i64 b, .slice A n c] 46)) from (Below.refl _ _).alloc (Nat.le_refl _) _)
  rcases hD with h0 | ⟨g, rfl, h1, h2, h4⟩
  · subst h0
    go_enter Tryd.func23, Tryd.ntmps23
    go_wp2_with (go_at_call 54; refine (markC_zero _ _ _).mono ?_; rintro e w2 ⟨rfl, rfl⟩)
    go_ret
    exact ⟨rfl, .inl rfl, fun B hB _ => HB0.out.mono hB, fun g' m f' _ hC => hC.call HB0.out⟩
  · have HC := Lib.hid (h4.call HB0.out)
    clear h4
    go_enter Tryd.func23, Tryd.ntmps23
    go_wp2_with (go_at_call 54; refine (markClueS_any _ _ _ 1 _ _ (by omega) HC.out (fun j _ => clu_ints cs j)).mono ?_; rintro e w2 ⟨rfl, m1, m2, m3, m4⟩)
    go_ret
    exact ⟨rfl, .inr ⟨g, rfl, h1, h2, m1⟩, fun B hB hlo => (HB0.out.mono hB).trans (m3 B (by omega)), fun g' m f' hn hC => m4 g' m f' (fun e => hn (by omega)) (hC.call HB0.out)⟩

theorem heldKC_any (a b : Int) (A : Option Addr) (n c lo hi : Nat) (w : World) (hm : n ≤ 1048576) (hD : KC w lo hi A n (upF 1)) :
    Calls Tryd.prog 24 #[.agg #[.int .i64 a, .int .i64 b, .slice A n c], .int .i64 1] w fun e w' => e = .returned (.int .i64 ((1 + n * 3 : Nat) : Int)) ∧ Below w.heap.size w w' := by
  have HB0 := Lib.hid (show Below w.heap.size w (w.alloc (.cells #[.int .i64 a, .int .i64 b, .slice A n c] 46)) from (Below.refl _ _).alloc (Nat.le_refl _) _)
  rcases hD with h0 | ⟨g, rfl, h1, h2, h4⟩
  · subst h0
    go_enter Tryd.func24, Tryd.ntmps24
    go_wp2_with (go_at_call 55; refine (heldC_zero _ _ _).mono ?_; rintro e w2 ⟨rfl, rfl⟩)
    go_ret
    exact ⟨rfl, HB0.out⟩
  · have HC := Lib.hid (h4.call HB0.out)
    clear h4
    go_enter Tryd.func24, Tryd.ntmps24
    go_wp2_with (go_at_call 55; refine (heldClueS_any _ _ _ 1 _ (by omega) HC.out).mono ?_; rintro e w2 ⟨rfl, rfl⟩)
    all_goals (try (exfalso; omega))
    go_ret
    exact ⟨rfl, HB0.out⟩

theorem eqKC_any (a b : Int) (A1 A2 : Option Addr) (c1 c2 lo1 hi1 lo2 hi2 : Nat) (cs : List Clu) (w : World) (hm : cs.length ≤ 1048576) (h1 : KC w lo1 hi1 A1 cs.length (cluF cs)) (h2 : KC w lo2 hi2 A2 cs.length (cluF cs)) :
    Calls Tryd.prog 20 #[.agg #[.int .i64 a, .int .i64 b, .slice A1 cs.length c1], .agg #[.int .i64 a, .int .i64 b, .slice A2 cs.length c2]] w fun e w' => e = .returned (.bool true) ∧ Below w.heap.size w w' :=
  eqPuzzle_any a b A1 A2 cs.length c1 c2 cs w hm h1.argC h2.argC

end Go.Proofs.YtgdjbclkdnmebaaDoor
namespace Go.Proofs.YtgdjbclkdnmebaaDoor
set_option maxRecDepth 100000
open Go.ChangeShapes Go.WideShapes Go.ChangeAt Go.RowKit Go.Joins

theorem pzParse_any (s : ByteArray) (hs : s.size ≤ 1048576) (w : World) : Calls Tryd.prog 51 #[.string s] w (KzP w s) := by
  by_cases h : 100 < s.size ∨ (spA 58 s).length ≠ 2
  · exact pzParseN_any s hs w h
  · have h1 : s.size ≤ 100 := by omega
    have h2 : (spA 58 s).length = 2 := by omega
    obtain ⟨x, y, e⟩ : ∃ x y, spA 58 s = [x, y] := by
      match h3 : spA 58 s, h2 with
      | [x, y], _ => exact ⟨x, y, rfl⟩
    by_cases h3 : (spA 120 x).length = 2
    · obtain ⟨p, q, e2⟩ : ∃ p q, spA 120 x = [p, q] := by
        match h4 : spA 120 x, h3 with
        | [p, q], _ => exact ⟨p, q, rfl⟩
      exact pzParseY_any s h1 x y p q e e2 w
    · exact pzParseM_any s h1 x y e h3 w

set_option maxHeartbeats 2000000 in
theorem specParsePuzzle_any (s : ByteArray) (hs : s.size ≤ 1048576) (w : World) :
    Calls Tryd.prog 21 #[.string s] w (PzOut w (zyA s) (zyD s) (zyK s) (zzB s)) := by
  have HQ := Lib.hid (show Cells (w.alloc (.cells #[.int .i64 0, .int .i64 0, .slice none 0 0] 46)) w.heap.size 3 (g3F 0 0 (.slice none 0 0)) from Cells.new (n := 3) rfl rfl)
  have HB0 := Lib.hid (show Below w.heap.size w (w.alloc (.cells #[.int .i64 0, .int .i64 0, .slice none 0 0] 46)) from (Below.refl _ _).alloc (Nat.le_refl _) _)
  obtain ⟨v, HV⟩ : ∃ v, Hid (zzB s = v) := ⟨_, Lib.hid rfl⟩
  rcases v with _ | _
  · have HE : Hid (zyA s = 0 ∧ zyD s = 0 ∧ zyK s = []) := Lib.hid (by unfold zyA zyD zyK; rw [HV.out]; exact ⟨rfl, rfl, rfl⟩)
    go_enter Tryd.func21, Tryd.ntmps21
    go_wp2_with (first
      | (go_at_call 51; refine (pzParse_any s hs _).mono ?_; rintro e w2 ⟨a, b, m, A, c, rfl, h2, hb2⟩
         rw [HV.out] at h2 ⊢
         have B2 := Lib.hid (bel_call HB0.out hb2)
         have E2 := Lib.hid ((HQ.out.call hb2).alloc (.cells #[.int .i64 a, .int .i64 b, .slice A m c] 46))
         have q0 := E2.out.cell (show 0 < 3 by omega)
         have q1 := E2.out.cell (show 1 < 3 by omega)
         have q2 := E2.out.cell (show 2 < 3 by omega)
         have f0 := E2.out.frozen (show 0 < 3 by omega)
         have f1 := E2.out.frozen (show 1 < 3 by omega)
         have f2 := E2.out.frozen (show 2 < 3 by omega)
         clear hb2 h2))
    refine bodyPost_ret (v := .tuple #[.agg #[.int .i64 0, .int .i64 0, .slice none 0 0], .bool false]) (by simp [results, Tryd.results21, go_sem, q0, q1, q2]) rfl ?_
    rw [HE.out.1, HE.out.2.1, HE.out.2.2, HV.out]
    exact pz_none (bel3 (B2.out.alloc B2.out.size _) (Nat.le_refl _) _ _ _)
  · have HE : Hid (zyA s = zzA s ∧ zyD s = zzD s ∧ zyK s = zzK s) := Lib.hid (by unfold zyA zyD zyK; rw [HV.out]; exact ⟨rfl, rfl, rfl⟩)
    go_enter Tryd.func21, Tryd.ntmps21
    go_wp2_with (first
      | (go_at_call 51; refine (pzParse_any s hs _).mono ?_; rintro e w2 ⟨a, b, m, A, c, rfl, h2, hb2⟩
         obtain ⟨rfl, rfl, hm, hR⟩ := h2 HV.out
         rw [HV.out]
         have HR := Lib.hid hR
         have HMM := Lib.hid hm
         have hz2 : w.heap.size + 1 ≤ w2.heap.size := by have := hb2.size; rw [World.size_alloc] at this; exact this
         have B2 := Lib.hid (bel_call HB0.out hb2)
         have E2 := Lib.hid ((HQ.out.call hb2).alloc (.cells #[.int .i64 (zzA s), .int .i64 (zzD s), .slice A m c] 46))
         have q0 := E2.out.cell (show 0 < 3 by omega)
         have q1 := E2.out.cell (show 1 < 3 by omega)
         have q2 := E2.out.cell (show 2 < 3 by omega)
         have f0 := E2.out.frozen (show 0 < 3 by omega)
         have f1 := E2.out.frozen (show 1 < 3 by omega)
         have f2 := E2.out.frozen (show 2 < 3 by omega)
         clear hb2 h2 hR hm))
    refine bodyPost_ret (v := .tuple #[.agg #[.int .i64 (zzA s), .int .i64 (zzD s), .slice A m c], .bool true]) (by simp [results, Tryd.results21, go_sem, q0, q1, q2]) rfl ?_
    rw [HE.out.1, HE.out.2.1, HE.out.2.2, HV.out]
    refine ⟨A, c, by rw [HMM.out], ?_, bel3 (B2.out.alloc B2.out.size _) (Nat.le_refl _) _ _ _⟩
    rw [size_setCell, size_setCell, size_setCell, ← HMM.out]
    have h := HR.out.call ((Below.refl w2.heap.size w2).alloc (Nat.le_refl _) (.cells #[.int .i64 (zzA s), .int .i64 (zzD s), .slice A m c] 46))
    rw [World.size_alloc] at h
    have hlo : w.heap.size < w.heap.size + 1 := by omega
    exact (((h.far (p := ⟨w.heap.size, 0, none⟩) hlo _).far (p := ⟨w.heap.size, 1, none⟩) hlo _).far (p := ⟨w.heap.size, 2, none⟩) hlo _).wide (Nat.le_of_lt hlo) (by rw [World.size_alloc]; omega)

theorem zyK_size (s : ByteArray) : (zyK s).length ≤ 6 := by
  unfold zyK
  split
  · rename_i h
    exact (pzB_yes (zz_yes h).1).2.1
  · simp

end Go.Proofs.YtgdjbclkdnmebaaDoor
namespace Go.Proofs.YtgdjbclkdnmebaaDoor.fnExactParsePuzzle
set_option maxRecDepth 100000
open Go.ChangeShapes Go.WideShapes Go.ChangeAt Go.RowKit Go.Joins
open Go.ChangeMaps (open_string shut_string)

set_option maxHeartbeats 4000000 in
theorem lawParsePuzzle_true (s : ByteArray) (hs : s.size ≤ maxLen) (w : World) (hL : LibW w) (hT : TabW w) :
    Calls Tryd.prog 6 #[.string s] w fun e w' => e = .returned (.bool true) ∧ Below w.heap.size w w' := by
  have HS := Lib.hid hs
  have HL := Lib.hid hL
  have hlow := hL.low
  have HT := Lib.hid hT
  have hlow4 := hT.low
  clear hL hT
  unfold maxLen at hs
  by_cases hlen : 1048576 < s.size
  · go_enter Tryd.func6, Tryd.ntmps6
    go_wp2_with fail
    go_ret
    exact ⟨rfl, Below.refl _ _⟩
  have hs2 : s.size ≤ 1048576 := by omega
  have HQ1 : Hid (∀ W : World, Calls Tryd.prog 21 #[.string s] W (PzOut W (zyA s) (zyD s) (zyK s) (zzB s))) := Lib.hid (fun W => specParsePuzzle_any s hs2 W)
  have HQ2 : Hid (∀ W : World, LibW W → TabW W → Calls Tryd.prog 22 #[.string s] W (PzOut W (zyA s) (zyD s) (zyK s) (zzB s))) := Lib.hid (fun W hl ht => parsePuzzle_any s hs2 W hl ht)
  have HM : Hid ((zyK s).length ≤ 1048576) := Lib.hid (by have := zyK_size s; omega)
  generalize zyA s = za at HQ1 HQ2
  generalize zyD s = zb at HQ1 HQ2
  generalize zyK s = zk at HQ1 HQ2 HM
  generalize zzB s = zo at HQ1 HQ2
  go_enter Tryd.func6, Tryd.ntmps6
  go_wp2_with fail
  refine (HQ1.out w).mono ?_
  rintro e w3 ⟨A0, c0, rfl, k0, hb3⟩
  have CX : Cells (w3.alloc (.cells #[.int .i64 za, .int .i64 zb, .slice A0 zk.length c0] 46)) w3.heap.size 3 (g3F za zb (.slice A0 zk.length c0)) := Cells.new (n := 3) rfl rfl
  have hbx : Below w3.heap.size w3 (w3.alloc (.cells #[.int .i64 za, .int .i64 zb, .slice A0 zk.length c0] 46)) := (Below.refl _ _).alloc (Nat.le_refl _) _
  have HB3 := Lib.hid (bel_call hb3 hbx)
  have HCX := Lib.hid CX
  have HK0 := Lib.hid (k0.call hbx)
  have n3 := hb3.size
  clear hb3 k0 CX hbx
  go_wp2_with fail
  refine (HQ2.out _ (HL.out.below HB3.out hlow) (HT.out.below HB3.out hlow4)).mono ?_
  rintro e w5 ⟨A1, c1, rfl, k1, hb5⟩
  rw [World.size_alloc] at k1
  have n5 : w3.heap.size + 1 ≤ w5.heap.size := by have := hb5.size; rw [World.size_alloc] at this; exact this
  have DX5 := Lib.hid (HCX.out.call hb5)
  have K05 := Lib.hid (HK0.out.call hb5)
  have K15 := Lib.hid k1
  have X5 := Lib.hid (bel_call HB3.out hb5)
  clear hb5 k1 HCX HK0 HB3
  obtain ⟨U1, hU1⟩ : ∃ U, w3.heap.size = U := ⟨_, rfl⟩
  rw [hU1] at DX5 K05 K15 n3 n5 ⊢
  clear hU1
  have x0_5 : w5.cell? ⟨U1, 0, none⟩ = some (.int .i64 za) := DX5.out.cell (show 0 < 3 by omega)
  have x1_5 : w5.cell? ⟨U1, 1, none⟩ = some (.int .i64 zb) := DX5.out.cell (show 1 < 3 by omega)
  have x2_5 : w5.cell? ⟨U1, 2, none⟩ = some (.slice A0 zk.length c0) := DX5.out.cell (show 2 < 3 by omega)
  have x0_5n : (w5.alloc (.cells #[.int .i64 za, .int .i64 zb, .slice A1 zk.length c1] 46)).cell? ⟨U1, 0, none⟩ = some (.int .i64 za) := (DX5.out.alloc _).cell (show 0 < 3 by omega)
  have x1_5n : (w5.alloc (.cells #[.int .i64 za, .int .i64 zb, .slice A1 zk.length c1] 46)).cell? ⟨U1, 1, none⟩ = some (.int .i64 zb) := (DX5.out.alloc _).cell (show 1 < 3 by omega)
  have x2_5n : (w5.alloc (.cells #[.int .i64 za, .int .i64 zb, .slice A1 zk.length c1] 46)).cell? ⟨U1, 2, none⟩ = some (.slice A0 zk.length c0) := (DX5.out.alloc _).cell (show 2 < 3 by omega)
  go_wp2_with fail
  have CZ : Cells (w5.alloc (.cells #[.int .i64 za, .int .i64 zb, .slice A1 zk.length c1] 46)) w5.heap.size 3 (g3F za zb (.slice A1 zk.length c1)) := Cells.new (n := 3) rfl rfl
  have hbz : Below w5.heap.size w5 (w5.alloc (.cells #[.int .i64 za, .int .i64 zb, .slice A1 zk.length c1] 46)) := (Below.refl _ _).alloc (Nat.le_refl _) _
  refine (eqKC_any _ _ _ _ _ _ _ _ _ _ zk _ HM.out (K15.out.call hbz) (K05.out.call hbz)).mono ?_
  rintro e w6 ⟨rfl, hb6⟩
  have DX6 := Lib.hid ((DX5.out.call hbz).call hb6)
  have DY6 := Lib.hid (CZ.call hb6)
  have K06 := Lib.hid ((K05.out.call hbz).call hb6)
  have K16 := Lib.hid ((K15.out.call hbz).call hb6)
  have X6 := Lib.hid (bel_call (bel_call X5.out hbz) hb6)
  have n6 : w5.heap.size + 1 ≤ w6.heap.size := by have := hb6.size; rw [World.size_alloc] at this; exact this
  clear CZ hbz hb6 DX5 X5 K05 K15 x0_5n x1_5n x2_5n
  clear x0_5 x1_5 x2_5
  obtain ⟨U3, hU3⟩ : ∃ U, w5.heap.size = U := ⟨_, rfl⟩
  rw [hU3] at DY6 K16 n5 n6 ⊢
  clear hU3
  have x0_6 : w6.cell? ⟨U1, 0, none⟩ = some (.int .i64 za) := DX6.out.cell (show 0 < 3 by omega)
  have x1_6 : w6.cell? ⟨U1, 1, none⟩ = some (.int .i64 zb) := DX6.out.cell (show 1 < 3 by omega)
  have x2_6 : w6.cell? ⟨U1, 2, none⟩ = some (.slice A0 zk.length c0) := DX6.out.cell (show 2 < 3 by omega)
  have y0_6 : w6.cell? ⟨U3, 0, none⟩ = some (.int .i64 za) := DY6.out.cell (show 0 < 3 by omega)
  have y1_6 : w6.cell? ⟨U3, 1, none⟩ = some (.int .i64 zb) := DY6.out.cell (show 1 < 3 by omega)
  have y2_6 : w6.cell? ⟨U3, 2, none⟩ = some (.slice A1 zk.length c1) := DY6.out.cell (show 2 < 3 by omega)
  go_wp2_with fail
  refine (markKC_any _ _ _ _ _ _ _ zk _ HM.out K16.out).mono ?_
  rintro e w7 ⟨rfl, m1, m2, m3⟩
  have KM7 := Lib.hid m1
  have b7 := m2 w.heap.size (by omega) (by omega)
  have X7 := Lib.hid (X6.out.trans b7)
  have DX7 := Lib.hid (m3 _ _ _ (by omega) DX6.out)
  have DY7 := Lib.hid (m3 _ _ _ (by omega) DY6.out)
  have K07 := Lib.hid (K06.out.keep (lo2 := U1 + 1) (hi2 := U3) (by omega) m3)
  clear m1 m2 m3 b7 DX6 DY6 K06 K16 X6
  clear x0_6 x1_6 x2_6 y0_6 y1_6 y2_6
  have x0_7 : w7.cell? ⟨U1, 0, none⟩ = some (.int .i64 za) := DX7.out.cell (show 0 < 3 by omega)
  have x1_7 : w7.cell? ⟨U1, 1, none⟩ = some (.int .i64 zb) := DX7.out.cell (show 1 < 3 by omega)
  have x2_7 : w7.cell? ⟨U1, 2, none⟩ = some (.slice A0 zk.length c0) := DX7.out.cell (show 2 < 3 by omega)
  have y0_7 : w7.cell? ⟨U3, 0, none⟩ = some (.int .i64 za) := DY7.out.cell (show 0 < 3 by omega)
  have y1_7 : w7.cell? ⟨U3, 1, none⟩ = some (.int .i64 zb) := DY7.out.cell (show 1 < 3 by omega)
  have y2_7 : w7.cell? ⟨U3, 2, none⟩ = some (.slice A1 zk.length c1) := DY7.out.cell (show 2 < 3 by omega)
  go_wp2_with fail
  refine (heldKC_any _ _ _ _ _ _ _ _ HM.out KM7.out).mono ?_
  rintro e w8 ⟨rfl, hb8⟩
  have DX8 := Lib.hid (DX7.out.call hb8)
  have DY8 := Lib.hid (DY7.out.call hb8)
  have K08 := Lib.hid (K07.out.call hb8)
  have KM8 := Lib.hid (KM7.out.call hb8)
  have X8 := Lib.hid (bel_call X7.out hb8)
  clear hb8 DX7 DY7 K07 KM7 X7
  clear x0_7 x1_7 x2_7 y0_7 y1_7 y2_7
  have x0_8 : w8.cell? ⟨U1, 0, none⟩ = some (.int .i64 za) := DX8.out.cell (show 0 < 3 by omega)
  have x1_8 : w8.cell? ⟨U1, 1, none⟩ = some (.int .i64 zb) := DX8.out.cell (show 1 < 3 by omega)
  have x2_8 : w8.cell? ⟨U1, 2, none⟩ = some (.slice A0 zk.length c0) := DX8.out.cell (show 2 < 3 by omega)
  have y0_8 : w8.cell? ⟨U3, 0, none⟩ = some (.int .i64 za) := DY8.out.cell (show 0 < 3 by omega)
  have y1_8 : w8.cell? ⟨U3, 1, none⟩ = some (.int .i64 zb) := DY8.out.cell (show 1 < 3 by omega)
  have y2_8 : w8.cell? ⟨U3, 2, none⟩ = some (.slice A1 zk.length c1) := DY8.out.cell (show 2 < 3 by omega)
  go_wp2_with fail
  refine (HQ2.out _ (HL.out.below X8.out hlow) (HT.out.below X8.out hlow4)).mono ?_
  rintro e w10 ⟨A4, c4, rfl, k4, hb10⟩
  have DX10 := Lib.hid (DX8.out.call hb10)
  have DY10 := Lib.hid (DY8.out.call hb10)
  have K010 := Lib.hid (K08.out.call hb10)
  have KM10 := Lib.hid (KM8.out.call hb10)
  have X10 := Lib.hid (bel_call X8.out hb10)
  have K410 := Lib.hid k4
  clear hb10 k4 DX8 DY8 K08 KM8 X8
  clear x0_8 x1_8 x2_8 y0_8 y1_8 y2_8
  have x0_10 : w10.cell? ⟨U1, 0, none⟩ = some (.int .i64 za) := DX10.out.cell (show 0 < 3 by omega)
  have x1_10 : w10.cell? ⟨U1, 1, none⟩ = some (.int .i64 zb) := DX10.out.cell (show 1 < 3 by omega)
  have x2_10 : w10.cell? ⟨U1, 2, none⟩ = some (.slice A0 zk.length c0) := DX10.out.cell (show 2 < 3 by omega)
  have y0_10 : w10.cell? ⟨U3, 0, none⟩ = some (.int .i64 za) := DY10.out.cell (show 0 < 3 by omega)
  have y1_10 : w10.cell? ⟨U3, 1, none⟩ = some (.int .i64 zb) := DY10.out.cell (show 1 < 3 by omega)
  have y2_10 : w10.cell? ⟨U3, 2, none⟩ = some (.slice A1 zk.length c1) := DY10.out.cell (show 2 < 3 by omega)
  have x0_10n : (w10.alloc (.cells #[.int .i64 za, .int .i64 zb, .slice A4 zk.length c4] 46)).cell? ⟨U1, 0, none⟩ = some (.int .i64 za) := (DX10.out.alloc _).cell (show 0 < 3 by omega)
  have x1_10n : (w10.alloc (.cells #[.int .i64 za, .int .i64 zb, .slice A4 zk.length c4] 46)).cell? ⟨U1, 1, none⟩ = some (.int .i64 zb) := (DX10.out.alloc _).cell (show 1 < 3 by omega)
  have x2_10n : (w10.alloc (.cells #[.int .i64 za, .int .i64 zb, .slice A4 zk.length c4] 46)).cell? ⟨U1, 2, none⟩ = some (.slice A0 zk.length c0) := (DX10.out.alloc _).cell (show 2 < 3 by omega)
  go_wp2_with fail
  have hbq : Below w10.heap.size w10 (w10.alloc (.cells #[.int .i64 za, .int .i64 zb, .slice A4 zk.length c4] 46)) := (Below.refl _ _).alloc (Nat.le_refl _) _
  refine (eqKC_any _ _ _ _ _ _ _ _ _ _ zk _ HM.out (K410.out.call hbq) (K010.out.call hbq)).mono ?_
  rintro e w11 ⟨rfl, hb11⟩
  have DY11 := Lib.hid ((DY10.out.call hbq).call hb11)
  have KM11 := Lib.hid ((KM10.out.call hbq).call hb11)
  have X11 := Lib.hid (bel_call (bel_call X10.out hbq) hb11)
  clear hbq hb11 DX10 DY10 K010 KM10 X10 K410 x0_10n x1_10n x2_10n
  clear x0_10 x1_10 x2_10 y0_10 y1_10 y2_10
  have y0_11 : w11.cell? ⟨U3, 0, none⟩ = some (.int .i64 za) := DY11.out.cell (show 0 < 3 by omega)
  have y1_11 : w11.cell? ⟨U3, 1, none⟩ = some (.int .i64 zb) := DY11.out.cell (show 1 < 3 by omega)
  have y2_11 : w11.cell? ⟨U3, 2, none⟩ = some (.slice A1 zk.length c1) := DY11.out.cell (show 2 < 3 by omega)
  go_wp2_with fail
  refine (heldKC_any _ _ _ _ _ _ _ _ HM.out KM11.out).mono ?_
  rintro e w12 ⟨rfl, hb12⟩
  have X12 := Lib.hid (bel_call X11.out hb12)
  clear hb12 DY11
  go_wp2_with fail
  go_ret
  exact ⟨rfl, X12.out⟩

theorem gSyn : Tryd.prog.globalNamed "strconv.ErrSyntax" = some 1 := by kernel_rfl
theorem gRan : Tryd.prog.globalNamed "strconv.ErrRange" = some 2 := by kernel_rfl
theorem gSynT : (Tryd.prog.globals[1]?).map (·.type) = some 66 := by kernel_rfl
theorem gRanT : (Tryd.prog.globals[2]?).map (·.type) = some 66 := by kernel_rfl
theorem cellsES : Tryd.prog.cellsOf 158 = 1 := by kernel_rfl
theorem cellsStr : Tryd.prog.cellsOf 9 = 1 := by kernel_rfl
theorem star : "*" ++ "errors.errorString" = "*errors.errorString" := by decide
theorem rowES (u : TypeId) (h : Tryd.prog.typeName? 3 u = some "*errors.errorString") : u = 156 :=
  typeName_ptr_named (nm := "errors.errorString") (by rw [star]; kernel_rfl) (by kernel_rfl) (by decide) u (by rw [star]; exact h)

theorem cell_lt {w : World} {a : Addr} {v : Value} (h : w.cell? a = some v) : a.block < w.heap.size := by
  unfold World.cell? at h
  split at h
  · rename_i hb; exact (Array.getElem?_eq_some_iff.1 hb).1
  · cases h

/-- What the library's variables hold, out of what the row lists and of the world's shape. -/
theorem libW_of {W : World} (h : W.ShapedOpen Tryd.prog) (hL : laidMetH Tryd.prog Rows.fnExactParsePuzzleRow.laid W) : LibW W := by
  rw [MakeChecks.laidMetH_plain _ _ _ (by kernel_rfl)] at hL
  have h4 := hL.tail.tail.tail.tail
  obtain ⟨a0, s0, hv0, _⟩ := laid_sentinel h4 gRan gRanT Tryd.underlying66 rowES Tryd.underlying156 Tryd.underlying158 rfl rfl Tryd.underlying9 cellsES cellsStr
  obtain ⟨a1, s1, hv1, _⟩ := laid_sentinel h4.tail gSyn gSynT Tryd.underlying66 rowES Tryd.underlying156 Tryd.underlying158 rfl rfl Tryd.underlying9 cellsES cellsStr
  have c2 : W.cell? ⟨2, 0, none⟩ = some (.iface 156 (.pointer (some a0))) := by simpa using World.var?_cell gRan hv0 0
  have c1 : W.cell? ⟨1, 0, none⟩ = some (.iface 156 (.pointer (some a1))) := by simpa using World.var?_cell gSyn hv1 0
  exact ⟨cell_of_shapedOpen_int (t := 3) (zero := #[.int .i64 0]) (k := .i64) h (of_decide_eq_true (by kernel_rfl)) (by kernel_rfl) rfl (by kernel_rfl) (by kernel_rfl) Tryd.underlying3,
    ⟨_, c1, .inr ⟨_, _, rfl⟩⟩, ⟨_, c2, .inr ⟨_, _, rfl⟩⟩, cell_lt c2⟩


theorem gTabT : (Tryd.prog.globals[3]?).map (·.type) = some 149 := by kernel_rfl
theorem cellsTab : Tryd.prog.cellsOf 149 = 20 := by kernel_rfl
theorem cellsU64 : Tryd.prog.cellsOf 128 = 1 := by kernel_rfl
theorem tabSame : (Rows.laid_internal_strconv_uint64pow10 : DataW Unit) = Lib.tabData .u64 Lib.pow10Tab := by rfl

/-- The table out of what the row lists. -/
theorem tabW_of {W : World} (hL : laidMetH Tryd.prog Rows.fnExactParsePuzzleRow.laid W) : TabW W := by
  rw [MakeChecks.laidMetH_plain _ _ _ (by kernel_rfl)] at hL
  have h3 := hL.tail.tail
  have h4 : laidMet Tryd.prog (("internal/strconv.uint64pow10", Lib.tabData .u64 Lib.pow10Tab) :: [("unicode/utf8.acceptRanges", Rows.laid_unicode_utf8_acceptRanges), ("strconv.ErrRange", Rows.laid_strconv_ErrRange), ("strconv.ErrSyntax", Rows.laid_strconv_ErrSyntax), ("unicode/utf8.first", Rows.laid_unicode_utf8_first)]) W := by
    rw [← tabSame]; exact h3
  have ht := Lib.tabIs_of_head gTab gTabT Tryd.underlying149 Tryd.underlying128 cellsU64 cellsTab h4
  have hc := ht.cell gTab 0 (by rw [Lib.pow10Tab_length]; omega)
  have := World.block_lt_of_cell? _ _ hc
  exact ⟨ht, this⟩

set_option maxRecDepth 100000 in
theorem lifted (os : Os) (started : os.Started) (H : Type) (enc : TypeId × Value → H) :
    ReturnsInHanded {} Tryd.checked os 6 .any (fun w args => (Rows.fnExactParsePuzzleSpec.pre enc Tryd.prog Tryd.f6 [] false w args ∧ laidMetH Tryd.prog Rows.fnExactParsePuzzleRow.laid w) ∧ sizedMet enc Tryd.prog Tryd.f6 (OpenSpec.ofChange Rows.fnExactParsePuzzleSpec) false w args)
      (Rows.fnExactParsePuzzleSpec.post enc Tryd.prog Tryd.f6 false true false false) := by
  refine handed_both (C := Tryd.checked) (X := fun w _ => laidMetH Tryd.prog Rows.fnExactParsePuzzleRow.laid w) (fun _ _ _ hh h => h.of_heap hh) Tryd.own started (by kernel_rfl) Tryd.func6
    (ChangeSpec.witness_shaped (enc := enc) (C := Tryd.checked) (os := os) (X := fun w _ => laidMetH Tryd.prog Rows.fnExactParsePuzzleRow.laid w) false (World.laidAll Tryd.prog os Rows.fnExactParsePuzzleRow.laid) #[.string ByteArray.empty] 8 (World.laidAll_os _ _ _)
      (World.shaped_of_ZipB (by kernel_rfl) (by kernel_rfl)) (by kernel_rfl) (by kernel_rfl) (by kernel_rfl)
      (by rw [MakeChecks.laidMetH_plain _ _ _ (by kernel_rfl)]; exact laidMet_laidAll _ (by kernel_rfl) (by kernel_rfl))) ?_
  intro W base args ds gs before hval0 hW hlaid hsh
  have hval : ∀ (j : Nat) t v, Tryd.f6.params[j]? = some t → args[j]? = some v → Value.okWide Tryd.prog W .any base t v := hval0
  have hW' := hW
  obtain ⟨p, q, hA0, hV, rfl, _, _⟩ := hW
  have hA : DataW.TrodAll enc Tryd.prog W 0 (fun _ => true) true Tryd.f6.params.toList args.toList ds p := hA0
  rw [Tryd.params6] at hA hval
  obtain ⟨v0, vs0, d0, ds0, p0, q0, hargs, rfl, rfl, h0, r0⟩ := trodAll_cons hA
  obtain ⟨rfl, rfl, rfl⟩ := trodAll_nil r0
  obtain rfl : args = #[v0] := by cases args; simp_all
  obtain ⟨rfl, rfl⟩ := trodVars_none hV
  have t0 := h0
  have lt0 : ∀ x ∈ p0, x.block < W.heap.size := by obtain ⟨m, hm⟩ := t0; exact DataW.trod_lt m _ _ _ hm
  have t0' := h0
  obtain ⟨x0, rfl, _, _, k0⟩ := open_string Tryd.underlying9 (hval 0 9 v0 rfl rfl) t0'
  clear hA0 hval0
  refine (lawParsePuzzle_true x0 k0 W (libW_of hsh hlaid) (tabW_of hlaid)).mono fun e W' ⟨he, bel⟩ => ?_
  subst he
  exact ⟨_, rfl, _, _, _, [], _, [], hW', trodAll_mk1 (shut_bool Tryd.underlying4 _), (trodAll_cons_mk (Below.trod Tryd.laidOut (by kernel_rfl) (of_decide_eq_true (by kernel_rfl)) h0 bel lt0) trodAll_mk0), rfl, bel.frame _, fun h => by cases h⟩

set_option maxRecDepth 100000 in
theorem over : Rows.FnExactParsePuzzleSaid :=
  OpenClaim.holds_of_wide 6 Tryd.f6 rfl rfl rfl rfl rfl rfl rfl ⟨rfl, rfl, rfl, rfl, rfl⟩ rfl rfl rfl rfl rfl (by kernel_rfl) Tryd.func6 (by kernel_rfl)
    (of_decide_eq_true (by kernel_rfl)) (by unfold Func.isWrapper; rw [if_neg (of_decide_eq_false (by kernel_rfl))]; exact ⟨rfl, rfl⟩)
    (fun os started H enc _ => lifted os started H enc)

theorem card : Rows.FnExactParsePuzzleCardSaid :=
  Claim7.holds_tied_plain_at .later [] [.data, .data, .data, .data, .sentinel, .sentinel, .pinned] true (true, "102c2a497bb0f3ec2a07be2bfaae409fb21fb539aafa85c2f3b460615d56b7b4") true
    over (fun _ h => by cases h) (by kernel_rfl) (fun _ h => by cases h) fnExactParsePuzzle_row_tie rfl ⟨rfl, rfl⟩ (by kernel_rfl) rfl
    (fun f fn hf hfn => by
      obtain rfl : f = 6 := Option.some.inj ((show Tryd.prog.funcNamed "loop.example/g01304/laws.FnExactParsePuzzle" = some 6 by kernel_rfl).symm.trans hf) |>.symm
      obtain rfl : fn = Tryd.f6 := (Option.some.inj (Tryd.func6.symm.trans hfn)).symm
      exact ⟨by kernel_rfl, fun j t ht => by
        rw [Tryd.params6] at ht
        have hm : t ∈ [9] := by simpa using Array.mem_of_getElem? ht
        have hall : ([9].all fun u => !Tryd.prog.wantsStandIn u) = true := by kernel_rfl
        exact (show Tryd.prog.wantsStandIn t = false by simpa using List.all_eq_true.1 hall t hm)⟩)
    (by kernel_rfl)

theorem proved : Rows.FnExactParsePuzzleCardSaid := card
end Go.Proofs.YtgdjbclkdnmebaaDoor.fnExactParsePuzzle
