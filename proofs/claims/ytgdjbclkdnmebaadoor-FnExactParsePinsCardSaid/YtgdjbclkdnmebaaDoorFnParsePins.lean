/- For every input at which the law FnExactParsePins can be called it answers true and leaves its arguments as they were, where the library's two errors and its tables are as the row lists them. No further conditions. -/
import Derived.Test.YtgdjbclkdnmebaaDoorJi
import Derived.Test.YtgdjbclkdnmebaaDoorJu
import Derived.Test.YtgdjbclkdnmebaaDoorTie
import Derived.Test.YtgdjbclkdnmebaaDoorCards
import Derived.Shelf.Vars
import Derived.HandedShaped
import Derived.Lay
import Derived.LaidOnce
import Derived.LaidLaws
import Derived.LaidHandle
import Derived.Stop.LaidErr
import Derived.Stop.Joined
import Derived.SevenTiedAt
namespace Go
variable {H : Type} {enc : TypeId × Value → H}

theorem Proofs.YtgdjbclkdnmebaaDoor.handed_both {a : Assume} {C : Checked} {os : Os} {f : FuncId} {fn : Func} {s : ChangeSpec} {conds : List PathCond} {apart fresh handsOn again : Bool} {X : World → Array Value → Prop}
    (hX : ∀ (w w' : World) (args : Array Value), w.heap = w'.heap → X w args → X w' args)
    (own : ownKnob C.prog.godebug = none) (started : os.Started) (noInit : C.prog.inits.idxOf? f = none) (hfn : C.prog.funcs[f]? = some fn)
    (witness : ∃ (w : World) (tape : Tape) (i : Input), w.os = os ∧ (w.forCall tape i).Shaped C.prog ∧ i.vars = [] ∧ Input.okWide C.prog (w.forCall tape i) .any w.heap.size f i ∧
      ((s.pre enc C.prog fn conds apart (w.forCall tape i).memory i.args ∧ X (w.forCall tape i).memory i.args) ∧ sizedMet enc C.prog fn (OpenSpec.ofChange s) apart (w.forCall tape i).memory i.args) ∧ a.holds C.prog (lone (Frame.enter C.prog f i.args .normal) [] (w.forCall tape i)))
    (walk : ∀ (W : World) (base : Nat) (args : Array Value) (ds gs : List (DataW H)) (before : List MemPlace),
      (∀ (j : Nat) t v, fn.params[j]? = some t → args[j]? = some v → Value.okWide C.prog W .any base t v) →
      DataW.Whole enc C.prog fn.params.toList s.vars apart W args.toList ds gs before → X W args → W.ShapedOpen C.prog →
      Calls C.prog f args W fun e W' => ∃ v, e = .returned v ∧ s.post enc C.prog fn apart fresh handsOn again W args v W') :
    ReturnsInHanded a C os f .any (fun w args => (s.pre enc C.prog fn conds apart w args ∧ X w args) ∧ sizedMet enc C.prog fn (OpenSpec.ofChange s) apart w args) (s.post enc C.prog fn apart fresh handsOn again) :=
  returnsInHanded_of_calls own started noInit witness fun w tape i _ hsh _ hok hpre _ => by
    obtain ⟨_, _, _, g, hg, _, _, _, _, hval⟩ := hok
    cases Option.some.inj (hg.symm.trans hfn)
    obtain ⟨⟨⟨ds, gs, before, hw, _⟩, hx⟩, _⟩ := hpre
    refine (walk (w.forCall tape i) w.heap.size i.args ds gs before hval (DataW.Whole.of_heap (w := (w.forCall tape i).memory) (w' := w.forCall tape i) (by rfl) hw) (hX (w.forCall tape i).memory _ _ (by rfl) hx) hsh).mono fun e W' ⟨v, he, hp⟩ => ?_
    subst he
    exact ChangeSpec.post_blind hp

end Go
namespace Go.Proofs.YtgdjbclkdnmebaaDoor.fnExactParsePins
set_option maxRecDepth 100000
open Go.ChangeShapes Go.WideShapes Go.ChangeAt Go.RowKit Go.Joins
open Go.ChangeMaps (open_string shut_string)

set_option maxHeartbeats 4000000 in
theorem lawParsePins_true (s : ByteArray) (hs : s.size ≤ maxLen) (w : World) (hL : LibW w) :
    Calls Tryd.prog 4 #[.string s] w fun e w' => e = .returned (.bool true) ∧ Below w.heap.size w w' := by
  have HS := Lib.hid hs
  have HL := Lib.hid hL
  have hlow := hL.low
  clear hL
  unfold maxLen at hs
  by_cases hlen : 1048576 < s.size
  · go_enter Tryd.func4, Tryd.ntmps4
    go_wp2_with fail
    go_ret
    exact ⟨rfl, Below.refl _ _⟩
  have hs2 : s.size ≤ 1048576 := by omega
  have HNE : Hid (∀ i, i < (ppKz s).length → ((ppKz s).getD i []).length ≠ 0) := Lib.hid (by
    unfold ppKz
    split
    · rename_i h
      exact fun i hi => ((pinsB_yes (ppB_yes h).1).2.2.2.2 i hi).1
    · exact fun i hi => absurd hi (Nat.not_lt_zero _))
  have HQ1 : Hid (∀ W : World, Calls Tryd.prog 12 #[.string s] W (KPOut W (ppDz s) (ppKz s) (ppB s))) := Lib.hid (fun W => (specParsePins_any s hs2 W).mono fun _ _ h => h.kd HNE.out)
  have HQ2 : Hid (∀ W : World, LibW W → Calls Tryd.prog 13 #[.string s] W (KPOut W (ppDz s) (ppKz s) (ppB s))) := Lib.hid (fun W hl => (parsePins_any s hs2 W hl).mono fun _ _ h => h.kd HNE.out)
  have HM : Hid ((ppKz s).length + lensAt (ppKz s) (ppKz s).length ≤ 1048576) := Lib.hid (ppKz_size s hs2)
  generalize ppDz s = zd at HQ1 HQ2
  generalize ppKz s = zk at HQ1 HQ2 HM
  generalize ppB s = zo at HQ1 HQ2
  go_enter Tryd.func4, Tryd.ntmps4
  go_wp2_with fail
  refine (HQ1.out w).mono ?_
  rintro e w3 ⟨A0, c0, rfl, k0, hb3⟩
  have CX : Cells (w3.alloc (.cells #[.int .i64 zd, .slice A0 zk.length c0] 28)) w3.heap.size 2 (pF zd (.slice A0 zk.length c0)) := Cells.new (n := 2) rfl rfl
  have hbx : Below w3.heap.size w3 (w3.alloc (.cells #[.int .i64 zd, .slice A0 zk.length c0] 28)) := (Below.refl _ _).alloc (Nat.le_refl _) _
  have HB3 := Lib.hid (bel_call hb3 hbx)
  have HCX := Lib.hid CX
  have HK0 := Lib.hid (k0.call hbx)
  have n3 := hb3.size
  clear hb3 k0 CX hbx
  go_wp2_with fail
  refine (HQ2.out _ (HL.out.below HB3.out hlow)).mono ?_
  rintro e w5 ⟨A1, c1, rfl, k1, hb5⟩
  rw [World.size_alloc] at k1
  have n5 : w3.heap.size + 1 ≤ w5.heap.size := by have := hb5.size; rw [World.size_alloc] at this; exact this
  have DX5 := Lib.hid (HCX.out.call hb5)
  have K05 := Lib.hid (HK0.out.call hb5)
  have K15 := Lib.hid k1
  have X5 := Lib.hid (bel_call HB3.out hb5)
  clear hb5 k1 HCX HK0 HB3
  obtain ⟨U1, hU1⟩ : ∃ U, w3.heap.size = U := ⟨_, rfl⟩
  rw [hU1] at DX5 K05 K15 n3 n5 ⊢
  clear hU1
  have x0_5 : w5.cell? ⟨U1, 0, none⟩ = some (.int .i64 zd) := DX5.out.cell (show 0 < 2 by omega)
  have x1_5 : w5.cell? ⟨U1, 1, none⟩ = some (.slice A0 zk.length c0) := DX5.out.cell (show 1 < 2 by omega)
  have x0_5n : (w5.alloc (.cells #[.int .i64 zd, .slice A1 zk.length c1] 28)).cell? ⟨U1, 0, none⟩ = some (.int .i64 zd) := (DX5.out.alloc _).cell (show 0 < 2 by omega)
  have x1_5n : (w5.alloc (.cells #[.int .i64 zd, .slice A1 zk.length c1] 28)).cell? ⟨U1, 1, none⟩ = some (.slice A0 zk.length c0) := (DX5.out.alloc _).cell (show 1 < 2 by omega)
  go_wp2_with fail
  have CZ : Cells (w5.alloc (.cells #[.int .i64 zd, .slice A1 zk.length c1] 28)) w5.heap.size 2 (pF zd (.slice A1 zk.length c1)) := Cells.new (n := 2) rfl rfl
  have hbz : Below w5.heap.size w5 (w5.alloc (.cells #[.int .i64 zd, .slice A1 zk.length c1] 28)) := (Below.refl _ _).alloc (Nat.le_refl _) _
  refine (eqKD_any _ _ _ _ _ _ _ _ _ _ _ HM.out (K15.out.call hbz) (K05.out.call hbz)).mono ?_
  rintro e w6 ⟨rfl, hb6⟩
  have DX6 := Lib.hid ((DX5.out.call hbz).call hb6)
  have DY6 := Lib.hid (CZ.call hb6)
  have K06 := Lib.hid ((K05.out.call hbz).call hb6)
  have K16 := Lib.hid ((K15.out.call hbz).call hb6)
  have X6 := Lib.hid (bel_call (bel_call X5.out hbz) hb6)
  have n6 : w5.heap.size + 1 ≤ w6.heap.size := by have := hb6.size; rw [World.size_alloc] at this; exact this
  clear CZ hbz hb6 DX5 X5 K05 K15 x0_5n x1_5n
  clear x0_5 x1_5
  obtain ⟨U3, hU3⟩ : ∃ U, w5.heap.size = U := ⟨_, rfl⟩
  rw [hU3] at DY6 K16 n5 n6 ⊢
  clear hU3
  have x0_6 : w6.cell? ⟨U1, 0, none⟩ = some (.int .i64 zd) := DX6.out.cell (show 0 < 2 by omega)
  have x1_6 : w6.cell? ⟨U1, 1, none⟩ = some (.slice A0 zk.length c0) := DX6.out.cell (show 1 < 2 by omega)
  have y0_6 : w6.cell? ⟨U3, 0, none⟩ = some (.int .i64 zd) := DY6.out.cell (show 0 < 2 by omega)
  have y1_6 : w6.cell? ⟨U3, 1, none⟩ = some (.slice A1 zk.length c1) := DY6.out.cell (show 1 < 2 by omega)
  go_wp2_with fail
  refine (markKD_any _ _ _ _ _ _ _ _ HM.out K16.out).mono ?_
  rintro e w7 ⟨rfl, m1, m2, m3⟩
  have KM7 := Lib.hid m1
  have b7 := m2 w.heap.size (by omega) (by omega)
  have X7 := Lib.hid (X6.out.trans b7)
  have DX7 := Lib.hid (m3 _ _ _ (by omega) DX6.out)
  have DY7 := Lib.hid (m3 _ _ _ (by omega) DY6.out)
  have K07 := Lib.hid (K06.out.keep (lo2 := U1 + 1) (hi2 := U3) (by omega) m3)
  clear m1 m2 m3 b7 DX6 DY6 K06 K16 X6
  clear x0_6 x1_6 y0_6 y1_6
  have x0_7 : w7.cell? ⟨U1, 0, none⟩ = some (.int .i64 zd) := DX7.out.cell (show 0 < 2 by omega)
  have x1_7 : w7.cell? ⟨U1, 1, none⟩ = some (.slice A0 zk.length c0) := DX7.out.cell (show 1 < 2 by omega)
  have y0_7 : w7.cell? ⟨U3, 0, none⟩ = some (.int .i64 zd) := DY7.out.cell (show 0 < 2 by omega)
  have y1_7 : w7.cell? ⟨U3, 1, none⟩ = some (.slice A1 zk.length c1) := DY7.out.cell (show 1 < 2 by omega)
  go_wp2_with fail
  refine (heldKD_any _ _ _ _ _ _ _ HM.out KM7.out).mono ?_
  rintro e w8 ⟨rfl, hb8⟩
  have DX8 := Lib.hid (DX7.out.call hb8)
  have DY8 := Lib.hid (DY7.out.call hb8)
  have K08 := Lib.hid (K07.out.call hb8)
  have KM8 := Lib.hid (KM7.out.call hb8)
  have X8 := Lib.hid (bel_call X7.out hb8)
  clear hb8 DX7 DY7 K07 KM7 X7
  clear x0_7 x1_7 y0_7 y1_7
  have x0_8 : w8.cell? ⟨U1, 0, none⟩ = some (.int .i64 zd) := DX8.out.cell (show 0 < 2 by omega)
  have x1_8 : w8.cell? ⟨U1, 1, none⟩ = some (.slice A0 zk.length c0) := DX8.out.cell (show 1 < 2 by omega)
  have y0_8 : w8.cell? ⟨U3, 0, none⟩ = some (.int .i64 zd) := DY8.out.cell (show 0 < 2 by omega)
  have y1_8 : w8.cell? ⟨U3, 1, none⟩ = some (.slice A1 zk.length c1) := DY8.out.cell (show 1 < 2 by omega)
  go_wp2_with fail
  refine (HQ2.out _ (HL.out.below X8.out hlow)).mono ?_
  rintro e w10 ⟨A4, c4, rfl, k4, hb10⟩
  have DX10 := Lib.hid (DX8.out.call hb10)
  have DY10 := Lib.hid (DY8.out.call hb10)
  have K010 := Lib.hid (K08.out.call hb10)
  have KM10 := Lib.hid (KM8.out.call hb10)
  have X10 := Lib.hid (bel_call X8.out hb10)
  have K410 := Lib.hid k4
  clear hb10 k4 DX8 DY8 K08 KM8 X8
  clear x0_8 x1_8 y0_8 y1_8
  have x0_10 : w10.cell? ⟨U1, 0, none⟩ = some (.int .i64 zd) := DX10.out.cell (show 0 < 2 by omega)
  have x1_10 : w10.cell? ⟨U1, 1, none⟩ = some (.slice A0 zk.length c0) := DX10.out.cell (show 1 < 2 by omega)
  have y0_10 : w10.cell? ⟨U3, 0, none⟩ = some (.int .i64 zd) := DY10.out.cell (show 0 < 2 by omega)
  have y1_10 : w10.cell? ⟨U3, 1, none⟩ = some (.slice A1 zk.length c1) := DY10.out.cell (show 1 < 2 by omega)
  have x0_10n : (w10.alloc (.cells #[.int .i64 zd, .slice A4 zk.length c4] 28)).cell? ⟨U1, 0, none⟩ = some (.int .i64 zd) := (DX10.out.alloc _).cell (show 0 < 2 by omega)
  have x1_10n : (w10.alloc (.cells #[.int .i64 zd, .slice A4 zk.length c4] 28)).cell? ⟨U1, 1, none⟩ = some (.slice A0 zk.length c0) := (DX10.out.alloc _).cell (show 1 < 2 by omega)
  go_wp2_with fail
  have hbq : Below w10.heap.size w10 (w10.alloc (.cells #[.int .i64 zd, .slice A4 zk.length c4] 28)) := (Below.refl _ _).alloc (Nat.le_refl _) _
  refine (eqKD_any _ _ _ _ _ _ _ _ _ _ _ HM.out (K410.out.call hbq) (K010.out.call hbq)).mono ?_
  rintro e w11 ⟨rfl, hb11⟩
  have DY11 := Lib.hid ((DY10.out.call hbq).call hb11)
  have KM11 := Lib.hid ((KM10.out.call hbq).call hb11)
  have X11 := Lib.hid (bel_call (bel_call X10.out hbq) hb11)
  clear hbq hb11 DX10 DY10 K010 KM10 X10 K410 x0_10n x1_10n
  clear x0_10 x1_10 y0_10 y1_10
  have y0_11 : w11.cell? ⟨U3, 0, none⟩ = some (.int .i64 zd) := DY11.out.cell (show 0 < 2 by omega)
  have y1_11 : w11.cell? ⟨U3, 1, none⟩ = some (.slice A1 zk.length c1) := DY11.out.cell (show 1 < 2 by omega)
  go_wp2_with fail
  refine (heldKD_any _ _ _ _ _ _ _ HM.out KM11.out).mono ?_
  rintro e w12 ⟨rfl, hb12⟩
  have X12 := Lib.hid (bel_call X11.out hb12)
  clear hb12 DY11
  go_wp2_with fail
  go_ret
  exact ⟨rfl, X12.out⟩

theorem gSyn : Tryd.prog.globalNamed "strconv.ErrSyntax" = some 1 := by kernel_rfl
theorem gRan : Tryd.prog.globalNamed "strconv.ErrRange" = some 2 := by kernel_rfl
theorem gSynT : (Tryd.prog.globals[1]?).map (·.type) = some 66 := by kernel_rfl
theorem gRanT : (Tryd.prog.globals[2]?).map (·.type) = some 66 := by kernel_rfl
theorem cellsES : Tryd.prog.cellsOf 158 = 1 := by kernel_rfl
theorem cellsStr : Tryd.prog.cellsOf 9 = 1 := by kernel_rfl
theorem star : "*" ++ "errors.errorString" = "*errors.errorString" := by decide
theorem rowES (u : TypeId) (h : Tryd.prog.typeName? 3 u = some "*errors.errorString") : u = 156 :=
  typeName_ptr_named (nm := "errors.errorString") (by rw [star]; kernel_rfl) (by kernel_rfl) (by decide) u (by rw [star]; exact h)

theorem cell_lt {w : World} {a : Addr} {v : Value} (h : w.cell? a = some v) : a.block < w.heap.size := by
  unfold World.cell? at h
  split at h
  · rename_i hb; exact (Array.getElem?_eq_some_iff.1 hb).1
  · cases h

/-- What the library's variables hold, out of what the row lists and of the world's shape. -/
theorem libW_of {W : World} (h : W.ShapedOpen Tryd.prog) (hL : laidMetH Tryd.prog Rows.fnExactParsePinsRow.laid W) : LibW W := by
  rw [MakeChecks.laidMetH_plain _ _ _ (by kernel_rfl)] at hL
  have h4 := hL.tail.tail.tail.tail
  obtain ⟨a0, s0, hv0, _⟩ := laid_sentinel h4 gRan gRanT Tryd.underlying66 rowES Tryd.underlying156 Tryd.underlying158 rfl rfl Tryd.underlying9 cellsES cellsStr
  obtain ⟨a1, s1, hv1, _⟩ := laid_sentinel h4.tail gSyn gSynT Tryd.underlying66 rowES Tryd.underlying156 Tryd.underlying158 rfl rfl Tryd.underlying9 cellsES cellsStr
  have c2 : W.cell? ⟨2, 0, none⟩ = some (.iface 156 (.pointer (some a0))) := by simpa using World.var?_cell gRan hv0 0
  have c1 : W.cell? ⟨1, 0, none⟩ = some (.iface 156 (.pointer (some a1))) := by simpa using World.var?_cell gSyn hv1 0
  exact ⟨cell_of_shapedOpen_int (t := 3) (zero := #[.int .i64 0]) (k := .i64) h (of_decide_eq_true (by kernel_rfl)) (by kernel_rfl) rfl (by kernel_rfl) (by kernel_rfl) Tryd.underlying3,
    ⟨_, c1, .inr ⟨_, _, rfl⟩⟩, ⟨_, c2, .inr ⟨_, _, rfl⟩⟩, cell_lt c2⟩


set_option maxRecDepth 100000 in
theorem lifted (os : Os) (started : os.Started) (H : Type) (enc : TypeId × Value → H) :
    ReturnsInHanded {} Tryd.checked os 4 .any (fun w args => (Rows.fnExactParsePinsSpec.pre enc Tryd.prog Tryd.f4 [] false w args ∧ laidMetH Tryd.prog Rows.fnExactParsePinsRow.laid w) ∧ sizedMet enc Tryd.prog Tryd.f4 (OpenSpec.ofChange Rows.fnExactParsePinsSpec) false w args)
      (Rows.fnExactParsePinsSpec.post enc Tryd.prog Tryd.f4 false true false false) := by
  refine handed_both (C := Tryd.checked) (X := fun w _ => laidMetH Tryd.prog Rows.fnExactParsePinsRow.laid w) (fun _ _ _ hh h => h.of_heap hh) Tryd.own started (by kernel_rfl) Tryd.func4
    (ChangeSpec.witness_shaped (enc := enc) (C := Tryd.checked) (os := os) (X := fun w _ => laidMetH Tryd.prog Rows.fnExactParsePinsRow.laid w) false (World.laidAll Tryd.prog os Rows.fnExactParsePinsRow.laid) #[.string ByteArray.empty] 8 (World.laidAll_os _ _ _)
      (World.shaped_of_ZipB (by kernel_rfl) (by kernel_rfl)) (by kernel_rfl) (by kernel_rfl) (by kernel_rfl)
      (by rw [MakeChecks.laidMetH_plain _ _ _ (by kernel_rfl)]; exact laidMet_laidAll _ (by kernel_rfl) (by kernel_rfl))) ?_
  intro W base args ds gs before hval0 hW hlaid hsh
  have hval : ∀ (j : Nat) t v, Tryd.f4.params[j]? = some t → args[j]? = some v → Value.okWide Tryd.prog W .any base t v := hval0
  have hW' := hW
  obtain ⟨p, q, hA0, hV, rfl, _, _⟩ := hW
  have hA : DataW.TrodAll enc Tryd.prog W 0 (fun _ => true) true Tryd.f4.params.toList args.toList ds p := hA0
  rw [Tryd.params4] at hA hval
  obtain ⟨v0, vs0, d0, ds0, p0, q0, hargs, rfl, rfl, h0, r0⟩ := trodAll_cons hA
  obtain ⟨rfl, rfl, rfl⟩ := trodAll_nil r0
  obtain rfl : args = #[v0] := by cases args; simp_all
  obtain ⟨rfl, rfl⟩ := trodVars_none hV
  have t0 := h0
  have lt0 : ∀ x ∈ p0, x.block < W.heap.size := by obtain ⟨m, hm⟩ := t0; exact DataW.trod_lt m _ _ _ hm
  have t0' := h0
  obtain ⟨x0, rfl, _, _, k0⟩ := open_string Tryd.underlying9 (hval 0 9 v0 rfl rfl) t0'
  clear hA0 hval0
  refine (lawParsePins_true x0 k0 W (libW_of hsh hlaid)).mono fun e W' ⟨he, bel⟩ => ?_
  subst he
  exact ⟨_, rfl, _, _, _, [], _, [], hW', trodAll_mk1 (shut_bool Tryd.underlying4 _), (trodAll_cons_mk (Below.trod Tryd.laidOut (by kernel_rfl) (of_decide_eq_true (by kernel_rfl)) h0 bel lt0) trodAll_mk0), rfl, bel.frame _, fun h => by cases h⟩

set_option maxRecDepth 100000 in
theorem over : Rows.FnExactParsePinsSaid :=
  OpenClaim.holds_of_wide 4 Tryd.f4 rfl rfl rfl rfl rfl rfl rfl ⟨rfl, rfl, rfl, rfl, rfl⟩ rfl rfl rfl rfl rfl (by kernel_rfl) Tryd.func4 (by kernel_rfl)
    (of_decide_eq_true (by kernel_rfl)) (by unfold Func.isWrapper; rw [if_neg (of_decide_eq_false (by kernel_rfl))]; exact ⟨rfl, rfl⟩)
    (fun os started H enc _ => lifted os started H enc)

theorem card : Rows.FnExactParsePinsCardSaid :=
  Claim7.holds_tied_plain_at .later [] [.data, .data, .data, .data, .sentinel, .sentinel, .pinned] true (true, "102c2a497bb0f3ec2a07be2bfaae409fb21fb539aafa85c2f3b460615d56b7b4") true
    over (fun _ h => by cases h) (by kernel_rfl) (fun _ h => by cases h) fnExactParsePins_row_tie rfl ⟨rfl, rfl⟩ (by kernel_rfl) rfl
    (fun f fn hf hfn => by
      obtain rfl : f = 4 := Option.some.inj ((show Tryd.prog.funcNamed "loop.example/g01304/laws.FnExactParsePins" = some 4 by kernel_rfl).symm.trans hf) |>.symm
      obtain rfl : fn = Tryd.f4 := (Option.some.inj (Tryd.func4.symm.trans hfn)).symm
      exact ⟨by kernel_rfl, fun j t ht => by
        rw [Tryd.params4] at ht
        have hm : t ∈ [9] := by simpa using Array.mem_of_getElem? ht
        have hall : ([9].all fun u => !Tryd.prog.wantsStandIn u) = true := by kernel_rfl
        exact (show Tryd.prog.wantsStandIn t = false by simpa using List.all_eq_true.1 hall t hm)⟩)
    (by kernel_rfl)

theorem proved : Rows.FnExactParsePinsCardSaid := card
end Go.Proofs.YtgdjbclkdnmebaaDoor.fnExactParsePins
