/- The forth and back order: the rank of a code, as both programs answer. No conditions. -/
import Derived.Test.YtpbnleohbegccaaOb
import Derived.Test.YtpbnleohbegccaaOd
namespace Go.Proofs.Ytpbnleohbegccaa
open Go.ChangeShapes Go.WideShapes Go.ChangeAt Go.RowKit Go.Joins Go.Shelf

attribute [local go_sem] Oper.semAt_some

/-- The rank in the forth and back order. -/
def frZ (a b : Int) (s : ByteArray) : Int := if askB a b s then frkA b (dg s) s.size else 0

theorem frZ_yes {a b : Int} {s : ByteArray} (h : askB a b s = true) : frZ a b s = frkA b (dg s) s.size := by unfold frZ; rw [h]; rfl

theorem own_two {β : Type} (B : Nat) (o : Obj) (ho : o.isCells = true) : Own (fun (_ : β) W => W.heap[B]? = some o) := by
  rintro s X Y row hs hg hr
  refine (hg.block B (Array.getElem?_eq_some_iff.1 hs).1 (fun e => ?_)).trans hs
  obtain ⟨o', ho', hc⟩ := hr B e.symm
  rw [hs] at ho'; cases ho'; rw [ho] at hc; cases hc

theorem two_at {W : World} {B : Nat} {t : TypeId} {x y : Value} (h : W.heap[B]? = some (.cells #[x, y] t (0, 0))) : W.cell? ⟨B, 0, none⟩ = some x ∧ W.cell? ⟨B, 1, none⟩ = some y := by
  constructor <;> simp [World.cell?, h]

theorem set_block {W : World} {B B' : Nat} (h : B ≠ B') (v : Value) : (W.setCell ⟨B', 0, none⟩ v).heap[B]? = W.heap[B]? := Below.heap_setCell _ _ _ B (fun e => h e)

theorem frZ_no {a b : Int} {s : ByteArray} (h : askB a b s = false) : frZ a b s = 0 := by unfold frZ; rw [h]; rfl

set_option maxRecDepth 100000 in
set_option maxHeartbeats 4000000 in
theorem specForthRank_any (a b : Int) (s : ByteArray) (w : World) (hs : s.size ≤ maxLen) :
    Calls Try.prog 22 #[.agg #[.int .i64 a, .int .i64 b], .string s] w fun e w' => e = .returned (.tuple #[.int .i64 (frZ a b s), .bool (askB a b s)]) ∧ Below w.heap.size w w' := by
  have HS := Lib.hid hs
  clear hs
  by_cases hg : askB a b s = true
  · have HG := Lib.hid hg
    have HA := Lib.hid (asked hg)
    obtain ⟨n6, b2, b10⟩ : s.size ≤ 6 ∧ 2 ≤ b ∧ b ≤ 10 := ⟨HA.out.n6, HA.out.b2, HA.out.b10⟩
    clear hg
    go_enter Try.func22, Try.ntmps22
    go_wp2_with (first
      | (go_at_call 69; refine (whAsked_any _ _ _ _ HS.out).mono ?_; rw [HG.out]; rintro e w1 ⟨rfl, hb1⟩; have z1 : w.heap.size < w1.heap.size := (by have := hb1.size; simp at this; omega); have m1 : w1.cell? ⟨w.heap.size, 1, none⟩ = some (.int .i64 b) := (hb1.cell (p := ⟨w.heap.size, 1, none⟩) (by simp)).trans (by simp); have HB1 := Lib.hid (show Below w.heap.size w w1 from bel_call ((Below.refl _ _).alloc (Nat.le_refl _) _) hb1); clear hb1)
      | (go_at_call 70; refine (whDigits_any _ _ HA.out.digits (by omega) HA.out.n1).mono ?_; rintro e w2 ⟨g, c, rfl, hgg, hC, hb2⟩; have m2 : w2.cell? ⟨w.heap.size, 1, none⟩ = some (.int .i64 b) := (hb2.cell (p := ⟨w.heap.size, 1, none⟩) z1).trans m1; have HB2 := Lib.hid (show Below w.heap.size w w2 from bel_call HB1.out hb2); have HC := Lib.hid hC; clear hb2 hC m1))
    go_loop [6, 16] (fun v i => ∃ k : Nat, k ≤ s.size ∧ i = .int .i64 k ∧ v = .int .i64 (frkA b (dg s) k)) (fun _ i => s.size - (intOf i).toNat)
    case atStart => exact ⟨0, by omega, rfl, rfl⟩
    case round =>
      obtain ⟨k, hk, rfl, rfl⟩ := hrel
      by_cases hlt : k < s.size
      · have hc : w2.cell? ⟨g, k, none⟩ = some (.int .i64 ((dg s).getD k 0)) := HC.out.cell hlt
        obtain ⟨i1, i2⟩ := frkA_bd b2 HA.out.low k (by omega)
        obtain ⟨j1, j2⟩ := frkA_bd b2 HA.out.low (k + 1) (by omega)
        have p1 := pw_bd6 b2 b10 (k := k) (by omega)
        have p2 := pw_bd6 b2 b10 (k := k + 1) (by omega)
        have mb := Int.mul_nonneg i1 (show 0 ≤ b by omega)
        obtain ⟨d1, d2⟩ := HA.out.low k hlt
        have HP : Hid (frkA b (dg s) (k + 1) = frkA b (dg s) k * b + (if frkA b (dg s) k % 2 = 1 then b - 1 - (dg s).getD k 0 else (dg s).getD k 0)) := Lib.hid rfl
        rw [HP.out] at j1 j2
        generalize (dg s).getD k 0 = d at hc d1 d2 HP j1 j2
        generalize frkA b (dg s) k = q at i1 i2 HP j1 j2 mb
        have ht : q.tmod 2 = q % 2 := Int.tmod_eq_emod_of_nonneg i1
        by_cases hq : q % 2 = 1
        · rw [if_pos hq] at j1 j2
          have HE : Hid (frkA b (dg s) (k + 1) = q * b + (b - 1 - d)) := Lib.hid (by rw [HP.out, if_pos hq])
          rw [hq] at ht
          go_wp2_with fail
          go_round
          case rel => exact ⟨k + 1, by omega, by go_num, by rw [HE.out]⟩
          case measure => simp [intOf]; omega
        · rw [if_neg hq] at j1 j2
          have HE : Hid (frkA b (dg s) (k + 1) = q * b + d) := Lib.hid (by rw [HP.out, if_neg hq])
          rw [show q % 2 = 0 by omega] at ht
          go_wp2_with fail
          go_round
          case rel => exact ⟨k + 1, by omega, by go_num, by rw [HE.out]⟩
          case measure => simp [intOf]; omega
      · go_wp2_with fail
        go_ret2
        exact ⟨by rw [HG.out, frZ_yes HG.out, show k = s.size by omega]; first | done | rfl, HB2.out⟩
  · have HG := Lib.hid (Bool.eq_false_iff.2 hg)
    clear hg
    go_enter Try.func22, Try.ntmps22
    go_wp2_with (first | (go_at_call 69; refine (whAsked_any _ _ _ _ HS.out).mono ?_; rw [HG.out]; rintro e w1 ⟨rfl, hb⟩; obtain ⟨hc, hf, hz⟩ := bcell hb; have hz0 : w.heap.size < w1.heap.size := by (try simp at hz); omega))
    go_ret2
    refine ⟨by rw [HG.out, frZ_no HG.out]; first | done | rfl, ?_⟩
    (repeat (first | assumption | exact Below.refl _ _ | (refine Below.alloc ?_ (by first | omega | (simp; done) | (simp; omega)) _) | (refine Below.setCell ?_ (by first | omega | (simp; done) | (simp; omega)) _) | refine bel_drewN ?_ _ | refine bel_drew ?_ | (refine bel_call ?_ (by assumption))))

set_option maxHeartbeats 4000000 in
set_option maxRecDepth 100000 in
theorem forthRankYes_any (a b : Int) (s : ByteArray) (w : World) (hs : s.size ≤ maxLen) (hg : askB a b s = true) :
    CallsIn Fence.wide 6 Try.prog 23 #[.agg #[.int .i64 a, .int .i64 b], .string s] w fun e w' => e = .returned (.tuple #[.int .i64 (frkA b (dg s) s.size), .bool true]) ∧ Below w.heap.size w w' := by
  have HS := Lib.hid hs
  have HG := Lib.hid hg
  have HA := Lib.hid (asked hg)
  obtain ⟨n6, b2, b10⟩ : s.size ≤ 6 ∧ 2 ≤ b ∧ b ≤ 10 := ⟨HA.out.n6, HA.out.b2, HA.out.b10⟩
  have hb0 : 0 < b := by omega
  have HLD : Hid (LowD b (dg s)) := Lib.hid fun j hj => HA.out.low j (by rw [dg_length] at hj; exact hj)
  clear hs hg
  refine callsIn_of_wp_marks Try.func23 rfl trivial ?_ rfl
  simp only [Try.ntmps23, List.size_toArray, List.length_cons, List.length_nil, Nat.reduceAdd, Nat.reduceSub, Array.replicate_succ, Array.replicate_zero, List.push_toArray, List.append_toArray, List.nil_append, List.cons_append]
  gi_wp2_with (first
    | (refine ⟨trivial, ?_⟩; gi_at_call 71; refine (callsIn_wide.2 (hasCode_any _ _ _ _ HS.out)).mono ?_; rw [ask_eq, HG.out]; rintro e w1 ⟨rfl, hb1⟩
       have z1 : w.heap.size < w1.heap.size := by have := hb1.size; simp at this; omega
       have l1 : w1.cell? ⟨w.heap.size, 1, none⟩ = some (.int .i64 b) := (hb1.cell (p := ⟨w.heap.size, 1, none⟩) (by simp)).trans (by simp)
       have k1 : w1.heap[w.heap.size]? = some (.cells #[.int .i64 a, .int .i64 b] 26 (0, 0)) := (hb1.block w.heap.size (by simp)).trans (World.alloc_heap_new w _)
       have X1 := Lib.hid (show Below w.heap.size w w1 from bel_call ((Below.refl _ _).alloc (Nat.le_refl _) _) hb1)
       clear hb1)
    | (refine ⟨trivial, ?_⟩; gi_at_call 73; refine (callsIn_wide.2 (digitsOf_any _ _ HA.out.digits (by omega))).mono ?_; rintro e w2 ⟨g, c, rfl, hgg, hC, hb2⟩)
    | (refine ⟨trivial, ?_⟩; gi_at_call 72; refine (backwardD_any Fence.wide _ trivial rfl _ _ _ _).mono ?_; rintro e w3 ⟨rfl, rfl⟩))
  have bR0 := (Boxed.new w1 3 (.int .i64 0)).alloc (.cells #[.int .i64 1] 3)
  have bC0 := Boxed.new (w1.alloc (.cells #[.int .i64 0] 3)) 3 (.int .i64 1)
  simp only [World.size_alloc] at bC0 hgg
  have bR1 : Boxed w2 w1.heap.size 3 (.int .i64 0) := (hb2.block _ bR0.lt).trans bR0
  have bC1 : Boxed w2 (w1.heap.size + 1) 3 (.int .i64 1) := (hb2.block _ bC0.lt).trans bC0
  have k2 : w2.heap[w.heap.size]? = some (.cells #[.int .i64 a, .int .i64 b] 26 (0, 0)) := ((hb2.block w.heap.size (by simp; omega)).trans ((Below.heap_alloc _ _ _ (by simp; omega)).trans (Below.heap_alloc _ _ _ z1))).trans k1
  have X2 : Below w.heap.size w w2 := bel_call ((X1.out.alloc X1.out.size _).alloc (by simp; omega) _) hb2
  have zS : g < w2.heap.size := hC.lt
  have bS := Boxed.new w2 43 (.slice (some ⟨g, 0, none⟩) s.size c)
  have bR := bR1.alloc (.cells #[.slice (some ⟨g, 0, none⟩) s.size c] 43)
  have bC := bC1.alloc (.cells #[.slice (some ⟨g, 0, none⟩) s.size c] 43)
  have k3 : (w2.alloc (.cells #[.slice (some ⟨g, 0, none⟩) s.size c] 43)).heap[w.heap.size]? = some (.cells #[.int .i64 a, .int .i64 b] 26 (0, 0)) := (Below.heap_alloc _ _ _ (by omega)).trans k2
  have hB0 := X2.alloc X2.size (.cells #[.slice (some ⟨g, 0, none⟩) s.size c] 43)
  have hC0 := hC.alloc (.cells #[.slice (some ⟨g, 0, none⟩) s.size c] 43)
  have hsz : (w2.alloc (.cells #[.slice (some ⟨g, 0, none⟩) s.size c] 43)).heap.size = w2.heap.size + 1 := by simp
  clear bR0 bC0 bR1 bC1 k1 k2 X1 X2 hb2 hC
  obtain ⟨W0, hW0⟩ : ∃ W0, w2.alloc (.cells #[.slice (some ⟨g, 0, none⟩) s.size c] 43) = W0 := ⟨_, rfl⟩
  rw [hW0] at bS bR bC k3 hB0 hC0 hsz ⊢
  clear hW0
  obtain ⟨o, ho⟩ : ∃ o, W0.heap[g]? = some o := ⟨_, Array.getElem?_eq_getElem hC0.lt⟩
  obtain ⟨U, hU⟩ : ∃ U, w.heap.size = U := ⟨_, rfl⟩
  rw [hU] at z1 k3 hB0 ⊢
  generalize w1.heap.size = R at *
  generalize w2.heap.size = S at *
  have HSZ := Lib.hid (dg_length s)
  refine wpIn_rangeFunc_ownH rfl (by omega) (gf := 100) (lb := #[.pointer (some ⟨S, 0, none⟩)]) rfl trivial (enters_of Try.func100 (by kernel_rfl) rfl)
    (backwardD_stops Fence.wide 5 trivial rfl (by omega) S g s.size c o b hb0 (dg s) HSZ.out (by omega) HLD.out W0 bS hC0 ho) kpD_t (kpD_b (by omega) (by omega)) (Below.refl _ _) (fun _ => rfl)
    (fun pre W => (((Boxed W R 3 (.int .i64 (rkD b pre)) ∧ Boxed W (R + 1) 3 (.int .i64 (pw b pre.length))) ∧ Boxed W S 43 (.slice (some ⟨g, 0, none⟩) s.size c)) ∧ W.heap[U]? = some (.cells #[.int .i64 a, .int .i64 b] 26 (0, 0))) ∧ Below U w W)
    (fun _ _ _ => False)
    (OwnFrom.and (OwnFrom.and (OwnFrom.and (OwnFrom.and (Own.from (boxed_own R 3 (fun pre : List (DigX b) => .int .i64 (rkD b pre))) _) (Own.from (boxed_own (R + 1) 3 (fun pre : List (DigX b) => .int .i64 (pw b pre.length))) _)) (Own.from (boxed_own _ _ _) _)) (Own.from (own_two U _ rfl) _)) (ownFrom_below (by omega) (hU ▸ hB0.size)))
    (fun _ _ _ _ _ hs _ _ => hs)
    ⟨⟨⟨⟨bR, (by rw [show pw b ([] : List (DigX b)).length = 1 from pw_zero b]; exact bC)⟩, bS⟩, k3⟩, hB0⟩
    (fun x a' _ => a' = { tmps := #[.agg #[.int .i64 a, .int .i64 b], .string s, .pointer (some ⟨U, 0, none⟩), undef, .int .i64 0, .bool false, .pointer (some ⟨R, 0, none⟩), .pointer (some ⟨R + 1, 0, none⟩), undef, .int .i64 x.1.2, .agg #[.int .i64 a, .int .i64 b], .string s, .bool true, .bool false, .string s, .slice (some ⟨g, 0, none⟩) s.size c, .func (.func 100) #[] #[.pointer (some ⟨S, 0, none⟩)], .int .i64 x.1.1, .int .i64 x.1.2, undef, undef, undef, undef, undef, undef, undef, undef, undef, undef, undef, undef, undef, undef, undef, undef], defers := [] })
    (fun x a' _ X Y row hs hg hr => hs)
    ?assign ?body ?done ?stop
  case assign =>
    rintro l pre ⟨⟨ix, d⟩, hd⟩ W K hI hK
    simp only [encD]
    gi_wp2
    exact hK _ _ ((KeepsOthers.refl _).from _) ⟨fun e => e, fun e => e⟩ hI rfl
  case body =>
    rintro l pre ⟨⟨ix, d⟩, hd0, hd1⟩ a' W hl ⟨r, hr0⟩ ⟨⟨⟨⟨bR, bC⟩, bS⟩, k3⟩, hB⟩ rfl hlt
    have cR := bR.cell
    have fR := bR.frozen
    have cC := bC.cell
    have fC := bC.frozen
    obtain ⟨x0, x1⟩ := two_at k3
    obtain ⟨r0, r1⟩ := rkD_bd b2 _ pre rfl
    obtain ⟨p0, p1⟩ := pw_bd6 b2 b10 (k := pre.length) (by omega)
    obtain ⟨q0, q1⟩ := pw_bd6 b2 b10 (k := pre.length + 1) (by omega)
    have HRS := Lib.hid (rkD_snoc b pre ⟨(ix, d), hd0, hd1⟩)
    have HPS : Hid (pw b (pre ++ [(⟨(ix, d), hd0, hd1⟩ : DigX b)]).length = pw b pre.length * b) := Lib.hid (by rw [List.length_append]; exact pw_succ _ _)
    have m0 := Int.mul_nonneg hd0 (show 0 ≤ pw b pre.length by omega)
    have m1 := Int.mul_le_mul_of_nonneg_right (show d + 1 ≤ b by have : d < b := hd1; omega) (show 0 ≤ pw b pre.length by omega)
    rw [Int.add_mul, Int.one_mul, Int.mul_comm b] at m1
    rw [pw_succ] at q0 q1
    simp only at HRS hd0 hd1 m0 m1
    have hRC : R + 1 ≠ R := by omega
    have hRC' : R ≠ R + 1 := by omega
    generalize rkD b pre = rk at *
    generalize pw b pre.length = C at *
    have w1' : IntKind.i64.wrap (d * C) = d * C := IntWalk.i64_in _ (by omega)
    have w2' : IntKind.i64.wrap (C * b) = C * b := IntWalk.i64_in _ (by omega)
    by_cases hodd : d % 2 = 1
    · have HV : Hid (rkD b (pre ++ [(⟨(ix, d), hd0, hd1⟩ : DigX b)]) = C - 1 - rk + d * C) := Lib.hid (by rw [HRS.out, if_pos hodd])
      have bR1 := bR.set (.int .i64 (C - 1 - rk))
      have bC1 := bC.other hRC (.int .i64 (C - 1 - rk))
      have bR2 := bR1.set (.int .i64 (C - 1 - rk + d * C))
      have bC2 := bC1.other hRC (.int .i64 (C - 1 - rk + d * C))
      have k4 := (set_block (W := W) (show U ≠ R by omega) (.int .i64 (C - 1 - rk))).trans k3
      have k5 := (set_block (show U ≠ R by omega) (.int .i64 (C - 1 - rk + d * C))).trans k4
      have cR1 := bR1.cell
      have fR1 := bR1.frozen
      have cC1 := bC1.cell
      have cC2 := bC2.cell
      have fC2 := bC2.frozen
      obtain ⟨x2, x3⟩ := two_at k5
      gi_wp2_with (refine ⟨trivial, ?_⟩; gi_at_call 67; refine (CallsIn.inRound l (callsIn_wide.2 (isBackwards_any _ _ hd0 (by omega)))).mono ?_; rw [decide_eq_true hodd]; rintro e w3 ⟨rfl, rfl⟩)
      have bR3 := bR2.other hRC' (.int .i64 (C * b))
      have bC3 := bC2.set (.int .i64 (C * b))
      have hgk : ∀ W : World, W.heap[g]? = some o → (((W.setCell ⟨R, 0, none⟩ (.int .i64 (C - 1 - rk))).setCell ⟨R, 0, none⟩ (.int .i64 (C - 1 - rk + d * C))).setCell ⟨R + 1, 0, none⟩ (.int .i64 (C * b))).heap[g]? = some o := fun W e =>
        (set_block (show g ≠ R + 1 by omega) _).trans ((set_block (show g ≠ R by omega) _).trans ((set_block (show g ≠ R by omega) _).trans e))
      exact ⟨(((KeepsOthers.setCell _ _ _).trans (KeepsOthers.setCell _ _ _)).trans (KeepsOthers.setCell _ _ _)).from _,
        ⟨hgk _, fun q => ((q.other (show S ≠ R by omega) _).other (show S ≠ R by omega) _).other (show S ≠ R + 1 by omega) _⟩,
        ⟨⟨⟨⟨by rw [HV.out]; exact bR3, by rw [HPS.out]; exact bC3⟩, ((bS.other (show S ≠ R by omega) _).other (show S ≠ R by omega) _).other (show S ≠ R + 1 by omega) _⟩, (set_block (show U ≠ R + 1 by omega) _).trans k5⟩,
          ((hB.setCell (p := ⟨R, 0, none⟩) (show U ≤ R by omega) _).setCell (p := ⟨R, 0, none⟩) (show U ≤ R by omega) _).setCell (p := ⟨R + 1, 0, none⟩) (show U ≤ R + 1 by omega) _⟩⟩
    · have HV : Hid (rkD b (pre ++ [(⟨(ix, d), hd0, hd1⟩ : DigX b)]) = rk + d * C) := Lib.hid (by rw [HRS.out, if_neg hodd])
      have bR2 := bR.set (.int .i64 (rk + d * C))
      have bC2 := bC.other hRC (.int .i64 (rk + d * C))
      have k5 := (set_block (W := W) (show U ≠ R by omega) (.int .i64 (rk + d * C))).trans k3
      have cC2 := bC2.cell
      have fC2 := bC2.frozen
      obtain ⟨x2, x3⟩ := two_at k5
      gi_wp2_with (refine ⟨trivial, ?_⟩; gi_at_call 67; refine (CallsIn.inRound l (callsIn_wide.2 (isBackwards_any _ _ hd0 (by omega)))).mono ?_; rw [decide_eq_false hodd]; rintro e w3 ⟨rfl, rfl⟩)
      have bR3 := bR2.other hRC' (.int .i64 (C * b))
      have bC3 := bC2.set (.int .i64 (C * b))
      have hgk : ∀ W : World, W.heap[g]? = some o → ((W.setCell ⟨R, 0, none⟩ (.int .i64 (rk + d * C))).setCell ⟨R + 1, 0, none⟩ (.int .i64 (C * b))).heap[g]? = some o := fun W e =>
        (set_block (show g ≠ R + 1 by omega) _).trans ((set_block (show g ≠ R by omega) _).trans e)
      exact ⟨((KeepsOthers.setCell _ _ _).trans (KeepsOthers.setCell _ _ _)).from _,
        ⟨hgk _, fun q => (q.other (show S ≠ R by omega) _).other (show S ≠ R + 1 by omega) _⟩,
        ⟨⟨⟨⟨by rw [HV.out]; exact bR3, by rw [HPS.out]; exact bC3⟩, (bS.other (show S ≠ R by omega) _).other (show S ≠ R + 1 by omega) _⟩, (set_block (show U ≠ R + 1 by omega) _).trans k5⟩,
          (hB.setCell (p := ⟨R, 0, none⟩) (show U ≤ R by omega) _).setCell (p := ⟨R + 1, 0, none⟩) (show U ≤ R + 1 by omega) _⟩⟩
  case done =>
    rintro D ys W hD rfl ⟨⟨⟨⟨bR, bC⟩, bS⟩, k3⟩, hB⟩ hK
    have hc := bR.cell
    rw [← HSZ.out, rkD_all HLD.out _ (Nat.le_refl _), frk_eq, HSZ.out] at hc
    gi_wp2
    refine ⟨by simp, .inl ⟨_, _, rfl, run_takeDeferred hK, ?_⟩⟩
    refine ⟨.tuple #[.int .i64 (frkA b (dg s) s.size), .bool true], by simp [results, Try.results23, go_sem], ?_⟩
    exact ⟨rfl, hU ▸ hB.trans (belowK_b (w := w) (by omega) W D _ _ (by omega) hK rfl rfl)⟩
  case stop =>
    rintro D c pre W _ _ h _
    exact h.elim

theorem forthRank_any (a b : Int) (s : ByteArray) (w : World) (hs : s.size ≤ maxLen) :
    Calls Try.prog 23 #[.agg #[.int .i64 a, .int .i64 b], .string s] w fun e w' => e = .returned (.tuple #[.int .i64 (frZ a b s), .bool (askB a b s)]) ∧ Below w.heap.size w w' := by
  by_cases hg : askB a b s = true
  · rw [frZ_yes hg, hg]
    exact (callsIn_wide (n := 6)).1 (forthRankYes_any a b s w hs hg)
  · have HS := Lib.hid hs
    have HG := Lib.hid (Bool.eq_false_iff.2 hg)
    clear hg hs
    go_enter Try.func23, Try.ntmps23
    go_wp2_with (first | (go_at_call 71; refine (hasCode_any _ _ _ _ HS.out).mono ?_; rw [ask_eq, HG.out]; rintro e w1 ⟨rfl, hb⟩; obtain ⟨hc, hf, hz⟩ := bcell hb; have hz0 : w.heap.size < w1.heap.size := by (try simp at hz); omega))
    go_ret2
    refine ⟨by rw [HG.out, frZ_no HG.out]; first | done | rfl, ?_⟩
    (repeat (first | assumption | exact Below.refl _ _ | (refine Below.alloc ?_ (by first | omega | (simp; done) | (simp; omega)) _) | (refine Below.setCell ?_ (by first | omega | (simp; done) | (simp; omega)) _) | refine bel_drewN ?_ _ | refine bel_drew ?_ | (refine bel_call ?_ (by assumption))))

end Go.Proofs.Ytpbnleohbegccaa
