/- All orders that begin with a list, as the model searches them. For lists of codes of a lock of few codes. -/
import Derived.Test.YtjghodfdejdjoaaOp
import Derived.Test.YtjghodfdejdjoaaOx
import Derived.Test.YtjghodfdejdjoaaNext3
import Derived.Test.YtjghodfdejdjoaaOf
import Derived.OwnWalk
namespace Go.Proofs.Ytjghodfdejdjoaa
open Go.ChangeShapes Go.WideShapes Go.ChangeAt Go.RowKit Go.Joins

/-- The search's answer. -/
def SeOut (w : World) (a b : Int) (Ms : List (List ByteArray)) (e : Ending) (w' : World) : Prop :=
  ∃ A c, e = .returned (.tuple #[.slice A (hdW Ms).length c, .int .i64 (Ms.length : Nat), .int .i64 (clN a b Ms : Nat)]) ∧ OwnS w' w.heap.size A (hdW Ms).length (hdW Ms) ∧ Below w.heap.size w w'

/-- The list is one of codes, and lies in the world. -/
structure Beg (w : World) (a b : Int) (A : Option Addr) (m : Nat) (L : List ByteArray) : Prop where
  arg : ArgS w A m L
  ask : ∀ k, k < m → askB a b (L.getD k ByteArray.empty) = true
  pos : 0 < m

theorem Beg.below {w w' : World} {a b : Int} {A : Option Addr} {m : Nat} {L : List ByteArray} (h : Beg w a b A m L) (hb : Below w.heap.size w w') : Beg w' a b A m L := ⟨h.arg.below hb, h.ask, h.pos⟩

theorem Beg.snoc {w : World} {a b : Int} {A : Option Addr} {m B : Nat} {L : List ByteArray} {s : ByteArray} (h : ∀ k, k < m → askB a b (L.getD k ByteArray.empty) = true) (hl : L.length = m) (hs : askB a b s = true) (ho : OwnS w B A (m + 1) (L ++ [s])) : Beg w a b A (m + 1) (L ++ [s]) := by
  have hall : ∀ k, k < m + 1 → askB a b ((L ++ [s]).getD k ByteArray.empty) = true := fun k hk => by
    by_cases e : k < m
    · have := h k e
      simpa [List.getD, List.getElem?_append_left (show k < L.length by omega)] using this
    · obtain rfl : k = L.length := by omega
      simpa [List.getD] using hs
  refine ⟨⟨ho.1, ?_, fun k hk => ?_⟩, hall, by omega⟩
  · rcases ho.2.2 with h0 | ⟨g, rfl, _, hC⟩
    · omega
    · exact .inr ⟨g, 0, rfl, hC.lt, fun k hk => by rw [Nat.zero_add]; exact hC.cell hk⟩
  · have := (asked (hall k hk)).n6
    have := (asked (hall k hk)).size
    unfold maxLen; omega

theorem next_ask {a b : Int} {s t : ByteArray} (h : askB a b s = true) (ht : t ∈ nextL a b s) : askB a b t = true := by
  rw [nextL_yes h] at ht
  have hk : t.data.toList ∈ keyL (ofKey (tidy (keyL (nxC b (dg s) (2 * s.size))))) := List.mem_map.2 ⟨t, ht, rfl⟩
  rw [keyL_ofKey, tidy_mem] at hk
  obtain ⟨u, hu, e⟩ := List.mem_map.1 hk
  have e2 : u = t := bytesI e
  subst e2
  obtain ⟨i, hi, rfl⟩ := List.mem_map.1 hu
  have hi := List.mem_range.1 hi
  have hsz := (asked h).size
  have hg : goodB a b = true := by
    unfold askB at h; rw [Bool.and_eq_true] at h; exact h.1
  have h2 := (good_yes hg).2.2.1
  have ht : turnB a ((i / 2 : Nat) : Int) (nxY i) = true := by
    have := nxY_turn (a := a) (k := i / 2) (q := i % 2) (by omega) (by omega)
    rwa [show 2 * (i / 2) + i % 2 = i by omega] at this
  have hG := (Good.of (asked h)).step h2 ht
  exact ask_of hg ⟨hG.size, hG.low⟩

theorem news_keep {W w5 : World} {x : ByteArray} {t : TypeId} {g : Nat} (hg : g = W.heap.size) (hb : Below (W.alloc (.cells #[.string x] t)).heap.size (W.alloc (.cells #[.string x] t)) w5) : ∀ j u, ([.string x] : List Value)[j]? = some u → w5.cell? ((⟨g, 0, none⟩ : Addr).add j) = some u := by
  intro j u hu
  have hj : j < 1 := (List.getElem?_eq_some_iff.1 hu).1
  obtain rfl : j = 0 := by omega
  have ha : (⟨g, 0, none⟩ : Addr).add 0 = ⟨g, 0, none⟩ := by unfold Addr.add; split <;> simp_all
  have h1 := news_one (W := W) (t := t) hg 0 u hu
  rw [ha] at h1 ⊢
  exact (hb.cell (p := ⟨g, 0, none⟩) (by subst hg; simp)).trans h1

/-- append of one text onto a row of the call's own, as one step of a region that draws. -/
theorem app_code {ops : Array Oper} {o : Oper} {a : Act} {W : World} {K : Act → World → Prop} {Q : Exit → Act → World → Prop} {E : Prop}
    (hg : o.guard = none) (s x : Operand) (hop : o.op = Op.call { callee := Callee.builtin Builtin.append, args := #[s, x], argTypes := #[24, 24] })
    (base g c k : Nat) (L : List ByteArray) (y : ByteArray) (ad : Addr) (hs : a.eval s = .slice (some ⟨g, 0, none⟩) k c) (hown : W.ownsRow base 9 1 (.slice (some ⟨g, 0, none⟩) k c) k (sv L))
    (hx : a.eval x = .slice (some ad) 1 1) (hn : ∀ j u, ([.string y] : List Value)[j]? = some u → W.cell? (ad.add j) = some u) (hk : k ≤ 10)
    (hK : ∀ A6 c6 w6, OwnS w6 base A6 (k + 1) (L ++ [y]) → (∀ h, h ≤ base → Below h W w6) → K (a.put o.dst (.slice A6 (k + 1) c6)) w6) :
    if Region.wanted o (yielded ops a.tmps) = true then Oper.wp Try.prog o a W K Q else E := by
  obtain ⟨i0, hi, hy0, hy1, hy2⟩ := info_parts info_string
  have hl := hown.lt _ rfl
  refine step_app hg s x 24 hop base 9 i0 (.string ByteArray.empty) 1 16 Try.underlying24 hi hy0 hy1 hy2 rfl (by decide) _ k (sv L) hs hown ad 1 1 [.string y] hx rfl hn (by simp [Value.oneCell']) (by unfold maxLen; omega) (by omega) (by omega) ?_
  intro v' w6 hown' hgrow
  obtain ⟨A6, c6, rfl, hO6⟩ := own_strs (ts := L ++ [y]) (by rw [sv_snoc]; exact hown') (by omega)
  exact hK A6 c6 w6 hO6 (fun h hh => (Below.refl h W).grown hgrow (by omega) (fun j hj => Nat.le_trans hh (hown.lt j hj).1))

theorem pow_few {r : Nat} (h : r ≤ 8) : 12 ^ r ≤ 429981696 := Nat.le_trans (Nat.pow_le_pow_right (by decide) h) (by decide)

theorem whP_few {a b : Int} {r j : Nat} {L : List ByteArray} {s : ByteArray} (h : r ≤ 8) : (whP a b r L ((nextL a b s).take j)).length ≤ 5159780352 := by
  have h1 := whP_le (a := a) (b := b) (r := r) (L := L) (fun c => whL_le r (L ++ [c])) ((nextL a b s).take j)
  have h2 : ((nextL a b s).take j).length ≤ 12 := by
    rw [List.length_take]; have := next_few (a := a) (b := b) (s := s); omega
  have h3 := pow_few h
  have h4 := Nat.mul_le_mul h2 h3
  omega

set_option maxRecDepth 100000 in
set_option maxHeartbeats 8000000 in
theorem orSearch_any (n : Nat) (b : Int) (C : Nat) (hg : goodB n b = true) (hC : pw b n = (C : Int)) (h9 : C ≤ 9) : ∀ (r m : Nat) (A : Option Addr) (c : Nat) (L : List ByteArray) (w : World), m + r = C → Beg w n b A m L →
    Calls Try.prog 17 #[.agg #[.int .i64 n, .int .i64 b], .slice A m c] w (SeOut w n b (whL n b r L)) := by
  have HG := Lib.hid hg
  have HC := Lib.hid hC
  clear hg hC
  intro r
  induction r with
  | zero =>
    intro m A c L w hm hB
    have HB := Lib.hid hB
    have HL := Lib.hid hB.arg.len
    obtain ⟨k, rfl⟩ : ∃ k, m = k + 1 := ⟨m - 1, by have := hB.pos; omega⟩
    obtain rfl : C = k + 1 := by omega
    obtain ⟨D, off, rfl, hbD, hcD⟩ := hB.arg.at_.resolve_left (by omega)
    have O1 := Lib.hid (hcD 0 (by omega))
    have O2 := Lib.hid (hcD k (by omega))
    have H2 : Hid (twoB n b (L.getD 0 ByteArray.empty) (L.getD k ByteArray.empty) = true) := Lib.hid (by unfold twoB; rw [hB.ask 0 (by omega), hB.ask k (by omega)]; rfl)
    obtain ⟨q, hq⟩ : ∃ q, otB n b (L.getD k ByteArray.empty) (L.getD 0 ByteArray.empty) = q := ⟨_, rfl⟩
    have HCL : Hid (clN n b [L] = if q = true then 1 else 0) := Lib.hid (by rw [clN_one, HL.out, Nat.add_sub_cancel, hq])
    have HQ := Lib.hid (((ot_sym H2.out).symm.trans (ot_few H2.out)).symm.trans hq)
    have HWL : Hid (whL n b 0 L = [L]) := Lib.hid rfl
    rw [Nat.add_zero] at O1
    clear hcD hq hB
    generalize L.getD 0 ByteArray.empty = s at *
    generalize L.getD k ByteArray.empty = t at *
    generalize hfz : fewZ n b s t = fz at HQ
    have HFZ := Lib.hid hfz
    have hdq : (fz == 1) = q := by rw [← HQ.out]; by_cases e : fz = 1 <;> simp [e]
    clear hfz
    have X0 := Lib.hid (show Below w.heap.size w (w.alloc (.cells #[.int .i64 n, .int .i64 b] 27)) from (Below.refl _ _).alloc (Nat.le_refl _) _)
    have C0 := Lib.hid (box_new (W := w) (a := n) (b := b) (t := 27) rfl)
    have hw1 : IntKind.i64.wrap (k : Int) = (k : Int) := IntWalk.i64_in _ (by omega)
    have hk0 : (0 : Int) < (k : Int) + 1 := by omega
    have hk3 : (k : Int) < (k : Int) + 1 := by omega
    go_enter Try.func17, Try.ntmps17
    go_wp2_with (go_at_call 23; refine (whCount_any _ _ _ HG.out).mono ?_; rw [HC.out]; rintro e w1 ⟨rfl, hb1⟩
                 have X1 := Lib.hid (bel_call X0.out hb1)
                 have C1 := Lib.hid (C0.out.call hb1)
                 clear hb1)
    have l0 : w1.cell? ⟨w.heap.size, 0, none⟩ = some (.int .i64 n) := C1.out.cell (show 0 < 2 by omega)
    have l1 : w1.cell? ⟨w.heap.size, 1, none⟩ = some (.int .i64 b) := C1.out.cell (show 1 < 2 by omega)
    have o1 : w1.cell? ⟨D, off, none⟩ = some (.string s) := (X1.out.cell (p := ⟨D, off, none⟩) hbD).trans O1.out
    have o2 : w1.cell? ⟨D, off + k, none⟩ = some (.string t) := (X1.out.cell (p := ⟨D, off + k, none⟩) hbD).trans O2.out
    go_region_law (go_simp; go_at_call 24; refine (whDistance_any _ _ _ _ _ H2.out).mono ?_; rw [HFZ.out]; rintro e w2 ⟨rfl, hb2⟩
                   have X2 := Lib.hid (bel_call (bel_drew X1.out) hb2)
                   clear hb2)
    all_goals
      by_cases hqq : q = true
      · subst hqq
        go_wp2_with (go_at_call 25; refine (l1OwnS_any _ _ _ L _ (by omega) (HB.out.arg.below X2.out)).mono ?_; rintro e w3 ⟨g3, c3, rfl, _, hr3, hb3⟩
                     have X3 := Lib.hid (bel_call X2.out hb3)
                     have R3 := Lib.hid hr3
                     clear hb3 hr3)
        obtain ⟨A4, c4, e4, hO4⟩ := own_strs R3.out (by omega)
        injection e4 with e4
        subst e4
        go_ret3
        rw [HWL.out]
        exact ⟨_, c3, by rw [HCL.out, show hdW [L] = L from rfl, HL.out]; rfl, by rw [show hdW [L] = L from rfl, HL.out]; exact hO4.base X2.out.size, X3.out⟩
      · have hqf := Bool.eq_false_iff.2 hqq
        subst hqf
        go_wp2_with (go_at_call 25; refine (l1OwnS_any _ _ _ L _ (by omega) (HB.out.arg.below X2.out)).mono ?_; rintro e w3 ⟨g3, c3, rfl, _, hr3, hb3⟩
                     have X3 := Lib.hid (bel_call X2.out hb3)
                     have R3 := Lib.hid hr3
                     clear hb3 hr3)
        obtain ⟨A4, c4, e4, hO4⟩ := own_strs R3.out (by omega)
        injection e4 with e4
        subst e4
        go_ret3
        rw [HWL.out]
        exact ⟨_, c3, by rw [HCL.out, show hdW [L] = L from rfl, HL.out]; rfl, by rw [show hdW [L] = L from rfl, HL.out]; exact hO4.base X2.out.size, X3.out⟩
  | succ r ih =>
    intro m A c L w hm hB
    obtain ⟨i0, hi, hy0, hy1, hy2⟩ := info_parts info_string
    have HB := Lib.hid hB
    have HL := Lib.hid hB.arg.len
    obtain ⟨k, rfl⟩ : ∃ k, m = k + 1 := ⟨m - 1, by have := hB.pos; omega⟩
    obtain ⟨D, off, rfl, hbD, hcD⟩ := hB.arg.at_.resolve_left (by omega)
    have O2 := Lib.hid (hcD k (by omega))
    have HTA := Lib.hid (hB.ask k (by omega))
    have HWL : Hid (whL n b (r + 1) L = whP n b r L (nextL n b (L.getD k ByteArray.empty))) := Lib.hid (by rw [whL_succ, HL.out, Nat.add_sub_cancel])
    have HFW : Hid (∀ j, (whP n b r L ((nextL n b (L.getD k ByteArray.empty)).take j)).length ≤ 5159780352) := Lib.hid fun j => whP_few (by omega)
    have HNA : Hid (∀ x, x ∈ nextL n b (L.getD k ByteArray.empty) → askB n b x = true) := Lib.hid fun x hx => next_ask HTA.out hx
    have HNF := Lib.hid (next_few (a := n) (b := b) (s := L.getD k ByteArray.empty))
    clear hcD hB
    generalize L.getD k ByteArray.empty = t at *
    generalize hN : nextL n b t = N at *
    have HN := Lib.hid hN
    have HTZ : Hid (t.size ≤ maxLen) := Lib.hid (by have := (asked HTA.out).n6; have := (asked HTA.out).size; unfold maxLen; omega)
    have X0 := Lib.hid (show Below w.heap.size w (w.alloc (.cells #[.int .i64 n, .int .i64 b] 27)) from (Below.refl _ _).alloc (Nat.le_refl _) _)
    have C0 := Lib.hid (box_new (W := w) (a := n) (b := b) (t := 27) rfl)
    have hw1 : IntKind.i64.wrap (k : Int) = (k : Int) := IntWalk.i64_in _ (by omega)
    have hk0 : (0 : Int) < (k : Int) + 1 := by omega
    have hk3 : (k : Int) < (k : Int) + 1 := by omega
    have hne : ((k : Int) + 1 == (C : Int)) = false := by rw [beq_eq_false_iff_ne]; omega
    clear hN
    go_enter Try.func17, Try.ntmps17
    go_wp2_with (go_at_call 23; refine (whCount_any _ _ _ HG.out).mono ?_; rw [HC.out]; rintro e w1 ⟨rfl, hb1⟩
                 have X1 := Lib.hid (bel_call X0.out hb1)
                 have C1 := Lib.hid (C0.out.call hb1)
                 clear hb1)
    have l0 : w1.cell? ⟨w.heap.size, 0, none⟩ = some (.int .i64 n) := C1.out.cell (show 0 < 2 by omega)
    have l1 : w1.cell? ⟨w.heap.size, 1, none⟩ = some (.int .i64 b) := C1.out.cell (show 1 < 2 by omega)
    have o2 : w1.cell? ⟨D, off + k, none⟩ = some (.string t) := (X1.out.cell (p := ⟨D, off + k, none⟩) hbD).trans O2.out
    go_region_law (go_simp; go_at_call 26; refine (specNext_any _ _ _ _ HTZ.out).mono ?_; rw [HTA.out, HN.out]; rintro e w2 ⟨A2, c2, rfl, hO2, hb2⟩
                   have X2 := Lib.hid (bel_call (bel_drew X1.out) hb2)
                   have C2 := Lib.hid (C1.out.drew.call hb2)
                   have ON := Lib.hid hO2
                   clear hb2 hO2)
    all_goals
      clear l0 l1 o2 hne
      go_wp2_with fail
      have hw0 : whP n b r L (N.take 0) = [] := by rw [List.take_zero]; rfl
      go_loopw [8, 9, 10, 51] (fun v f d i wr => ∃ j : Nat, j ≤ N.length ∧ i = .int .i64 j ∧ f = .int .i64 (((whP n b r L (N.take j)).length : Nat) : Int) ∧ d = .int .i64 ((clN n b (whP n b r L (N.take j)) : Nat) : Int) ∧ ∃ A1 c1, v = .slice A1 (hdW (whP n b r L (N.take j))).length c1 ∧ OwnS wr w.heap.size A1 (hdW (whP n b r L (N.take j))).length (hdW (whP n b r L (N.take j))) ∧ Below w.heap.size w wr ∧ Below w2.heap.size w2 wr) (fun _ _ _ i _ => N.length - (intOf i).toNat)
      case atStart => exact ⟨0, Nat.zero_le _, rfl, by rw [hw0]; rfl, by rw [hw0]; rfl, none, 0, by rw [hw0]; rfl, by rw [hw0]; exact ⟨rfl, by decide, .inl rfl⟩, X2.out, Below.refl _ _⟩
      case round =>
        clear hw0
        obtain ⟨j, hj, rfl, rfl, rfl, A1, c1, rfl, hO1, hbw, hb2w⟩ := hrel
        have HO1 := Lib.hid hO1
        have HBW := Lib.hid hbw
        have ONR := Lib.hid (ON.out.keep hb2w)
        have C3 := Lib.hid (C2.out.call hb2w)
        have HFJ := Lib.hid (HFW.out j)
        have HB2W := Lib.hid hb2w
        clear hO1 hbw hb2w
        by_cases hlt : j < N.length
        · obtain ⟨g, rfl, _, hCN⟩ := ONR.out.lt hlt
          have o3 := hCN.cell hlt
          unfold strF at o3
          have HXM : Hid (N.getD j ByteArray.empty ∈ N) := Lib.hid (by rw [getD_eq hlt]; exact List.getElem_mem _)
          have HSN : Hid (whP n b r L (N.take (j + 1)) = whP n b r L (N.take j) ++ (if hsS L (N.getD j ByteArray.empty) then [] else whL n b r (L ++ [N.getD j ByteArray.empty]))) := Lib.hid (by
            rw [List.take_succ_eq_append_getElem hlt, whP_snoc, ← getD_eq hlt])
          have HFJ1 := Lib.hid (HFW.out (j + 1))
          clear hCN
          generalize N.getD j ByteArray.empty = x at *
          have HXA := Lib.hid (HNA.out x HXM.out)
          obtain ⟨W1, hW1⟩ : ∃ W1, whP n b r L (N.take (j + 1)) = W1 := ⟨_, rfl⟩
          rw [hW1] at HSN HFJ1
          have HE1 := Lib.hid hW1
          have hN12 := HNF.out
          have hwj : IntKind.i64.wrap ((j : Int) + 1) = (j : Int) + 1 := IntWalk.i64_in _ (by omega)
          clear hW1
          generalize whP n b r L (N.take j) = W0 at *
          by_cases hh : hsS L x = true
          · have HH := Lib.hid hh
            have HW1 : Hid (W1 = W0) := Lib.hid (by rw [HSN.out, hh]; simp)
            clear hh
            go_wp2_with (go_at_call 27; refine (l1HasS_any _ _ _ L _ _ (by unfold maxLen; omega) (HB.out.arg.below HBW.out)).mono ?_; rw [inS_hsS, HH.out]; rintro e w4 ⟨rfl, rfl⟩)
            go_roundw
            case rel => exact ⟨j + 1, hlt, by go_num, by rw [HE1.out, HW1.out], by rw [HE1.out, HW1.out], A1, c1, by rw [HE1.out, HW1.out], by rw [HE1.out, HW1.out]; exact HO1.out, HBW.out, HB2W.out⟩
            case measure => simp [intOf]; omega
          · have HH := Lib.hid (Bool.eq_false_iff.2 hh)
            obtain ⟨V, hV⟩ : ∃ V, whL n b r (L ++ [x]) = V := ⟨_, rfl⟩
            have HV := Lib.hid hV
            have HW1 : Hid (W1 = W0 ++ V) := Lib.hid (by rw [HSN.out, HH.out, ← hV]; rfl)
            obtain ⟨F, hF⟩ : ∃ F, W0.length = F := ⟨_, rfl⟩
            obtain ⟨G, hG⟩ : ∃ G, V.length = G := ⟨_, rfl⟩
            obtain ⟨E, hE⟩ : ∃ E, clN n b W0 = E := ⟨_, rfl⟩
            obtain ⟨H, hH⟩ : ∃ H, clN n b V = H := ⟨_, rfl⟩
            have HL1 : Hid (W1.length = F + G) := Lib.hid (by rw [HW1.out, List.length_append, hF, hG])
            have HL2 : Hid (clN n b W1 = E + H) := Lib.hid (by rw [HW1.out, clN_app, hE, hH])
            have HL3 : Hid (hdW W1 = if F = 0 then hdW V else hdW W0) := Lib.hid (by rw [HW1.out, hdW_app, hF])
            have hle1 := HFJ1.out
            rw [HL1.out] at hle1
            have hle2 : E + H ≤ F + G := by rw [← HL1.out, ← HL2.out]; exact clN_le _ _ _
            have HFG := Lib.hid hG
            have HFH := Lib.hid hH
            rw [hF, hE]
            have hw5 : IntKind.i64.wrap ((F : Int) + (V.length : Int)) = (F : Int) + (V.length : Int) := IntWalk.i64_in _ (by omega)
            have hw6 : IntKind.i64.wrap ((E : Int) + (clN n b V : Int)) = (E : Int) + (clN n b V : Int) := IntWalk.i64_in _ (by omega)
            have hw7 : IntKind.i64.wrap (V.length : Int) = (V.length : Int) := IntWalk.i64_in _ (by omega)
            have l0 : wr.cell? ⟨w.heap.size, 0, none⟩ = some (.int .i64 n) := C3.out.cell (show 0 < 2 by omega)
            have l1 : wr.cell? ⟨w.heap.size, 1, none⟩ = some (.int .i64 b) := C3.out.cell (show 1 < 2 by omega)
            have zw : w.heap.size < wr.heap.size := C3.out.lt
            have lA0 : (wr.alloc (.cells #[.string x] 9)).cell? ⟨w.heap.size, 0, none⟩ = some (.int .i64 n) := (World.cell?_alloc_lt _ _ _ zw).trans l0
            have lA1 : (wr.alloc (.cells #[.string x] 9)).cell? ⟨w.heap.size, 1, none⟩ = some (.int .i64 b) := (World.cell?_alloc_lt _ _ _ zw).trans l1
            clear hh hV hF hG hE hH hle1 hle2
            go_wp2_with (go_at_call 27; refine (l1HasS_any _ _ _ L _ _ (by unfold maxLen; omega) (HB.out.arg.below HBW.out)).mono ?_; rw [inS_hsS, HH.out]; rintro e w4 ⟨rfl, rfl⟩)
            go_region_law (first
              | (go_simp; go_at_call 25; refine (l1OwnS_any _ _ _ L _ (by omega) (HB.out.arg.below (by first | exact bel_drew HBW.out | exact (bel_drew HBW.out).alloc HBW.out.size _))).mono ?_; rintro e w5 ⟨g5, c5, rfl, hc5, hr5, hb5⟩
                 have R5 := Lib.hid hr5
                 have hbs := (hr5.lt _ rfl)
                 have B5 : Hid (Below wr.heap.size wr w5) := Lib.hid (by first | exact bel_call (bel_drew (Below.refl _ _)) hb5 | exact bel_call ((bel_drew (Below.refl _ _)).alloc (Nat.le_refl _) _) hb5)
                 have m0 : w5.cell? ⟨w.heap.size, 0, none⟩ = some (.int .i64 n) := (B5.out.cell (p := ⟨w.heap.size, 0, none⟩) zw).trans l0
                 have m1 : w5.cell? ⟨w.heap.size, 1, none⟩ = some (.int .i64 b) := (B5.out.cell (p := ⟨w.heap.size, 1, none⟩) zw).trans l1
                 have z5 : w.heap.size < w5.heap.size := Nat.lt_of_lt_of_le zw B5.out.size
                 have mA0 : (w5.alloc (.cells #[.string x] 9)).cell? ⟨w.heap.size, 0, none⟩ = some (.int .i64 n) := (World.cell?_alloc_lt _ _ _ z5).trans m0
                 have mA1 : (w5.alloc (.cells #[.string x] 9)).cell? ⟨w.heap.size, 1, none⟩ = some (.int .i64 b) := (World.cell?_alloc_lt _ _ _ z5).trans m1
                 first
                   | have NW := Lib.hid (news_keep (W := wr.drew) (x := x) (t := 9) (g := wr.heap.size) rfl hb5)
                   | skip
                 clear hr5 hb5)
              | (first
                   | (refine app_code rfl (.tmp 61) (.tmp 63) rfl _ g5 c5 (k + 1) L x ⟨wr.heap.size, 0, none⟩ rfl R5.out rfl NW.out (by omega) ?_; intro A6 c6 w6 hO6 hB6
                      have B6 : Hid (Below wr.heap.size wr w6) := Lib.hid (B5.out.trans (hB6 _ (by simp))))
                   | (refine app_code rfl (.tmp 61) (.tmp 63) rfl _ g5 c5 (k + 1) L x ⟨w5.heap.size, 0, none⟩ rfl (R5.out.alloc _) rfl (news_one rfl) (by omega) ?_; intro A6 c6 w6 hO6 hB6
                      have B6 : Hid (Below wr.heap.size wr w6) := Lib.hid ((B5.out.alloc B5.out.size _).trans (hB6 _ (by simp))))
                 have BEG6 := Lib.hid (Beg.snoc HB.out.ask HL.out HXA.out hO6)
                 have n0 : w6.cell? ⟨w.heap.size, 0, none⟩ = some (.int .i64 n) := (B6.out.cell (p := ⟨w.heap.size, 0, none⟩) zw).trans l0
                 have n1 : w6.cell? ⟨w.heap.size, 1, none⟩ = some (.int .i64 b) := (B6.out.cell (p := ⟨w.heap.size, 1, none⟩) zw).trans l1
                 clear hO6 hB6)
              | (go_simp; go_at_call 17; refine (ih (k + 1 + 1) _ _ _ _ (by omega) BEG6.out).mono ?_; rw [HV.out]; rintro e w7 ⟨A7, c7, rfl, hO7, hb7⟩
                 have B7 := Lib.hid (bel_call B6.out hb7)
                 have O7 := Lib.hid (hO7.base (Nat.le_trans (Nat.le_of_lt zw) B6.out.size))
                 clear hO7 hb7))
            all_goals
              by_cases hF0 : F = 0
              · subst hF0
                go_wp2_with fail
                go_roundw
                case rel => exact ⟨j + 1, hlt, by go_num, by rw [HE1.out, HL1.out, HFG.out]; go_num, by rw [HE1.out, HL2.out, HFH.out]; go_num, A7, c7, by rw [HE1.out, HL3.out]; rfl, by rw [HE1.out, HL3.out]; exact O7.out, bel_call HBW.out B7.out, bel_call HB2W.out B7.out⟩
                case measure => simp [intOf]; omega
              · have hF1 : ((F : Int) == 0) = false := by rw [beq_eq_false_iff_ne]; omega
                go_wp2_with fail
                go_roundw
                case rel => exact ⟨j + 1, hlt, by go_num, by rw [HE1.out, HL1.out, HFG.out]; go_num, by rw [HE1.out, HL2.out, HFH.out]; go_num, A1, c1, by rw [HE1.out, HL3.out, if_neg hF0], by rw [HE1.out, HL3.out, if_neg hF0]; exact HO1.out.keep B7.out, bel_call HBW.out B7.out, bel_call HB2W.out B7.out⟩
                case measure => simp [intOf]; omega
        · obtain rfl : j = N.length := by omega
          go_wp2_with fail
          go_ret3
          rw [HWL.out]
          rw [List.take_length] at HO1 ⊢
          exact ⟨A1, c1, rfl, HO1.out, HBW.out⟩

end Go.Proofs.Ytjghodfdejdjoaa
