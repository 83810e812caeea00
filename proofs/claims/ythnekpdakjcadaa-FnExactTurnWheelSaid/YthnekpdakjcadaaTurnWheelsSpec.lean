/- Codes behind turns, as the model makes them, and one turn alone. No conditions. -/
import Derived.Test.YthnekpdakjcadaaTurnWheels
namespace Go.Proofs.Ythnekpdakjcadaa
open Go.ChangeShapes Go.WideShapes Go.ChangeAt Go.RowKit Go.Joins

theorem textOf_dg {s : ByteArray} (h : ∀ k (hk : k < s.size), 48 ≤ (s[k].toNat : Int)) : textOf (dg s) = s := by
  have hl : (textOf (dg s)).data.toList = s.data.toList := by
    unfold textOf dg
    rw [strOfNums_data, List.map_map, List.map_map]
    refine (List.map_congr_left (fun c hc => ?_)).trans (List.map_id _)
    show UInt8.ofNat (48 + ((c.toNat : Int) - 48)).toNat = c
    rw [show (48 + ((c.toNat : Int) - 48)).toNat = c.toNat by omega]
    exact UInt8.ofNat_toNat
  have hd : (textOf (dg s)).data = s.data := Array.toList_inj.1 hl
  generalize textOf (dg s) = u at hd
  cases u; cases s; simp at hd; rw [hd]

theorem ask_text {a b : Int} {s : ByteArray} (h : Asked a b s) : textOf (dg s) = s := textOf_dg fun _ hk => (digits_at h.digits hk).1

set_option maxHeartbeats 1000000 in
theorem specTurnWheels_any (a b : Int) (s : ByteArray) (ts : List (Int × Int)) (n g c : Nat) (w : World) (hs : s.size ≤ maxLen) (hl : ts.length = n) (hm : n ≤ 1048576) (hC : Cells w g (n * 2) (turnF ts)) :
    Calls Try.prog 28 #[.agg #[.int .i64 a, .int .i64 b], .string s, .slice (some ⟨g, 0, none⟩) n c] w fun e w' => e = .returned (.tuple #[.string (twZ a b s ts), .bool (okT a b s ts)]) ∧ Below w.heap.size w w' := by
  have HS := Lib.hid hs
  have HL := Lib.hid hl
  have HC := Lib.hid hC
  clear hs hl hC
  by_cases hg : askB a b s = true
  · have HG := Lib.hid hg
    have HA := Lib.hid (asked hg)
    obtain ⟨n6, n1, b2, b10⟩ : s.size ≤ 6 ∧ 1 ≤ s.size ∧ 2 ≤ b ∧ b ≤ 10 := ⟨HA.out.n6, HA.out.n1, HA.out.b2, HA.out.b10⟩
    have ha := HA.out.size
    have ha0 : 0 ≤ a := by omega
    have ha6 : a ≤ 6 := by omega
    clear ha
    by_cases ht : turnsB a ts = true
    · have HT := Lib.hid ht
      have HO : Hid (okT a b s ts = true) := Lib.hid (by unfold okT; rw [hg, ht]; rfl)
      have hm2 : n ≤ 200 := by rw [← HL.out]; exact turns_few ht
      clear hg ht
      go_enter Try.func28, Try.ntmps28
      go_wp2_with (first | (go_at_call 55; refine (whAsked_any _ _ _ _ HS.out).mono ?_; rw [HG.out]; rintro e w1 ⟨rfl, hb⟩; obtain ⟨hc, hf, hz⟩ := bcell hb; have hz0 : w.heap.size < w1.heap.size := by (try simp at hz); omega))
      have HC1 := Lib.hid ((HC.out.alloc _).call hb)
      have l0 : w1.cell? ⟨w.heap.size, 0, none⟩ = some (.int .i64 a) := by rw [hc _ _ (by simp)]; simp
      have l1 : w1.cell? ⟨w.heap.size, 1, none⟩ = some (.int .i64 b) := by rw [hc _ _ (by simp)]; simp
      have hB : Below w.heap.size w w1 := by (repeat (first | assumption | exact Below.refl _ _ | (refine Below.alloc ?_ (by first | omega | (simp; done) | (simp; omega)) _) | (refine Below.setCell ?_ (by first | omega | (simp; done) | (simp; omega)) _) | refine bel_drewN ?_ _ | refine bel_drew ?_ | (refine bel_call ?_ (by assumption))))
      clear hc hf hz hb
      refine (whTurns_any _ _ ts _ _ _ _ HL.out hm ha0 ha6 HC1.out).mono ?_
      rw [HT.out]
      rintro e w2 ⟨rfl, hb2⟩
      have hB2 : Below w.heap.size w w2 := bel_call hB hb2
      have k0 : w2.cell? ⟨w.heap.size, 0, none⟩ = some (.int .i64 a) := by rw [hb2.cell (p := ⟨w.heap.size, 0, none⟩) hz0, l0]
      have k1 : w2.cell? ⟨w.heap.size, 1, none⟩ = some (.int .i64 b) := by rw [hb2.cell (p := ⟨w.heap.size, 1, none⟩) hz0, l1]
      have z2 : w.heap.size < w2.heap.size := Nat.lt_of_lt_of_le hz0 hb2.size
      have HC2 := Lib.hid (HC1.out.call hb2)
      have HS0 := Lib.hid (ask_text HA.out)
      clear l0 l1 hB hb2
      go_wp2_with fail
      go_loopw [1, 22] (fun v i wr => ∃ k : Nat, k ≤ n ∧ i = .int .i64 k ∧ v = .string (textOf (foldD b (dg s) (ts.take k))) ∧ Cells wr g (n * 2) (turnF ts) ∧ wr.cell? ⟨w.heap.size, 0, none⟩ = some (.int .i64 a) ∧ wr.cell? ⟨w.heap.size, 1, none⟩ = some (.int .i64 b) ∧ w.heap.size < wr.heap.size ∧ Below w.heap.size w wr) (fun _ i _ => n - (intOf i).toNat)
      case atStart => exact ⟨0, by omega, rfl, by rw [List.take_zero]; show Value.string s = .string (textOf (dg s)); rw [HS0.out], HC2.out, k0, k1, z2, hB2⟩
      case round =>
        clear k0 k1 z2 hB2
        obtain ⟨k, hk, rfl, rfl, hCr, q0, q1, z3, hB⟩ := hrel
        have HR := Lib.hid hCr
        clear hCr
        have HGd := Lib.hid (foldD_good (Good.of HA.out) b2 HT.out k (by rw [HL.out]; exact hk))
        by_cases hlt : k < n
        · have o0 : wr.cell? ⟨g, k * 2, none⟩ = some (.int .i64 (ts.getD k (0, 0)).1) := by rw [← turnF_0]; exact HR.out.cell (by omega)
          have o1 : wr.cell? ⟨g, k * 2 + 1, none⟩ = some (.int .i64 (ts.getD k (0, 0)).2) := by rw [← turnF_1]; exact HR.out.cell (by omega)
          have HSn := Lib.hid (foldD_snoc b (dg s) (show k < ts.length by rw [HL.out]; exact hlt))
          have HTu := Lib.hid (turns_all HT.out (show k < ts.length by rw [HL.out]; exact hlt))
          have HK := Lib.hid (ask_of HA.out.good HGd.out)
          have HDT := Lib.hid (dg_textOf (HGd.out.digits b10))
          generalize (ts.getD k (0, 0)).1 = x at o0 HSn HTu
          generalize (ts.getD k (0, 0)).2 = y at o1 HSn HTu
          generalize foldD b (dg s) (ts.take k) = ds at HSn HGd HK HDT
          go_wp2_with (go_at_call 57; refine (whMake_any _ _ _ _ _ _ HK.out HTu.out).mono ?_; rw [HDT.out]; rintro e w4 ⟨rfl, hb4⟩)
          have hW : Below wr.heap.size wr w4 := by
            clear hB
            (repeat (first | assumption | exact Below.refl _ _ | (refine Below.alloc ?_ (by first | omega | (simp; done) | (simp; omega)) _) | (refine Below.setCell ?_ (by first | omega | (simp; done) | (simp; omega)) _) | refine bel_drewN ?_ _ | refine bel_drew ?_ | (refine bel_call ?_ (by assumption))))
          have HW := Lib.hid hW
          clear hW hb4
          go_roundw
          case rel => exact ⟨k + 1, by omega, by go_num, by rw [HSn.out], HR.out.call HW.out, by rw [HW.out.cell (p := ⟨w.heap.size, 0, none⟩) z3, q0], by rw [HW.out.cell (p := ⟨w.heap.size, 1, none⟩) z3, q1], Nat.lt_of_lt_of_le z3 HW.out.size, bel_call hB HW.out⟩
          case measure => simp [intOf]; omega
        · go_wp2_with fail
          go_ret2
          refine ⟨?_, hB⟩
          rw [HO.out, twZ_yes HO.out, List.take_of_length_le (by rw [HL.out]; omega)]
          rfl
    · have HT := Lib.hid (Bool.eq_false_iff.2 ht)
      have HO : Hid (okT a b s ts = false) := Lib.hid (by unfold okT; rw [hg, HT.out]; rfl)
      clear hg ht
      go_enter Try.func28, Try.ntmps28
      go_wp2_with (first | (go_at_call 55; refine (whAsked_any _ _ _ _ HS.out).mono ?_; rw [HG.out]; rintro e w1 ⟨rfl, hb⟩; obtain ⟨hc, hf, hz⟩ := bcell hb; have hz0 : w.heap.size < w1.heap.size := by (try simp at hz); omega))
      have HC1 := Lib.hid ((HC.out.alloc _).call hb)
      have hB : Below w.heap.size w w1 := by (repeat (first | assumption | exact Below.refl _ _ | (refine Below.alloc ?_ (by first | omega | (simp; done) | (simp; omega)) _) | (refine Below.setCell ?_ (by first | omega | (simp; done) | (simp; omega)) _) | refine bel_drewN ?_ _ | refine bel_drew ?_ | (refine bel_call ?_ (by assumption))))
      clear hc hf hz hb
      refine (whTurns_any _ _ ts _ _ _ _ HL.out hm ha0 ha6 HC1.out).mono ?_
      rw [HT.out]
      rintro e w2 ⟨rfl, hb2⟩
      go_wp2_with fail
      go_ret2
      exact ⟨by rw [HO.out, twZ_no HO.out]; rfl, bel_call hB hb2⟩
  · have HG := Lib.hid (Bool.eq_false_iff.2 hg)
    have HO : Hid (okT a b s ts = false) := Lib.hid (by unfold okT; rw [HG.out]; rfl)
    clear hg
    go_enter Try.func28, Try.ntmps28
    go_wp2_with (first | (go_at_call 55; refine (whAsked_any _ _ _ _ HS.out).mono ?_; rw [HG.out]; rintro e w1 ⟨rfl, hb⟩; obtain ⟨hc, hf, hz⟩ := bcell hb; have hz0 : w.heap.size < w1.heap.size := by (try simp at hz); omega))
    go_ret2
    refine ⟨by rw [HO.out, twZ_no HO.out]; rfl, ?_⟩
    (repeat (first | assumption | exact Below.refl _ _ | (refine Below.alloc ?_ (by first | omega | (simp; done) | (simp; omega)) _) | (refine Below.setCell ?_ (by first | omega | (simp; done) | (simp; omega)) _) | refine bel_drewN ?_ _ | refine bel_drew ?_ | (refine bel_call ?_ (by assumption))))

theorem turns_one (a x y : Int) : turnsB a [(x, y)] = turnB a x y := by unfold turnsB; simp

theorem specTurnWheel_any (a b x y : Int) (s : ByteArray) (w : World) (hs : s.size ≤ maxLen) :
    Calls Try.prog 24 #[.agg #[.int .i64 a, .int .i64 b], .string s, .agg #[.int .i64 x, .int .i64 y]] w fun e w' => e = .returned (.tuple #[.string (twZ a b s [(x, y)]), .bool (okT a b s [(x, y)])]) ∧ Below w.heap.size w w' := by
  have HS := Lib.hid hs
  clear hs
  by_cases hg : askB a b s = true
  · have HG := Lib.hid hg
    have HA := Lib.hid (asked hg)
    obtain ⟨n6, n1⟩ : s.size ≤ 6 ∧ 1 ≤ s.size := ⟨HA.out.n6, HA.out.n1⟩
    have ha := HA.out.size
    have ha0 : 0 ≤ a := by omega
    have ha6 : a ≤ 6 := by omega
    clear ha
    by_cases ht : turnB a x y = true
    · have HT := Lib.hid ht
      have HO : Hid (okT a b s [(x, y)] = true) := Lib.hid (by unfold okT; rw [hg, turns_one, ht]; rfl)
      clear hg ht
      go_enter Try.func24, Try.ntmps24
      go_wp2_with (first | (go_at_call 55; refine (whAsked_any _ _ _ _ HS.out).mono ?_; rw [HG.out]; rintro e w1 ⟨rfl, hb⟩; obtain ⟨hc, hf, hz⟩ := bcell hb; have hz0 : w.heap.size < w1.heap.size := (by (try simp at hz); omega); have hz1 : w.heap.size + 1 < w1.heap.size := (by (try simp at hz); omega)) | (go_at_call 56; refine (whTurn_any _ _ _ _ _ ⟨ha0, ha6⟩).mono ?_; rw [HT.out]; rintro e w1 ⟨rfl, hb⟩; obtain ⟨hc, hf, hz⟩ := bcell hb; have hz0 : w.heap.size < w1.heap.size := (by (try simp at hz); omega); have hz1 : w.heap.size + 1 < w1.heap.size := (by (try simp at hz); omega)) | (go_at_call 57; refine (whMake_any _ _ _ _ _ _ HG.out HT.out).mono ?_; rintro e w4 ⟨rfl, hb4⟩))
      go_ret2
      refine ⟨by rw [HO.out, twZ_yes HO.out]; rfl, ?_⟩
      (repeat (first | assumption | exact Below.refl _ _ | (refine Below.alloc ?_ (by first | omega | (simp; done) | (simp; omega)) _) | (refine Below.setCell ?_ (by first | omega | (simp; done) | (simp; omega)) _) | refine bel_drewN ?_ _ | refine bel_drew ?_ | (refine bel_call ?_ (by assumption))))
    · have HT := Lib.hid (Bool.eq_false_iff.2 ht)
      have HO : Hid (okT a b s [(x, y)] = false) := Lib.hid (by unfold okT; rw [hg, turns_one, HT.out]; rfl)
      clear hg ht
      go_enter Try.func24, Try.ntmps24
      go_wp2_with (first | (go_at_call 55; refine (whAsked_any _ _ _ _ HS.out).mono ?_; rw [HG.out]; rintro e w1 ⟨rfl, hb⟩; obtain ⟨hc, hf, hz⟩ := bcell hb; have hz0 : w.heap.size < w1.heap.size := (by (try simp at hz); omega); have hz1 : w.heap.size + 1 < w1.heap.size := (by (try simp at hz); omega)) | (go_at_call 56; refine (whTurn_any _ _ _ _ _ ⟨ha0, ha6⟩).mono ?_; rw [HT.out]; rintro e w1 ⟨rfl, hb⟩; obtain ⟨hc, hf, hz⟩ := bcell hb; have hz0 : w.heap.size < w1.heap.size := (by (try simp at hz); omega); have hz1 : w.heap.size + 1 < w1.heap.size := (by (try simp at hz); omega)))
      go_ret2
      refine ⟨by rw [HO.out, twZ_no HO.out]; rfl, ?_⟩
      (repeat (first | assumption | exact Below.refl _ _ | (refine Below.alloc ?_ (by first | omega | (simp; done) | (simp; omega)) _) | (refine Below.setCell ?_ (by first | omega | (simp; done) | (simp; omega)) _) | refine bel_drewN ?_ _ | refine bel_drew ?_ | (refine bel_call ?_ (by assumption))))
  · have HG := Lib.hid (Bool.eq_false_iff.2 hg)
    have HO : Hid (okT a b s [(x, y)] = false) := Lib.hid (by unfold okT; rw [HG.out]; rfl)
    clear hg
    go_enter Try.func24, Try.ntmps24
    go_wp2_with (first | (go_at_call 55; refine (whAsked_any _ _ _ _ HS.out).mono ?_; rw [HG.out]; rintro e w1 ⟨rfl, hb⟩; obtain ⟨hc, hf, hz⟩ := bcell hb; have hz0 : w.heap.size < w1.heap.size := (by (try simp at hz); omega); have hz1 : w.heap.size + 1 < w1.heap.size := (by (try simp at hz); omega)))
    go_ret2
    refine ⟨by rw [HO.out, twZ_no HO.out]; rfl, ?_⟩
    (repeat (first | assumption | exact Below.refl _ _ | (refine Below.alloc ?_ (by first | omega | (simp; done) | (simp; omega)) _) | (refine Below.setCell ?_ (by first | omega | (simp; done) | (simp; omega)) _) | refine bel_drewN ?_ _ | refine bel_drew ?_ | (refine bel_call ?_ (by assumption))))

theorem one_turn (x y : Int) (w : World) : Cells (w.alloc (.cells #[.int .i64 x, .int .i64 y] 38)) w.heap.size (1 * 2) (turnF [(x, y)]) :=
  ⟨by simp, fun j hj => by
    rw [World.cell?_alloc_new, World.frozen?_alloc_new]
    refine ⟨?_, rfl⟩
    have h : j = 0 ∨ j = 1 := by omega
    rcases h with rfl | rfl <;> rfl⟩

theorem one_turn_at (x y : Int) (w : World) {g : Nat} (hg : g = w.heap.size) : Cells (w.alloc (.cells #[.int .i64 x, .int .i64 y] 38)) g (1 * 2) (turnF [(x, y)]) := by
  subst hg; exact one_turn x y w

theorem turnWheels_one (a b x y : Int) (s : ByteArray) (g c : Nat) (w : World) (hs : s.size ≤ maxLen) (hC : Cells w g (1 * 2) (turnF [(x, y)])) :
    Calls Try.prog 30 #[.agg #[.int .i64 a, .int .i64 b], .string s, .slice (some ⟨g, 0, none⟩) 1 c] w fun e w' => e = .returned (.tuple #[.string (twZ a b s [(x, y)]), .bool (okT a b s [(x, y)])]) ∧ Below w.heap.size w w' :=
  turnWheels_any a b s [(x, y)] 1 g c w hs rfl (by omega) hC

theorem turnWheel_any (a b x y : Int) (s : ByteArray) (w : World) (hs : s.size ≤ maxLen) :
    Calls Try.prog 26 #[.agg #[.int .i64 a, .int .i64 b], .string s, .agg #[.int .i64 x, .int .i64 y]] w fun e w' => e = .returned (.tuple #[.string (twZ a b s [(x, y)]), .bool (okT a b s [(x, y)])]) ∧ Below w.heap.size w w' := by
  have HS := Lib.hid hs
  clear hs
  go_enter Try.func26, Try.ntmps26
  go_wp2_with (go_at_call 30; refine (turnWheels_one _ _ _ _ _ _ _ _ HS.out (one_turn_at _ _ _ (by simp))).mono ?_; rintro e w1 ⟨rfl, hb⟩)
  go_ret2
  refine ⟨rfl, ?_⟩
  (repeat (first | assumption | exact Below.refl _ _ | (refine Below.alloc ?_ (by first | omega | (simp; done) | (simp; omega)) _) | (refine Below.setCell ?_ (by first | omega | (simp; done) | (simp; omega)) _) | refine bel_drewN ?_ _ | refine bel_drew ?_ | (refine bel_call ?_ (by assumption))))

end Go.Proofs.Ythnekpdakjcadaa
