/- Which lists of hints are hints of a lock, as both programs ask it. No conditions. -/
import Derived.Test.YtfgogiafimiibaaHn
namespace Go.Proofs.Ytfgogiafimiibaa
open Go.ChangeShapes Go.WideShapes Go.ChangeAt Go.RowKit Go.Joins Go.Deep

/-- Places and others that can be. -/
def toldB (a x y : Int) : Bool := inB x 0 a && inB y 0 (a - x)

/-- One hint is one of the lock. -/
def hintB (a b : Int) (h : Hnt) : Bool := isCodeB a b h.1 && toldB a h.2.1 h.2.2

/-- All are, and they are not too many. -/
def hintsB (a b : Int) (hs : List Hnt) : Bool := decide (hs.length ≤ 10) && hs.all (hintB a b)

theorem hiTold_any (a b x y : Int) (w : World) (ha0 : 0 ≤ a) (ha6 : a ≤ 6) :
    Calls Try.prog 95 #[.agg #[.int .i64 a, .int .i64 b], .int .i64 x, .int .i64 y] w fun e w' => e = .returned (.bool (toldB a x y)) ∧ Below w.heap.size w w' := by
  by_cases h : inB x 0 a = true
  · have hx : 0 ≤ x ∧ x ≤ a := by unfold inB at h; simpa using h
    obtain ⟨x0, xa⟩ := hx
    have HH := Lib.hid h
    clear h
    go_enter Try.func95, Try.ntmps95
    go_wp2_with (go_at_call 100; refine (l1In_any _ _ _ _).mono ?_; rintro e w1 ⟨rfl, rfl⟩; (try rw [HH.out]))
    go_ret
    refine ⟨ret_bool (by unfold toldB; rw [HH.out]; rfl), ?_⟩
    (repeat (first | assumption | exact Below.refl _ _ | (refine Below.alloc ?_ (by first | omega | (simp; done) | (simp; omega)) _) | (refine Below.setCell ?_ (by first | omega | (simp; done) | (simp; omega)) _) | refine bel_drewN ?_ _ | refine bel_drew ?_ | (refine bel_call ?_ (by assumption))))
  · have HH := Lib.hid (Bool.eq_false_iff.2 h)
    clear h
    go_enter Try.func95, Try.ntmps95
    go_wp2_with (go_at_call 100; refine (l1In_any _ _ _ _).mono ?_; rintro e w1 ⟨rfl, rfl⟩; rw [HH.out])
    go_ret
    refine ⟨ret_bool (by unfold toldB; rw [HH.out]; rfl), ?_⟩
    (repeat (first | assumption | exact Below.refl _ _ | (refine Below.alloc ?_ (by first | omega | (simp; done) | (simp; omega)) _) | (refine Below.setCell ?_ (by first | omega | (simp; done) | (simp; omega)) _) | refine bel_drewN ?_ _ | refine bel_drew ?_ | (refine bel_call ?_ (by assumption))))

set_option maxHeartbeats 2000000 in
theorem hiGood_any (a b : Int) (A : Option Addr) (n c : Nat) (hs : List Hnt) (w : World) (hn : n ≤ maxLen) (hg : goodB a b = true) (hA : ArgH w A n hs) :
    Calls Try.prog 70 #[.agg #[.int .i64 a, .int .i64 b], .slice A n c] w fun e w' => e = .returned (.bool (hintsB a b hs)) ∧ Below w.heap.size w w' := by
  unfold maxLen at hn
  have HL := Lib.hid hA.len
  have HG := Lib.hid hg
  obtain ⟨h1, a6, h3, h4⟩ := good_yes hg
  have a0 : 0 ≤ a := by omega
  clear hg
  by_cases h10 : n ≤ 10
  case neg =>
    have HV : Hid (hintsB a b hs = false) := Lib.hid (by unfold hintsB; rw [HL.out, decide_eq_false h10]; rfl)
    clear hA
    go_enter Try.func70, Try.ntmps70
    go_wp2_with fail
    go_ret
    refine ⟨ret_bool (by rw [HV.out]), ?_⟩
    (repeat (first | assumption | exact Below.refl _ _ | (refine Below.alloc ?_ (by first | omega | (simp; done) | (simp; omega)) _) | (refine Below.setCell ?_ (by first | omega | (simp; done) | (simp; omega)) _) | refine bel_drewN ?_ _ | refine bel_drew ?_ | (refine bel_call ?_ (by assumption))))
  rcases hA.at_ with h0 | ⟨B, off, rfl, hb, hc⟩
  · subst h0
    have HV : Hid (hintsB a b hs = true) := Lib.hid (by rw [List.length_eq_zero_iff.1 HL.out]; rfl)
    clear hA
    go_enter Try.func70, Try.ntmps70
    go_wp2_with fail
    go_loop [12] (fun i => i = .int .i64 0) (fun _ => 0)
    case atStart => rfl
    case round =>
      obtain rfl := hrel
      go_wp2_with fail
      go_ret
      refine ⟨ret_bool (by rw [HV.out]), ?_⟩
      (repeat (first | assumption | exact Below.refl _ _ | (refine Below.alloc ?_ (by first | omega | (simp; done) | (simp; omega)) _) | (refine Below.setCell ?_ (by first | omega | (simp; done) | (simp; omega)) _) | refine bel_drewN ?_ _ | refine bel_drew ?_ | (refine bel_call ?_ (by assumption))))
  · have HC := Lib.hid hc
    have HZ := Lib.hid hA.sz
    have HW1 := Lib.hid hA.wf1
    have HW2 := Lib.hid hA.wf2
    clear hc hA
    go_enter Try.func70, Try.ntmps70
    go_wp2_with fail
    go_loopw [12] (fun i wr => ∃ k : Nat, k ≤ n ∧ i = .int .i64 k ∧ (hs.take k).all (hintB a b) = true ∧ wr.cell? ⟨w.heap.size, 0, none⟩ = some (.int .i64 a) ∧ wr.cell? ⟨w.heap.size, 1, none⟩ = some (.int .i64 b) ∧ w.heap.size < wr.heap.size ∧ Below w.heap.size w wr) (fun i _ => n - (intOf i).toNat)
    case atStart => exact ⟨0, by omega, rfl, rfl, by simp, by simp, by simp, by (repeat (first | assumption | exact Below.refl _ _ | (refine Below.alloc ?_ (by first | omega | (simp; done) | (simp; omega)) _) | (refine Below.setCell ?_ (by first | omega | (simp; done) | (simp; omega)) _) | refine bel_drewN ?_ _ | refine bel_drew ?_ | (refine bel_call ?_ (by assumption))))⟩
    case round =>
      obtain ⟨k, hk, rfl, hall, l0, l1, z4, hB⟩ := hrel
      have HAL := Lib.hid hall
      clear hall
      by_cases hlt : k < n
      · have o0 : wr.cell? ⟨B, off + k * 3, none⟩ = some (.string (hs.getD k hn0).1) := by rw [hB.cell (p := ⟨B, off + k * 3, none⟩) hb]; exact (HC.out k hlt).1
        have o1 : wr.cell? ⟨B, off + k * 3 + 1, none⟩ = some (.int .i64 (hs.getD k hn0).2.1) := by rw [hB.cell (p := ⟨B, off + k * 3 + 1, none⟩) hb]; exact (HC.out k hlt).2.1
        have o2 : wr.cell? ⟨B, off + k * 3 + 2, none⟩ = some (.int .i64 (hs.getD k hn0).2.2) := by rw [hB.cell (p := ⟨B, off + k * 3 + 2, none⟩) hb]; exact (HC.out k hlt).2.2
        have hsz := HZ.out k hlt
        have hw1 := bd_i64 (HW1.out k hlt)
        have hw2 := bd_i64 (HW2.out k hlt)
        have HF1 : Hid (hintB a b (hs.getD k hn0) = true → (hs.take (k + 1)).all (hintB a b) = true) := Lib.hid (hAll_snoc (by rw [HL.out]; exact hlt) HAL.out)
        have HF0 : Hid (hintB a b (hs.getD k hn0) = false → hintsB a b hs = false) := Lib.hid (fun h => by unfold hintsB; rw [hAll_not (by rw [HL.out]; exact hlt) h, Bool.and_false])
        obtain ⟨h, hh⟩ : ∃ h, h = hs.getD k hn0 := ⟨_, rfl⟩
        rw [← hh] at o0 o1 o2 hsz hw1 hw2 HF1 HF0
        clear hh
        obtain ⟨s, x, y⟩ := h
        dsimp only at o0 o1 o2 hsz hw1 hw2
        have HS := Lib.hid hsz
        clear hsz
        obtain ⟨x1, x2⟩ := hw1
        obtain ⟨y1, y2⟩ := hw2
        by_cases hco : isCodeB a b s = true
        case neg =>
          have HCO := Lib.hid (Bool.eq_false_iff.2 hco)
          have HN := Lib.hid (HF0.out (by unfold hintB; rw [HCO.out]; rfl))
          clear hco
          go_wp2_with (go_at_call 64; refine (whCode_any _ _ _ _ HS.out HG.out).mono ?_; rw [HCO.out]; rintro e w1 ⟨rfl, hb1⟩; obtain ⟨hc1, hf1, hz1⟩ := bcell hb1; (try simp at hz1))
          have hW : Below wr.heap.size wr w1 := by
            clear hB
            (repeat (first | assumption | exact Below.refl _ _ | (refine Below.alloc ?_ (by first | omega | (simp; done) | (simp; omega)) _) | (refine Below.setCell ?_ (by first | omega | (simp; done) | (simp; omega)) _) | refine bel_drewN ?_ _ | refine bel_drew ?_ | (refine bel_call ?_ (by assumption))))
          go_ret
          exact ⟨ret_bool HN.out.symm, bel_call hB hW⟩
        have HCO := Lib.hid hco
        clear hco
        by_cases hto : toldB a x y = true
        · have HTO := Lib.hid hto
          have HN := Lib.hid (HF1.out (by unfold hintB; rw [HCO.out]; exact hto))
          clear hto
          go_wp2_with (first | (go_at_call 64; refine (whCode_any _ _ _ _ HS.out HG.out).mono ?_; rw [HCO.out]; rintro e w1 ⟨rfl, hb1⟩; obtain ⟨hc1, hf1, hz1⟩ := bcell hb1; (try simp at hz1)) | (go_at_call 95; refine (hiTold_any _ _ _ _ _ a0 a6).mono ?_; rw [HTO.out]; rintro e w2 ⟨rfl, hb2⟩; obtain ⟨hc2, hf2, hz2⟩ := bcell hb2))
          have hW : Below wr.heap.size wr w2 := by
            clear hB
            (repeat (first | assumption | exact Below.refl _ _ | (refine Below.alloc ?_ (by first | omega | (simp; done) | (simp; omega)) _) | (refine Below.setCell ?_ (by first | omega | (simp; done) | (simp; omega)) _) | refine bel_drewN ?_ _ | refine bel_drew ?_ | (refine bel_call ?_ (by assumption))))
          have HW := Lib.hid hW
          clear hW
          go_roundw
          case rel => exact ⟨k + 1, by omega, by go_num, HN.out, by rw [HW.out.cell (p := ⟨w.heap.size, 0, none⟩) z4, l0], by rw [HW.out.cell (p := ⟨w.heap.size, 1, none⟩) z4, l1], Nat.lt_of_lt_of_le z4 HW.out.size, bel_call hB HW.out⟩
          case measure => simp [intOf]; omega
        · have HTO := Lib.hid (Bool.eq_false_iff.2 hto)
          have HN := Lib.hid (HF0.out (by unfold hintB; rw [HCO.out]; exact HTO.out))
          clear hto
          go_wp2_with (first | (go_at_call 64; refine (whCode_any _ _ _ _ HS.out HG.out).mono ?_; rw [HCO.out]; rintro e w1 ⟨rfl, hb1⟩; obtain ⟨hc1, hf1, hz1⟩ := bcell hb1; (try simp at hz1)) | (go_at_call 95; refine (hiTold_any _ _ _ _ _ a0 a6).mono ?_; rw [HTO.out]; rintro e w2 ⟨rfl, hb2⟩; obtain ⟨hc2, hf2, hz2⟩ := bcell hb2))
          have hW : Below wr.heap.size wr w2 := by
            clear hB
            (repeat (first | assumption | exact Below.refl _ _ | (refine Below.alloc ?_ (by first | omega | (simp; done) | (simp; omega)) _) | (refine Below.setCell ?_ (by first | omega | (simp; done) | (simp; omega)) _) | refine bel_drewN ?_ _ | refine bel_drew ?_ | (refine bel_call ?_ (by assumption))))
          go_ret
          exact ⟨ret_bool HN.out.symm, bel_call hB hW⟩
      · go_wp2_with fail
        go_ret
        exact ⟨ret_bool (by unfold hintsB; rw [hAll_end (by rw [HL.out]; omega) HAL.out, HL.out, decide_eq_true h10]; rfl), hB⟩

set_option maxHeartbeats 2000000 in
theorem hasHints_any (a b : Int) (A : Option Addr) (n c : Nat) (hs : List Hnt) (w : World) (hn : n ≤ maxLen) (hA : ArgH w A n hs) :
    Calls Try.prog 72 #[.agg #[.int .i64 a, .int .i64 b], .slice A n c] w fun e w' => e = .returned (.bool (searchB a b && hintsB a b hs)) ∧ Below w.heap.size w w' := by
  unfold maxLen at hn
  have HL := Lib.hid hA.len
  by_cases hse : searchB a b = true
  case neg =>
    have HSE := Lib.hid (Bool.eq_false_iff.2 hse)
    clear hA hse
    go_enter Try.func72, Try.ntmps72
    go_wp2_with (go_at_call 66; refine (isSearched_any _ _ _).mono ?_; rw [HSE.out]; rintro e w0 ⟨rfl, hb0⟩; obtain ⟨hc0, hf0, hz0⟩ := bcell hb0; (try simp at hz0))
    go_ret
    refine ⟨ret_bool (by rw [HSE.out]; rfl), ?_⟩
    (repeat (first | assumption | exact Below.refl _ _ | (refine Below.alloc ?_ (by first | omega | (simp; done) | (simp; omega)) _) | (refine Below.setCell ?_ (by first | omega | (simp; done) | (simp; omega)) _) | refine bel_drewN ?_ _ | refine bel_drew ?_ | (refine bel_call ?_ (by assumption))))
  have hg := (searchB_good hse).1
  have HSE := Lib.hid hse
  clear hse
  have HG := Lib.hid hg
  obtain ⟨h1, a6, h3, h4⟩ := good_yes hg
  have a0 : 0 ≤ a := by omega
  clear hg
  by_cases h10 : n ≤ 10
  case neg =>
    have HV : Hid (hintsB a b hs = false) := Lib.hid (by unfold hintsB; rw [HL.out, decide_eq_false h10]; rfl)
    clear hA
    go_enter Try.func72, Try.ntmps72
    go_wp2_with (go_at_call 66; refine (isSearched_any _ _ _).mono ?_; rw [HSE.out]; rintro e w0 ⟨rfl, hb0⟩; obtain ⟨hc0, hf0, hz0⟩ := bcell hb0; (try simp at hz0))
    go_ret
    refine ⟨ret_bool (by rw [HV.out, Bool.and_false]), ?_⟩
    (repeat (first | assumption | exact Below.refl _ _ | (refine Below.alloc ?_ (by first | omega | (simp; done) | (simp; omega)) _) | (refine Below.setCell ?_ (by first | omega | (simp; done) | (simp; omega)) _) | refine bel_drewN ?_ _ | refine bel_drew ?_ | (refine bel_call ?_ (by assumption))))
  rcases hA.at_ with h0 | ⟨B, off, rfl, hb, hc⟩
  · subst h0
    have HV : Hid (hintsB a b hs = true) := Lib.hid (by rw [List.length_eq_zero_iff.1 HL.out]; rfl)
    clear hA
    go_enter Try.func72, Try.ntmps72
    go_wp2_with (go_at_call 66; refine (isSearched_any _ _ _).mono ?_; rw [HSE.out]; rintro e w0 ⟨rfl, hb0⟩; obtain ⟨hc0, hf0, hz0⟩ := bcell hb0; (try simp at hz0))
    go_loop [17] (fun i => i = .int .i64 0) (fun _ => 0)
    case atStart => rfl
    case round =>
      obtain rfl := hrel
      go_wp2_with fail
      go_ret
      refine ⟨ret_bool (by rw [HV.out, HSE.out]; rfl), ?_⟩
      (repeat (first | assumption | exact Below.refl _ _ | (refine Below.alloc ?_ (by first | omega | (simp; done) | (simp; omega)) _) | (refine Below.setCell ?_ (by first | omega | (simp; done) | (simp; omega)) _) | refine bel_drewN ?_ _ | refine bel_drew ?_ | (refine bel_call ?_ (by assumption))))
  · have HC := Lib.hid hc
    have HZ := Lib.hid hA.sz
    have HW1 := Lib.hid hA.wf1
    have HW2 := Lib.hid hA.wf2
    clear hc hA
    go_enter Try.func72, Try.ntmps72
    go_wp2_with (go_at_call 66; refine (isSearched_any _ _ _).mono ?_; rw [HSE.out]; rintro e w0 ⟨rfl, hb0⟩; obtain ⟨hc0, hf0, hz0⟩ := bcell hb0; (try simp at hz0))
    go_loopw [17] (fun i wr => ∃ k : Nat, k ≤ n ∧ i = .int .i64 k ∧ (hs.take k).all (hintB a b) = true ∧ wr.cell? ⟨w.heap.size, 0, none⟩ = some (.int .i64 a) ∧ wr.cell? ⟨w.heap.size, 1, none⟩ = some (.int .i64 b) ∧ w.heap.size < wr.heap.size ∧ Below w.heap.size w wr) (fun i _ => n - (intOf i).toNat)
    case atStart => exact ⟨0, by omega, rfl, rfl, by rw [hc0 _ _ (by simp)]; simp, by rw [hc0 _ _ (by simp)]; simp, by omega, by (repeat (first | assumption | exact Below.refl _ _ | (refine Below.alloc ?_ (by first | omega | (simp; done) | (simp; omega)) _) | (refine Below.setCell ?_ (by first | omega | (simp; done) | (simp; omega)) _) | refine bel_drewN ?_ _ | refine bel_drew ?_ | (refine bel_call ?_ (by assumption))))⟩
    case round =>
      clear hb0 hc0 hf0 hz0
      obtain ⟨k, hk, rfl, hall, l0, l1, z4, hB⟩ := hrel
      have HAL := Lib.hid hall
      clear hall
      by_cases hlt : k < n
      · have o0 : wr.cell? ⟨B, off + k * 3, none⟩ = some (.string (hs.getD k hn0).1) := by rw [hB.cell (p := ⟨B, off + k * 3, none⟩) hb]; exact (HC.out k hlt).1
        have o1 : wr.cell? ⟨B, off + k * 3 + 1, none⟩ = some (.int .i64 (hs.getD k hn0).2.1) := by rw [hB.cell (p := ⟨B, off + k * 3 + 1, none⟩) hb]; exact (HC.out k hlt).2.1
        have o2 : wr.cell? ⟨B, off + k * 3 + 2, none⟩ = some (.int .i64 (hs.getD k hn0).2.2) := by rw [hB.cell (p := ⟨B, off + k * 3 + 2, none⟩) hb]; exact (HC.out k hlt).2.2
        have hsz := HZ.out k hlt
        have hw1 := bd_i64 (HW1.out k hlt)
        have hw2 := bd_i64 (HW2.out k hlt)
        have HF1 : Hid (hintB a b (hs.getD k hn0) = true → (hs.take (k + 1)).all (hintB a b) = true) := Lib.hid (hAll_snoc (by rw [HL.out]; exact hlt) HAL.out)
        have HF0 : Hid (hintB a b (hs.getD k hn0) = false → (searchB a b && hintsB a b hs) = false) := Lib.hid (fun h => by unfold hintsB; rw [hAll_not (by rw [HL.out]; exact hlt) h, Bool.and_false, Bool.and_false])
        obtain ⟨h, hh⟩ : ∃ h, h = hs.getD k hn0 := ⟨_, rfl⟩
        rw [← hh] at o0 o1 o2 hsz hw1 hw2 HF1 HF0
        clear hh
        obtain ⟨s, x, y⟩ := h
        dsimp only at o0 o1 o2 hsz hw1 hw2
        have HS := Lib.hid hsz
        clear hsz
        obtain ⟨x1, x2⟩ := hw1
        obtain ⟨y1, y2⟩ := hw2
        by_cases hco : isCodeB a b s = true
        case neg =>
          have HCO := Lib.hid (Bool.eq_false_iff.2 hco)
          have HN := Lib.hid (HF0.out (by unfold hintB; rw [HCO.out]; rfl))
          clear hco
          go_wp2_with (go_at_call 67; refine (hasCode_any _ _ _ _ HS.out).mono ?_; rw [HG.out, HCO.out]; rintro e w1 ⟨rfl, hb1⟩; obtain ⟨hc1, hf1, hz1⟩ := bcell hb1; (try simp at hz1))
          have hW : Below wr.heap.size wr w1 := by
            clear hB
            (repeat (first | assumption | exact Below.refl _ _ | (refine Below.alloc ?_ (by first | omega | (simp; done) | (simp; omega)) _) | (refine Below.setCell ?_ (by first | omega | (simp; done) | (simp; omega)) _) | refine bel_drewN ?_ _ | refine bel_drew ?_ | (refine bel_call ?_ (by assumption))))
          go_ret
          exact ⟨ret_bool HN.out.symm, bel_call hB hW⟩
        have HCO := Lib.hid hco
        clear hco
        by_cases hq : x < 0
        case pos =>
          have HN := Lib.hid (HF0.out (by unfold hintB toldB inB; rw [HCO.out]; simp; omega))
          go_wp2_with (go_at_call 67; refine (hasCode_any _ _ _ _ HS.out).mono ?_; rw [HG.out, HCO.out]; rintro e w1 ⟨rfl, hb1⟩; obtain ⟨hc1, hf1, hz1⟩ := bcell hb1; (try simp at hz1))
          have hW : Below wr.heap.size wr w1 := by
            clear hB
            (repeat (first | assumption | exact Below.refl _ _ | (refine Below.alloc ?_ (by first | omega | (simp; done) | (simp; omega)) _) | (refine Below.setCell ?_ (by first | omega | (simp; done) | (simp; omega)) _) | refine bel_drewN ?_ _ | refine bel_drew ?_ | (refine bel_call ?_ (by assumption))))
          go_ret
          exact ⟨ret_bool HN.out.symm, bel_call hB hW⟩
        have hq1 := hq
        clear hq
        by_cases hq : y < 0
        case pos =>
          have HN := Lib.hid (HF0.out (by unfold hintB toldB inB; rw [HCO.out]; simp; omega))
          go_wp2_with (go_at_call 67; refine (hasCode_any _ _ _ _ HS.out).mono ?_; rw [HG.out, HCO.out]; rintro e w1 ⟨rfl, hb1⟩; obtain ⟨hc1, hf1, hz1⟩ := bcell hb1; (try simp at hz1))
          have hW : Below wr.heap.size wr w1 := by
            clear hB
            (repeat (first | assumption | exact Below.refl _ _ | (refine Below.alloc ?_ (by first | omega | (simp; done) | (simp; omega)) _) | (refine Below.setCell ?_ (by first | omega | (simp; done) | (simp; omega)) _) | refine bel_drewN ?_ _ | refine bel_drew ?_ | (refine bel_call ?_ (by assumption))))
          go_ret
          exact ⟨ret_bool HN.out.symm, bel_call hB hW⟩
        have hq2 := hq
        clear hq
        by_cases hq : a - y < x
        case pos =>
          have HN := Lib.hid (HF0.out (by unfold hintB toldB inB; rw [HCO.out]; simp; omega))
          go_wp2_with (go_at_call 67; refine (hasCode_any _ _ _ _ HS.out).mono ?_; rw [HG.out, HCO.out]; rintro e w1 ⟨rfl, hb1⟩; obtain ⟨hc1, hf1, hz1⟩ := bcell hb1; (try simp at hz1))
          have hW : Below wr.heap.size wr w1 := by
            clear hB
            (repeat (first | assumption | exact Below.refl _ _ | (refine Below.alloc ?_ (by first | omega | (simp; done) | (simp; omega)) _) | (refine Below.setCell ?_ (by first | omega | (simp; done) | (simp; omega)) _) | refine bel_drewN ?_ _ | refine bel_drew ?_ | (refine bel_call ?_ (by assumption))))
          go_ret
          exact ⟨ret_bool HN.out.symm, bel_call hB hW⟩
        have hq3 := hq
        clear hq
        · have HN := Lib.hid (HF1.out (by unfold hintB toldB inB; rw [HCO.out]; simp; omega))
          go_wp2_with (go_at_call 67; refine (hasCode_any _ _ _ _ HS.out).mono ?_; rw [HG.out, HCO.out]; rintro e w1 ⟨rfl, hb1⟩; obtain ⟨hc1, hf1, hz1⟩ := bcell hb1; (try simp at hz1))
          have hW : Below wr.heap.size wr w1 := by
            clear hB
            (repeat (first | assumption | exact Below.refl _ _ | (refine Below.alloc ?_ (by first | omega | (simp; done) | (simp; omega)) _) | (refine Below.setCell ?_ (by first | omega | (simp; done) | (simp; omega)) _) | refine bel_drewN ?_ _ | refine bel_drew ?_ | (refine bel_call ?_ (by assumption))))
          have HW := Lib.hid hW
          clear hW
          go_roundw
          case rel => exact ⟨k + 1, by omega, by go_num, HN.out, by rw [HW.out.cell (p := ⟨w.heap.size, 0, none⟩) z4, l0], by rw [HW.out.cell (p := ⟨w.heap.size, 1, none⟩) z4, l1], Nat.lt_of_lt_of_le z4 HW.out.size, bel_call hB HW.out⟩
          case measure => simp [intOf]; omega
      · go_wp2_with fail
        go_ret
        exact ⟨ret_bool (by unfold hintsB; rw [hAll_end (by rw [HL.out]; omega) HAL.out, HL.out, decide_eq_true h10, HSE.out]; rfl), hB⟩

end Go.Proofs.Ytfgogiafimiibaa
