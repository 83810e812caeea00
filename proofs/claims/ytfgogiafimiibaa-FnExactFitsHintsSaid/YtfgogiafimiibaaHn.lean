/- Whether a code fits hints, as both programs ask it. For hints whose guesses are codes. -/
import Derived.Test.YtfgogiafimiibaaHm
import Derived.Test.YtfgogiafimiibaaHl
namespace Go.Proofs.Ytfgogiafimiibaa
open Go.ChangeShapes Go.WideShapes Go.ChangeAt Go.RowKit Go.Joins Go.Deep

/-- The hint is that of its guess for the code. -/
def fit1 (t : ByteArray) (h : Hnt) : Bool := decide (hiP h.1 t = h.2.1) && decide (hiO h.1 t = h.2.2)

/-- All are. -/
def fitB (hs : List Hnt) (t : ByteArray) : Bool := hs.all (fit1 t)

theorem hAll_snoc {hs : List Hnt} {k : Nat} {p : Hnt → Bool} (h : k < hs.length) (ha : (hs.take k).all p = true) (hd : p (hs.getD k hn0) = true) : (hs.take (k + 1)).all p = true := by
  rw [List.take_succ_eq_append_getElem h, List.all_append, ha]
  simpa [List.getD, List.getElem?_eq_getElem h] using hd

theorem hAll_not {hs : List Hnt} {k : Nat} {p : Hnt → Bool} (h : k < hs.length) (hd : p (hs.getD k hn0) = false) : hs.all p = false := by
  rw [List.all_eq_false]
  refine ⟨hs[k], List.getElem_mem _, ?_⟩
  simpa [List.getD, List.getElem?_eq_getElem h] using hd

theorem hAll_end {hs : List Hnt} {k : Nat} {p : Hnt → Bool} (h : hs.length ≤ k) (ha : (hs.take k).all p = true) : hs.all p = true := by
  rwa [List.take_of_length_le h] at ha

theorem neq_hint (s : ByteArray) (x y u v : Int) (w : World) : (binOp .neq 77 (.agg #[.string s, .int .i64 x, .int .i64 y]) (.agg #[.string s, .int .i64 u, .int .i64 v])).run Try.prog w = .ok (.bool (!(u == x && v == y))) w := by
  have h1 : Try.prog.underlying 77 = some (.struct (Try.prog.fieldsOf 77)) := by kernel_rfl
  have h2 : Try.prog.stoodInHeld 77 = false := by kernel_rfl
  have h3 : (Try.prog.fieldsOf 77).toList.map (fun f => (f.name, f.type, f.offset)) = [("Guess", 9, 0), ("Places", 3, 1), ("Others", 3, 2)] := by kernel_rfl
  rw [run_neq_struct, run_equalIn_agg _ _ _ _ _ h1 h2]
  generalize (Try.prog.fieldsOf 77).toList = L at h3
  rcases L with _ | ⟨f, _ | ⟨g, _ | ⟨h, _ | ⟨i, t⟩⟩⟩⟩
  · simp at h3
  · simp at h3
  · simp at h3
  · simp only [List.map_cons, List.map_nil, List.cons.injEq, Prod.mk.injEq, and_true] at h3
    obtain ⟨⟨n1, t1, o1⟩, ⟨n2, t2, o2⟩, n3, t3, o3⟩ := h3
    by_cases hx : x = u <;> by_cases hy : y = v <;> simp [Op.eqFields, n1, n2, n3, t1, t2, t3, o1, o2, o3, go_sem, hx, hy] <;> omega
  · simp at h3

set_option maxHeartbeats 2000000 in
theorem hiFits_any (A : Option Addr) (n c : Nat) (hs : List Hnt) (t : ByteArray) (w : World) (hn : n ≤ maxLen) (hA : ArgH w A n hs) (hT : ∀ k, k < n → TwoD (hs.getD k hn0).1 t) :
    Calls Try.prog 75 #[.slice A n c, .string t] w fun e w' => e = .returned (.bool (fitB hs t)) ∧ Below w.heap.size w w' := by
  unfold maxLen at hn
  have HL := Lib.hid hA.len
  have HT := Lib.hid hT
  clear hT
  rcases hA.at_ with h0 | ⟨b, off, rfl, hb, hc⟩
  · subst h0
    have HV : Hid (fitB hs t = true) := Lib.hid (by rw [List.length_eq_zero_iff.1 HL.out]; rfl)
    clear hA
    go_enter Try.func75, Try.ntmps75
    go_wp2_with fail
    go_loop [11] (fun i => i = .int .i64 0) (fun _ => 0)
    case atStart => rfl
    case round =>
      obtain rfl := hrel
      go_wp2_with fail
      go_ret
      refine ⟨ret_bool HV.out.symm, ?_⟩
      (repeat (first | assumption | exact Below.refl _ _ | (refine Below.alloc ?_ (by first | omega | (simp; done) | (simp; omega)) _) | (refine Below.setCell ?_ (by first | omega | (simp; done) | (simp; omega)) _) | refine bel_drewN ?_ _ | refine bel_drew ?_ | (refine bel_call ?_ (by assumption))))
  · have HC := Lib.hid hc
    clear hc hA
    go_enter Try.func75, Try.ntmps75
    go_wp2_with fail
    go_loopw [11] (fun i wr => ∃ k : Nat, k ≤ n ∧ i = .int .i64 k ∧ (hs.take k).all (fit1 t) = true ∧ Below w.heap.size w wr) (fun i _ => n - (intOf i).toNat)
    case atStart => exact ⟨0, by omega, rfl, rfl, Below.refl _ _⟩
    case round =>
      obtain ⟨k, hk, rfl, hall, hB⟩ := hrel
      have HAL := Lib.hid hall
      clear hall
      by_cases hlt : k < n
      · have o0 : wr.cell? ⟨b, off + k * 3, none⟩ = some (.string (hs.getD k hn0).1) := by rw [hB.cell (p := ⟨b, off + k * 3, none⟩) hb]; exact (HC.out k hlt).1
        have o1 : wr.cell? ⟨b, off + k * 3 + 1, none⟩ = some (.int .i64 (hs.getD k hn0).2.1) := by rw [hB.cell (p := ⟨b, off + k * 3 + 1, none⟩) hb]; exact (HC.out k hlt).2.1
        have o2 : wr.cell? ⟨b, off + k * 3 + 2, none⟩ = some (.int .i64 (hs.getD k hn0).2.2) := by rw [hB.cell (p := ⟨b, off + k * 3 + 2, none⟩) hb]; exact (HC.out k hlt).2.2
        have HD := Lib.hid (HT.out k hlt)
        have HF1 : Hid (fit1 t (hs.getD k hn0) = true → (hs.take (k + 1)).all (fit1 t) = true) := Lib.hid (hAll_snoc (by rw [HL.out]; exact hlt) HAL.out)
        have HF0 : Hid (fit1 t (hs.getD k hn0) = false → fitB hs t = false) := Lib.hid (hAll_not (by rw [HL.out]; exact hlt))
        obtain ⟨h, hh⟩ : ∃ h, h = hs.getD k hn0 := ⟨_, rfl⟩
        rw [← hh] at o0 o1 o2 HD HF1 HF0
        clear hh
        obtain ⟨s, x, y⟩ := h
        dsimp only at o0 o1 o2
        have HDD : Hid (TwoD s t) := HD
        clear HD
        by_cases hx : hiP s t = x
        · by_cases hy : hiO s t = y
          · subst hx hy
            have HN := Lib.hid (HF1.out (by unfold fit1; simp))
            go_wp2_with (go_at_call 65; refine (hiOf_any _ _ _ HDD.out).mono ?_; rintro e w3 ⟨rfl, hb3⟩; obtain ⟨hc3, hf3, hz3⟩ := bcell hb3)
            have hW : Below wr.heap.size wr w3 := by
              clear hB
              (repeat (first | assumption | exact Below.refl _ _ | (refine Below.alloc ?_ (by first | omega | (simp; done) | (simp; omega)) _) | (refine Below.setCell ?_ (by first | omega | (simp; done) | (simp; omega)) _) | refine bel_drewN ?_ _ | refine bel_drew ?_ | (refine bel_call ?_ (by assumption))))
            have HW := Lib.hid hW
            clear hW hb3 hc3 hf3 hz3
            go_roundw
            case rel => exact ⟨k + 1, by omega, by go_num, HN.out, bel_call hB HW.out⟩
            case measure => simp [intOf]; omega
          · subst hx
            have HN := Lib.hid (HF0.out (by unfold fit1; simp [hy]))
            go_wp2_with (go_at_call 65; refine (hiOf_any _ _ _ HDD.out).mono ?_; rintro e w3 ⟨rfl, hb3⟩; obtain ⟨hc3, hf3, hz3⟩ := bcell hb3)
            have hW : Below wr.heap.size wr w3 := by
              clear hB
              (repeat (first | assumption | exact Below.refl _ _ | (refine Below.alloc ?_ (by first | omega | (simp; done) | (simp; omega)) _) | (refine Below.setCell ?_ (by first | omega | (simp; done) | (simp; omega)) _) | refine bel_drewN ?_ _ | refine bel_drew ?_ | (refine bel_call ?_ (by assumption))))
            go_ret
            exact ⟨ret_bool HN.out.symm, bel_call hB hW⟩
        · have HN := Lib.hid (HF0.out (by unfold fit1; simp [hx]))
          go_wp2_with (go_at_call 65; refine (hiOf_any _ _ _ HDD.out).mono ?_; rintro e w3 ⟨rfl, hb3⟩; obtain ⟨hc3, hf3, hz3⟩ := bcell hb3)
          have hW : Below wr.heap.size wr w3 := by
            clear hB
            (repeat (first | assumption | exact Below.refl _ _ | (refine Below.alloc ?_ (by first | omega | (simp; done) | (simp; omega)) _) | (refine Below.setCell ?_ (by first | omega | (simp; done) | (simp; omega)) _) | refine bel_drewN ?_ _ | refine bel_drew ?_ | (refine bel_call ?_ (by assumption))))
          go_ret
          exact ⟨ret_bool HN.out.symm, bel_call hB hW⟩
      · go_wp2_with fail
        go_ret
        exact ⟨ret_bool (hAll_end (by rw [HL.out]; omega) HAL.out).symm, hB⟩

set_option maxHeartbeats 2000000 in
theorem fitsAll_any (A : Option Addr) (n c : Nat) (hs : List Hnt) (t : ByteArray) (w : World) (hn : n ≤ maxLen) (hA : ArgH w A n hs) (hT : ∀ k, k < n → TwoD (hs.getD k hn0).1 t) :
    Calls Try.prog 76 #[.slice A n c, .string t] w fun e w' => e = .returned (.bool (fitB hs t)) ∧ Below w.heap.size w w' := by
  unfold maxLen at hn
  have HL := Lib.hid hA.len
  have HT := Lib.hid hT
  clear hT
  rcases hA.at_ with h0 | ⟨b, off, rfl, hb, hc⟩
  · subst h0
    have HV : Hid (fitB hs t = true) := Lib.hid (by rw [List.length_eq_zero_iff.1 HL.out]; rfl)
    clear hA
    go_enter Try.func76, Try.ntmps76
    go_wp2_with fail
    go_loop [9] (fun i => i = .int .i64 0) (fun _ => 0)
    case atStart => rfl
    case round =>
      obtain rfl := hrel
      go_wp2_with fail
      go_ret
      refine ⟨ret_bool HV.out.symm, ?_⟩
      (repeat (first | assumption | exact Below.refl _ _ | (refine Below.alloc ?_ (by first | omega | (simp; done) | (simp; omega)) _) | (refine Below.setCell ?_ (by first | omega | (simp; done) | (simp; omega)) _) | refine bel_drewN ?_ _ | refine bel_drew ?_ | (refine bel_call ?_ (by assumption))))
  · have HC := Lib.hid hc
    clear hc hA
    go_enter Try.func76, Try.ntmps76
    go_wp2_with fail
    go_loopw [9] (fun i wr => ∃ k : Nat, k ≤ n ∧ i = .int .i64 k ∧ (hs.take k).all (fit1 t) = true ∧ Below w.heap.size w wr) (fun i _ => n - (intOf i).toNat)
    case atStart => exact ⟨0, by omega, rfl, rfl, Below.refl _ _⟩
    case round =>
      obtain ⟨k, hk, rfl, hall, hB⟩ := hrel
      have HAL := Lib.hid hall
      clear hall
      by_cases hlt : k < n
      · have o0 : wr.cell? ⟨b, off + k * 3, none⟩ = some (.string (hs.getD k hn0).1) := by rw [hB.cell (p := ⟨b, off + k * 3, none⟩) hb]; exact (HC.out k hlt).1
        have o1 : wr.cell? ⟨b, off + k * 3 + 1, none⟩ = some (.int .i64 (hs.getD k hn0).2.1) := by rw [hB.cell (p := ⟨b, off + k * 3 + 1, none⟩) hb]; exact (HC.out k hlt).2.1
        have o2 : wr.cell? ⟨b, off + k * 3 + 2, none⟩ = some (.int .i64 (hs.getD k hn0).2.2) := by rw [hB.cell (p := ⟨b, off + k * 3 + 2, none⟩) hb]; exact (HC.out k hlt).2.2
        have HD := Lib.hid (HT.out k hlt)
        have HF1 : Hid (fit1 t (hs.getD k hn0) = true → (hs.take (k + 1)).all (fit1 t) = true) := Lib.hid (hAll_snoc (by rw [HL.out]; exact hlt) HAL.out)
        have HF0 : Hid (fit1 t (hs.getD k hn0) = false → fitB hs t = false) := Lib.hid (hAll_not (by rw [HL.out]; exact hlt))
        obtain ⟨h, hh⟩ : ∃ h, h = hs.getD k hn0 := ⟨_, rfl⟩
        rw [← hh] at o0 o1 o2 HD HF1 HF0
        clear hh
        obtain ⟨s, x, y⟩ := h
        dsimp only at o0 o1 o2
        have HDD : Hid (TwoD s t) := HD
        clear HD
        by_cases hx : hiP s t = x
        · by_cases hy : hiO s t = y
          · subst hx hy
            have HN := Lib.hid (HF1.out (by unfold fit1; simp))
            go_wp2_with fail
            go_region_with (go_at_call 68; refine (hintOf_any _ _ _ HDD.out).mono ?_; rintro e w3 ⟨rfl, hb3⟩; obtain ⟨hc3, hf3, hz3⟩ := bcell hb3)
            all_goals
              have hW : Below wr.heap.size wr w3 := by
                clear hB
                (repeat (first | assumption | exact Below.refl _ _ | (refine Below.alloc ?_ (by first | omega | (simp; done) | (simp; omega)) _) | (refine Below.setCell ?_ (by first | omega | (simp; done) | (simp; omega)) _) | refine bel_drewN ?_ _ | refine bel_drew ?_ | (refine bel_call ?_ (by assumption))))
              have HW := Lib.hid hW
              clear hW hb3 hc3 hf3 hz3
              go_wp2_with fail
              go_roundw
              case rel => exact ⟨k + 1, by omega, by go_num, HN.out, bel_call hB HW.out⟩
              case measure => simp [intOf]; omega
          · have hy' : ¬ y = hiO s t := fun e => hy e.symm
            have HN := Lib.hid (HF0.out (by unfold fit1; simp [hy]))
            go_wp2_with fail
            go_region_with (go_at_call 68; refine (hintOf_any _ _ _ HDD.out).mono ?_; rintro e w3 ⟨rfl, hb3⟩; obtain ⟨hc3, hf3, hz3⟩ := bcell hb3)
            all_goals
              have hW : Below wr.heap.size wr w3 := by
                clear hB
                (repeat (first | assumption | exact Below.refl _ _ | (refine Below.alloc ?_ (by first | omega | (simp; done) | (simp; omega)) _) | (refine Below.setCell ?_ (by first | omega | (simp; done) | (simp; omega)) _) | refine bel_drewN ?_ _ | refine bel_drew ?_ | (refine bel_call ?_ (by assumption))))
              go_wp2_with fail
              go_ret
              exact ⟨ret_bool HN.out.symm, bel_call hB hW⟩
        · have hx' : ¬ x = hiP s t := fun e => hx e.symm
          have HN := Lib.hid (HF0.out (by unfold fit1; simp [hx]))
          go_wp2_with fail
          go_region_with (go_at_call 68; refine (hintOf_any _ _ _ HDD.out).mono ?_; rintro e w3 ⟨rfl, hb3⟩; obtain ⟨hc3, hf3, hz3⟩ := bcell hb3)
          all_goals
            have hW : Below wr.heap.size wr w3 := by
              clear hB
              (repeat (first | assumption | exact Below.refl _ _ | (refine Below.alloc ?_ (by first | omega | (simp; done) | (simp; omega)) _) | (refine Below.setCell ?_ (by first | omega | (simp; done) | (simp; omega)) _) | refine bel_drewN ?_ _ | refine bel_drew ?_ | (refine bel_call ?_ (by assumption))))
            go_wp2_with fail
            go_ret
            exact ⟨ret_bool HN.out.symm, bel_call hB hW⟩
      · go_wp2_with fail
        go_ret
        exact ⟨ret_bool (hAll_end (by rw [HL.out]; omega) HAL.out).symm, hB⟩

end Go.Proofs.Ytfgogiafimiibaa
