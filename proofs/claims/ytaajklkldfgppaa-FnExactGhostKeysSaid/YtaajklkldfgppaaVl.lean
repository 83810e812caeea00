/- A list of pins: what is asked of it, and its pins joined, as the model does it. For pins with at most 1048576 numbers each. -/
import Derived.Test.YtaajklkldfgppaaVk
namespace Go.Proofs.Ytaajklkldfgppaa
open Go.ChangeShapes Go.WideShapes Go.ChangeAt Go.RowKit Go.Joins

abbrev Pn := Int × List (List Int)

abbrev pn0 : Pn := (0, [])

/-- A list of pins that came in. -/
structure ArgP (w : World) (A : Option Addr) (n : Nat) (ps : List Pn) : Prop where
  len : ps.length = n
  at_ : n = 0 ∨ ∃ b off, A = some ⟨b, off, none⟩ ∧ b < w.heap.size ∧ ∀ k, k < n → ∃ Ak ck, w.cell? ⟨b, off + k * 2, none⟩ = some (.int .i64 (ps.getD k pn0).1) ∧ w.cell? ⟨b, off + k * 2 + 1, none⟩ = some (.slice Ak (ps.getD k pn0).2.length ck) ∧ (ps.getD k pn0).2.length ≤ maxLen ∧ KnobsA w Ak (ps.getD k pn0).2.length (ps.getD k pn0).2

theorem ArgP.below {w w' : World} {A : Option Addr} {n : Nat} {ps : List Pn} (h : ArgP w A n ps) (hb : Below w.heap.size w w') : ArgP w' A n ps :=
  ⟨h.len, h.at_.imp id fun ⟨b, off, e, hb', hc⟩ => ⟨b, off, e, Nat.lt_of_lt_of_le hb' hb.size, fun k hk => by
    obtain ⟨Ak, ck, h1, h2, h3, h4⟩ := hc k hk
    exact ⟨Ak, ck, by rw [hb.cell (p := ⟨b, off + k * 2, none⟩) hb']; exact h1, by rw [hb.cell (p := ⟨b, off + k * 2 + 1, none⟩) hb']; exact h2, h3, h4.below hb⟩⟩⟩

/-- No pins of the list are great. -/
def Few (ps : List Pn) : Prop := ∀ k, k < ps.length → (ps.getD k pn0).2.length + lensAt (ps.getD k pn0).2 (ps.getD k pn0).2.length ≤ 1048576

/-- Pins of the list that are of the kind of the first. -/
def okP (ps : List Pn) (p : Pn) : Bool := pinsB p.1 p.2 && kindB p.1 p.2.length (ps.getD 0 pn0).1 (ps.getD 0 pn0).2.length

/-- A list of pins of one kind. -/
def listB (ps : List Pn) : Bool := inB (ps.length : Int) 1 6 && ps.all (okP ps)

theorem kindB_yes {d1 d2 : Int} {n1 n2 : Nat} (h : kindB d1 n1 d2 n2 = true) : d1 = d2 ∧ n1 = n2 := by
  unfold kindB at h
  rw [Bool.and_eq_true, decide_eq_true_eq, decide_eq_true_eq] at h
  exact h

theorem listB_yes {ps : List Pn} (h : listB ps = true) : 1 ≤ ps.length ∧ ps.length ≤ 6 ∧ ∀ k, k < ps.length → okP ps (ps.getD k pn0) = true := by
  unfold listB at h
  rw [Bool.and_eq_true] at h
  have h1 := of_decide_eq_true h.1
  refine ⟨by omega, by omega, fun k hk => ?_⟩
  have := List.all_eq_true.1 h.2 ps[k] (List.getElem_mem _)
  simpa only [List.getD, List.getElem?_eq_getElem hk, Option.getD_some] using this

theorem okP_yes {ps : List Pn} {p : Pn} (h : okP ps p = true) : pinsB p.1 p.2 = true ∧ p.1 = (ps.getD 0 pn0).1 ∧ p.2.length = (ps.getD 0 pn0).2.length := by
  unfold okP at h
  rw [Bool.and_eq_true] at h
  obtain ⟨h1, h2⟩ := kindB_yes h.2
  exact ⟨h.1, h1, h2⟩

/-- The first k pins joined, to the first ones. -/
def cbN (f : Bool → Bool → Bool) (ps : List Pn) : Nat → List (List Int)
  | 0 => (ps.getD 0 pn0).2
  | k + 1 => jnL f (ps.getD 0 pn0).1.toNat (cbN f ps k) (ps.getD k pn0).2 (ps.getD 0 pn0).2.length

theorem jnL_length (f : Bool → Bool → Bool) (d : Nat) (ks ls : List (List Int)) (n : Nat) : (jnL f d ks ls n).length = n := rwL_length _ _

theorem cbN_length (f : Bool → Bool → Bool) (ps : List Pn) (k : Nat) : (cbN f ps k).length = (ps.getD 0 pn0).2.length := by
  cases k with
  | zero => rfl
  | succ k => exact jnL_length ..

theorem jnL_small {f : Bool → Bool → Bool} {d : Nat} (hd : d ≤ 9) {ks ls : List (List Int)} {n : Nat} : SmallP (jnL f d ks ls n) := fun i hi => by
  rw [jnL_length] at hi
  unfold jnL
  rw [rwL_at hi]
  exact small_lsN hd

theorem jnL_nine {f : Bool → Bool → Bool} {d : Nat} (hd : d ≤ 9) {ks ls : List (List Int)} {n : Nat} : Nine (jnL f d ks ls n) := fun i => by
  by_cases hi : i < n
  · unfold jnL
    rw [rwL_at hi]
    exact Nat.le_trans (lsN_length _ _) hd
  · simp only [List.getD, List.getElem?_eq_none (show (jnL f d ks ls n).length ≤ i by rw [jnL_length]; omega), Option.getD_none]
    exact Nat.zero_le _

theorem pins_nine {d : Int} {ks : List (List Int)} (h : pinsB d ks = true) : Nine ks := fun i => by
  obtain ⟨_, h2, _, _, h5⟩ := pinsB_yes h
  by_cases hi : i < ks.length
  · have := rise_len (h5 i hi).2 (by omega)
    omega
  · simp only [List.getD, List.getElem?_eq_none (show ks.length ≤ i by omega), Option.getD_none]
    exact Nat.zero_le _

theorem cbN_nine {f : Bool → Bool → Bool} {ps : List Pn} (h : pinsB (ps.getD 0 pn0).1 (ps.getD 0 pn0).2 = true) (k : Nat) : Nine (cbN f ps k) := by
  cases k with
  | zero => exact pins_nine h
  | succ k => exact jnL_nine (by have := pinsB_yes h; omega)

theorem cbN_small {f : Bool → Bool → Bool} {ps : List Pn} (h : pinsB (ps.getD 0 pn0).1 (ps.getD 0 pn0).2 = true) (k : Nat) : SmallP (cbN f ps k) := by
  cases k with
  | zero => exact pins_small h
  | succ k => exact jnL_small (by have := pinsB_yes h; omega)

theorem jnL_congr {f g : Bool → Bool → Bool} (h : ∀ a b, f a b = g a b) (d : Nat) (ks ls : List (List Int)) (n : Nat) : jnL f d ks ls n = jnL g d ks ls n := by
  unfold jnL
  exact rwL_congr fun i _ => lsN_congr fun e _ => h _ _

theorem cbN_congr {f g : Bool → Bool → Bool} (h : ∀ a b, f a b = g a b) (ps : List Pn) (k : Nat) : cbN f ps k = cbN g ps k := by
  induction k with
  | zero => rfl
  | succ k ih => rw [cbN, cbN, ih]; exact jnL_congr h ..

theorem both_and (a b : Bool) : bothB true a b = (fun x y => x && y) a b := by cases a <;> cases b <;> rfl

theorem both_or (a b : Bool) : bothB false a b = (fun x y => x || y) a b := by cases a <;> cases b <;> rfl

theorem call_lst {P : Program} {K : FuncId} {args : Array Value} {v : Value} {wr W : World} {b off : Nat} {x0 x1 x2 x3 : Value} (h : W.cell? ⟨wr.heap.size, 0, none⟩ = some x0 ∧ W.cell? ⟨wr.heap.size, 1, none⟩ = some x1 ∧ W.cell? ⟨b, off, none⟩ = some x2 ∧ W.cell? ⟨b, off + 1, none⟩ = some x3 ∧ Below wr.heap.size wr W ∧ wr.heap.size < W.heap.size)
    (c : Calls P K args W fun e w' => e = .returned v ∧ Below W.heap.size W w') : Calls P K args W fun e w' => e = .returned v ∧ w'.cell? ⟨wr.heap.size, 0, none⟩ = some x0 ∧ w'.cell? ⟨wr.heap.size, 1, none⟩ = some x1 ∧ w'.cell? ⟨b, off, none⟩ = some x2 ∧ w'.cell? ⟨b, off + 1, none⟩ = some x3 ∧ Below wr.heap.size wr w' ∧ wr.heap.size < w'.heap.size :=
  c.mono fun _ w' ⟨he, hb⟩ => by
    obtain ⟨h0, h1, h2, h3, h4, h5⟩ := h
    have keep : ∀ (p : Addr) x, W.cell? p = some x → w'.cell? p = some x := fun p x hx => (hb.cell (p := p) (World.block_lt_of_cell? W p hx)).trans hx
    exact ⟨he, keep _ _ h0, keep _ _ h1, keep _ _ h2, keep _ _ h3, bel_call h4 hb, Nat.lt_of_lt_of_le h5 hb.size⟩

set_option maxRecDepth 100000 in
set_option maxHeartbeats 4000000 in
theorem keList_any (A : Option Addr) (n c : Nat) (ps : List Pn) (w : World) (hn : n ≤ maxLen) (hA : ArgP w A n ps) (hF : Few ps) :
    Calls Try.prog 40 #[.slice A n c] w fun e w' => e = .returned (.bool (listB ps)) ∧ Below w.heap.size w w' := by
  have HA := Lib.hid hA
  have HF := Lib.hid hF
  have HN := Lib.hid hA.len
  unfold maxLen at hn
  clear hA hF
  obtain ⟨v, HV⟩ : ∃ v, Hid (inB (n : Int) 1 6 = v) := ⟨_, Lib.hid rfl⟩
  rcases v with _ | _
  · go_enter Try.func40, Try.ntmps40
    go_wp2_with (go_at_call 61; refine (l1In_any _ _ _ _).mono ?_; rw [HV.out]; rintro e wq ⟨rfl, hwq⟩; replace hwq := hwq.symm; subst hwq)
    go_ret
    exact ⟨ret_bool (by unfold listB; rw [HN.out, HV.out]; rfl), Below.refl _ _⟩
  · have hn6 := of_decide_eq_true HV.out
    obtain ⟨b, off, rfl, hb, hc⟩ := HA.out.at_.resolve_left (by omega)
    obtain ⟨A0, c0, h00, h01, h02, h03⟩ := hc 0 (by omega)
    have HC := Lib.hid hc
    have HP0 := Lib.hid h00
    have HP1 := Lib.hid h01
    clear hc h00 h01 h02 h03 HA
    rw [Nat.zero_mul, Nat.add_zero] at HP0 HP1
    go_enter Try.func40, Try.ntmps40
    go_wp2_with (go_at_call 61; refine (l1In_any _ _ _ _).mono ?_; rw [HV.out]; rintro e wq ⟨rfl, hwq⟩; replace hwq := hwq.symm; subst hwq)
    go_loopw [11] (fun i wr => ∃ k : Nat, k ≤ n ∧ i = .int .i64 k ∧ (ps.take k).all (okP ps) = true ∧ Below w.heap.size w wr) (fun i _ => n - (intOf i).toNat)
    case atStart => exact ⟨0, by omega, rfl, rfl, Below.refl _ _⟩
    case round =>
      obtain ⟨k, hk, rfl, hall, hB⟩ := hrel
      have HAL := Lib.hid hall
      have HB := Lib.hid hB
      have hsz := hB.size
      clear hall hB
      by_cases hlt : k < n
      · obtain ⟨Ak, ck, p0', p1', hl, hK⟩ := HC.out k hlt
        have p0 : wr.cell? ⟨b, off + k * 2, none⟩ = some (.int .i64 (ps.getD k pn0).1) := by rw [HB.out.cell (p := ⟨b, off + k * 2, none⟩) hb]; exact p0'
        have p1 : wr.cell? ⟨b, off + k * 2 + 1, none⟩ = some (.slice Ak (ps.getD k pn0).2.length ck) := by rw [HB.out.cell (p := ⟨b, off + k * 2 + 1, none⟩) hb]; exact p1'
        have HK := Lib.hid (hK.below HB.out)
        have HFK := Lib.hid (HF.out k (by rw [HN.out]; exact hlt))
        clear p0' p1' hK
        have HOK : Hid (∀ v, okP ps (ps.getD k pn0) = v → okP ps (ps.getD k pn0) = v) := Lib.hid (fun v h => h)
        obtain ⟨P, hP⟩ : ∃ P, ps.getD k pn0 = P := ⟨_, rfl⟩
        have HPE := Lib.hid hP
        rw [hP] at p0 p1 hl HK HFK
        clear hP HOK
        obtain ⟨P0, hP0⟩ : ∃ P0, ps.getD 0 pn0 = P0 := ⟨_, rfl⟩
        have HPE0 := Lib.hid hP0
        have HQ0 := Lib.hid HP0.out
        have HQ1 := Lib.hid HP1.out
        rw [hP0] at HQ0 HQ1
        clear hP0
        have hn0 : 0 < n := by omega
        have q0 : wr.cell? ⟨b, off, none⟩ = some (.int .i64 P0.1) := by rw [HB.out.cell (p := ⟨b, off, none⟩) hb]; exact HQ0.out
        have q1 : wr.cell? ⟨b, off + 1, none⟩ = some (.slice A0 P0.2.length c0) := by rw [HB.out.cell (p := ⟨b, off + 1, none⟩) hb]; exact HQ1.out
        unfold maxLen at hl
        have CB := Cells.new (W := wr) (cs := #[.int .i64 P.1, .slice Ak P.2.length ck]) (t := 26) (g := wr.heap.size) (n := 2) rfl rfl
        have d0 : (wr.alloc (.cells #[.int .i64 P.1, .slice Ak P.2.length ck] 26)).cell? ⟨wr.heap.size, 0, none⟩ = some (.int .i64 P.1) := CB.cell (show 0 < 2 by omega)
        have d1 : (wr.alloc (.cells #[.int .i64 P.1, .slice Ak P.2.length ck] 26)).cell? ⟨wr.heap.size, 1, none⟩ = some (.slice Ak P.2.length ck) := CB.cell (show 1 < 2 by omega)
        have d2 : (wr.alloc (.cells #[.int .i64 P.1, .slice Ak P.2.length ck] 26)).cell? ⟨b, off, none⟩ = some (.int .i64 P0.1) := by rw [World.cell?_alloc_lt _ _ _ (show b < wr.heap.size by omega)]; exact q0
        have d3 : (wr.alloc (.cells #[.int .i64 P.1, .slice Ak P.2.length ck] 26)).cell? ⟨b, off + 1, none⟩ = some (.slice A0 P0.2.length c0) := by rw [World.cell?_alloc_lt _ _ _ (show b < wr.heap.size by omega)]; exact q1
        have dB : Below wr.heap.size wr (wr.alloc (.cells #[.int .i64 P.1, .slice Ak P.2.length ck] 26)) := (Below.refl _ _).alloc (Nat.le_refl _) _
        have dz : wr.heap.size < (wr.alloc (.cells #[.int .i64 P.1, .slice Ak P.2.length ck] 26)).heap.size := by simp
        clear CB
        obtain ⟨v1, HV1⟩ : ∃ v, Hid (pinsB P.1 P.2 = v) := ⟨_, Lib.hid rfl⟩
        obtain ⟨v2, HV2⟩ : ∃ v, Hid (kindB P.1 P.2.length P0.1 P0.2.length = v) := ⟨_, Lib.hid rfl⟩
        have HOK : Hid (okP ps (ps.getD k pn0) = (v1 && v2)) := Lib.hid (by rw [HPE.out]; unfold okP; rw [HPE0.out, HV1.out, HV2.out])
        go_wp2_with fail
        refine wp_region_held_drew (S := (fun w' => w'.cell? ⟨wr.heap.size, 0, none⟩ = some (.int .i64 P.1) ∧ w'.cell? ⟨wr.heap.size, 1, none⟩ = some (.slice Ak P.2.length ck) ∧ w'.cell? ⟨b, off, none⟩ = some (.int .i64 P0.1) ∧ w'.cell? ⟨b, off + 1, none⟩ = some (.slice A0 P0.2.length c0) ∧ Below wr.heap.size wr w' ∧ wr.heap.size < w'.heap.size)) (by kernel_rfl) ⟨d0, d1, d2, d3, bel_drew dB, dz⟩ (fun hHeld => ?_)
        clear d0 d1 d2 d3 dB dz
        (refine wpAnyH_take (i := 0) (v := ?_) rfl (by kernel_rfl) (by kernel_rfl) (by kernel_rfl) (fun _ _ _ h => h) (Or.inl ⟨by rfl, by intro w hSw; (try dsimp only at hSw); go_simp; try with_reducible rfl⟩) (by assumption) ?_; try simp only [Act.put, List.getElem_toArray, List.getElem_cons_zero, List.setIfInBounds_toArray, List.set_cons_zero, List.set_cons_succ])
        (refine wpAnyH_ready (rs := [1]) (by kernel_rfl) (by simp) (AllReadyH.cons rfl (fun K hK => ?_) AllReadyH.nil); rw [if_pos (by rfl)]; simp only [List.getElem_toArray, List.getElem_cons_zero, List.getElem_cons_succ]; go_wp2_with ((go_at_call 60; refine (call_lst hHeld (keGood_any _ _ _ _ P.2 _ HFK.out (HK.out.below hHeld.2.2.2.2.1))).mono ?_; rw [HV1.out]; rintro e w2 ⟨rfl, hS1⟩)); refine hK.out _ _ hS1 (fun hHeld => ?_); clear hK K; try simp only [Act.put, List.getElem_toArray, List.getElem_cons_zero, List.getElem_cons_succ, List.setIfInBounds_toArray, List.set_cons_zero, List.set_cons_succ])
        rcases v1 with _ | _
        · (refine wpAnyH_take (i := 2) (v := .bool true) rfl (by kernel_rfl) (by kernel_rfl) (by kernel_rfl) (fun _ _ _ h => h) (Or.inl ⟨by rfl, by intro w hSw; (try dsimp only at hSw); go_simp⟩) (by assumption) ?_; try simp only [Act.put, List.getElem_toArray, List.getElem_cons_zero, List.getElem_cons_succ, List.setIfInBounds_toArray, List.set_cons_zero, List.set_cons_succ])
          (refine wpAnyH_take (i := 3) (v := ?_) rfl (by kernel_rfl) (by kernel_rfl) (by kernel_rfl) (fun _ _ _ h => h) (Or.inl ⟨by rfl, by intro w hSw; (try dsimp only at hSw); go_simp; try with_reducible rfl⟩) (by assumption) ?_; try simp only [Act.put, List.getElem_toArray, List.getElem_cons_zero, List.getElem_cons_succ, List.setIfInBounds_toArray, List.set_cons_zero, List.set_cons_succ])
          (refine wpAnyH_take (i := 4) (v := undef) rfl (by kernel_rfl) (by kernel_rfl) (by kernel_rfl) (fun _ _ _ h => h) (Or.inr ⟨by rfl, rfl⟩) (by assumption) ?_; try simp only [Act.put, List.getElem_toArray, List.getElem_cons_zero, List.getElem_cons_succ, List.setIfInBounds_toArray, List.set_cons_zero, List.set_cons_succ])
          (refine wpAnyH_take (i := 5) (v := undef) rfl (by kernel_rfl) (by kernel_rfl) (by kernel_rfl) (fun _ _ _ h => h) (Or.inr ⟨by rfl, rfl⟩) (by assumption) ?_; try simp only [Act.put, List.getElem_toArray, List.getElem_cons_zero, List.getElem_cons_succ, List.setIfInBounds_toArray, List.set_cons_zero, List.set_cons_succ])
          (refine wpAnyH_take (i := 6) (v := undef) rfl (by kernel_rfl) (by kernel_rfl) (by kernel_rfl) (fun _ _ _ h => h) (Or.inr ⟨by rfl, rfl⟩) (by assumption) ?_; try simp only [Act.put, List.getElem_toArray, List.getElem_cons_zero, List.getElem_cons_succ, List.setIfInBounds_toArray, List.set_cons_zero, List.set_cons_succ])
          (refine wpAnyH_take (i := 7) (v := undef) rfl (by kernel_rfl) (by kernel_rfl) (by kernel_rfl) (fun _ _ _ h => h) (Or.inr ⟨by rfl, rfl⟩) (by assumption) ?_; try simp only [Act.put, List.getElem_toArray, List.getElem_cons_zero, List.getElem_cons_succ, List.setIfInBounds_toArray, List.set_cons_zero, List.set_cons_succ])
          (refine wpAnyH_take (i := 8) (v := undef) rfl (by kernel_rfl) (by kernel_rfl) (by kernel_rfl) (fun _ _ _ h => h) (Or.inr ⟨by rfl, rfl⟩) (by assumption) ?_; try simp only [Act.put, List.getElem_toArray, List.getElem_cons_zero, List.getElem_cons_succ, List.setIfInBounds_toArray, List.set_cons_zero, List.set_cons_succ])
          (refine wpAnyH_take (i := 9) (v := undef) rfl (by kernel_rfl) (by kernel_rfl) (by kernel_rfl) (fun _ _ _ h => h) (Or.inr ⟨by rfl, rfl⟩) (by assumption) ?_; try simp only [Act.put, List.getElem_toArray, List.getElem_cons_zero, List.getElem_cons_succ, List.setIfInBounds_toArray, List.set_cons_zero, List.set_cons_succ])
          (refine wpAnyH_take (i := 10) (v := ?_) rfl (by kernel_rfl) (by kernel_rfl) (by kernel_rfl) (fun _ _ _ h => h) (Or.inl ⟨by rfl, by intro w hSw; (try dsimp only at hSw); go_simp; try with_reducible rfl⟩) (by assumption) ?_; try simp only [Act.put, List.getElem_toArray, List.getElem_cons_zero, List.getElem_cons_succ, List.setIfInBounds_toArray, List.set_cons_zero, List.set_cons_succ])
          refine wpAnyH_done (by kernel_rfl) ?_ _
          go_wp2_with fail
          go_ret
          refine ⟨ret_bool ?_, HB.out.trans (hS1.2.2.2.2.1.mono hsz)⟩
          unfold listB
          rw [lall_not (d := pn0) (p := okP ps) (k := k) (by rw [HN.out]; exact hlt) (by rw [HOK.out]; rfl), Bool.and_false]
        · (refine wpAnyH_take (i := 2) (v := .bool false) rfl (by kernel_rfl) (by kernel_rfl) (by kernel_rfl) (fun _ _ _ h => h) (Or.inl ⟨by rfl, by intro w hSw; (try dsimp only at hSw); go_simp⟩) (by assumption) ?_; try simp only [Act.put, List.getElem_toArray, List.getElem_cons_zero, List.getElem_cons_succ, List.setIfInBounds_toArray, List.set_cons_zero, List.set_cons_succ])
          (refine wpAnyH_take (i := 3) (v := ?_) rfl (by kernel_rfl) (by kernel_rfl) (by kernel_rfl) (fun _ _ _ h => h) (Or.inl ⟨by rfl, by intro w hSw; (try dsimp only at hSw); go_simp; try with_reducible rfl⟩) (by assumption) ?_; try simp only [Act.put, List.getElem_toArray, List.getElem_cons_zero, List.getElem_cons_succ, List.setIfInBounds_toArray, List.set_cons_zero, List.set_cons_succ])
          (refine wpAnyH_take (i := 4) (v := ?_) rfl (by kernel_rfl) (by kernel_rfl) (by kernel_rfl) (fun _ _ _ h => h) (Or.inl ⟨by rfl, by intro w hSw; (try dsimp only at hSw); go_simp; try with_reducible rfl⟩) (by assumption) ?_; try simp only [Act.put, List.getElem_toArray, List.getElem_cons_zero, List.getElem_cons_succ, List.setIfInBounds_toArray, List.set_cons_zero, List.set_cons_succ])
          (refine wpAnyH_take (i := 5) (v := ?_) rfl (by kernel_rfl) (by kernel_rfl) (by kernel_rfl) (fun _ _ _ h => h) (Or.inl ⟨by rfl, by intro w hSw; (try dsimp only at hSw); go_simp; try with_reducible rfl⟩) (by assumption) ?_; try simp only [Act.put, List.getElem_toArray, List.getElem_cons_zero, List.getElem_cons_succ, List.setIfInBounds_toArray, List.set_cons_zero, List.set_cons_succ])
          (refine wpAnyH_take (i := 6) (v := ?_) rfl (by kernel_rfl) (by kernel_rfl) (by kernel_rfl) (fun _ _ _ h => h) (Or.inl ⟨by rfl, by intro w hSw; (try dsimp only at hSw); go_simp; try with_reducible rfl⟩) (by assumption) ?_; try simp only [Act.put, List.getElem_toArray, List.getElem_cons_zero, List.getElem_cons_succ, List.setIfInBounds_toArray, List.set_cons_zero, List.set_cons_succ])
          (refine wpAnyH_take (i := 7) (v := ?_) rfl (by kernel_rfl) (by kernel_rfl) (by kernel_rfl) (fun _ _ _ h => h) (Or.inl ⟨by rfl, by intro w hSw; (try dsimp only at hSw); go_simp; try with_reducible rfl⟩) (by assumption) ?_; try simp only [Act.put, List.getElem_toArray, List.getElem_cons_zero, List.getElem_cons_succ, List.setIfInBounds_toArray, List.set_cons_zero, List.set_cons_succ])
          (refine wpAnyH_ready (rs := [8]) (by kernel_rfl) (by simp) (AllReadyH.cons rfl (fun K hK => ?_) AllReadyH.nil); rw [if_pos (by rfl)]; simp only [List.getElem_toArray, List.getElem_cons_zero, List.getElem_cons_succ]; go_wp2_with ((go_at_call 73; refine (call_lst hHeld (keKind_any _ _ _ _ _ _ _ _ _)).mono ?_; rw [HV2.out]; rintro e w3 ⟨rfl, hS3⟩)); refine hK.out _ _ hS3 (fun hHeld => ?_); clear hK K; try simp only [Act.put, List.getElem_toArray, List.getElem_cons_zero, List.getElem_cons_succ, List.setIfInBounds_toArray, List.set_cons_zero, List.set_cons_succ])
          have HB3 := Lib.hid (HB.out.trans (hS3.2.2.2.2.1.mono hsz))
          rcases v2 with _ | _
          · (refine wpAnyH_take (i := 9) (v := .bool true) rfl (by kernel_rfl) (by kernel_rfl) (by kernel_rfl) (fun _ _ _ h => h) (Or.inl ⟨by rfl, by intro w hSw; (try dsimp only at hSw); go_simp⟩) (by assumption) ?_; try simp only [Act.put, List.getElem_toArray, List.getElem_cons_zero, List.getElem_cons_succ, List.setIfInBounds_toArray, List.set_cons_zero, List.set_cons_succ])
            (refine wpAnyH_take (i := 10) (v := ?_) rfl (by kernel_rfl) (by kernel_rfl) (by kernel_rfl) (fun _ _ _ h => h) (Or.inl ⟨by rfl, by intro w hSw; (try dsimp only at hSw); go_simp; try with_reducible rfl⟩) (by assumption) ?_; try simp only [Act.put, List.getElem_toArray, List.getElem_cons_zero, List.getElem_cons_succ, List.setIfInBounds_toArray, List.set_cons_zero, List.set_cons_succ])
            refine wpAnyH_done (by kernel_rfl) ?_ _
            go_wp2_with fail
            go_ret
            refine ⟨ret_bool ?_, HB3.out⟩
            unfold listB
            rw [lall_not (d := pn0) (p := okP ps) (k := k) (by rw [HN.out]; exact hlt) (by rw [HOK.out]; rfl), Bool.and_false]
          · (refine wpAnyH_take (i := 9) (v := .bool false) rfl (by kernel_rfl) (by kernel_rfl) (by kernel_rfl) (fun _ _ _ h => h) (Or.inl ⟨by rfl, by intro w hSw; (try dsimp only at hSw); go_simp⟩) (by assumption) ?_; try simp only [Act.put, List.getElem_toArray, List.getElem_cons_zero, List.getElem_cons_succ, List.setIfInBounds_toArray, List.set_cons_zero, List.set_cons_succ])
            (refine wpAnyH_take (i := 10) (v := ?_) rfl (by kernel_rfl) (by kernel_rfl) (by kernel_rfl) (fun _ _ _ h => h) (Or.inl ⟨by rfl, by intro w hSw; (try dsimp only at hSw); go_simp; try with_reducible rfl⟩) (by assumption) ?_; try simp only [Act.put, List.getElem_toArray, List.getElem_cons_zero, List.getElem_cons_succ, List.setIfInBounds_toArray, List.set_cons_zero, List.set_cons_succ])
            refine wpAnyH_done (by kernel_rfl) ?_ _
            go_wp2_with fail
            go_roundw
            case rel => exact ⟨k + 1, by omega, by go_num, lall_snoc (d := pn0) (p := okP ps) (by rw [HN.out]; exact hlt) HAL.out (by rw [HOK.out]; rfl), HB3.out⟩
            case measure => simp [intOf]; omega
      · obtain rfl : k = n := by omega
        go_wp2_with fail
        go_ret
        have h := HAL.out
        rw [List.take_of_length_le (by rw [HN.out]; exact Nat.le_refl _)] at h
        exact ⟨ret_bool (by unfold listB; rw [HN.out, HV.out, h]; rfl), HB.out⟩

end Go.Proofs.Ytaajklkldfgppaa
