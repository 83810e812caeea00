/- Keys of the master that open no pins of a list, counted by the program. For pins with at most 1048576 numbers each. -/
import Derived.Test.YtaajklkldfgppaaZn
import Derived.Deep.RegionLaw
import Derived.Deep.RegionHeld3
import Derived.Deep.DeepCutAuto
namespace Go.Proofs.Ytaajklkldfgppaa
set_option maxRecDepth 100000
open Go.ChangeShapes Go.WideShapes Go.ChangeAt Go.RowKit Go.Joins

theorem ArgP.tail {w : World} {b off n : Nat} {q : Pn} {qs : List Pn} (h : ArgP w (some ⟨b, off, none⟩) (n + 1) (q :: qs)) : ArgP w (some ⟨b, off + 2, none⟩) n qs := by
  obtain ⟨b', off', e, hb, hc⟩ := h.at_.resolve_left (by omega)
  injection e with e
  injection e with e1 e2 _
  subst e1 e2
  have hl := h.len
  rw [List.length_cons] at hl
  refine ⟨by omega, .inr ⟨b, off + 2, rfl, hb, fun k hk => ?_⟩⟩
  obtain ⟨Ak, ck, h1, h2, h3, h4⟩ := hc (k + 1) (by omega)
  rw [show off + (k + 1) * 2 = off + 2 + k * 2 by omega] at h1 h2
  exact ⟨Ak, ck, h1, h2, h3, h4⟩

/-- What is asked of the pins of a list: few places, small depths. -/
def Fit (qs : List Pn) : Prop := ∀ k, k < qs.length → (qs.getD k pn0).2.length ≤ 7 ∧ SmallP (qs.getD k pn0).2

theorem Fit.tail {q : Pn} {qs : List Pn} (h : Fit (q :: qs)) : q.2.length ≤ 7 ∧ SmallP q.2 ∧ Fit qs := by
  have h0 := h 0 (by rw [List.length_cons]; omega)
  exact ⟨h0.1, h0.2, fun k hk => h (k + 1) (by rw [List.length_cons]; omega)⟩

theorem call_s4 {P : Program} {F : FuncId} {args : Array Value} {Q : Ending → World → Prop} {w0 W : World} {a0 a1 a2 a3 : Addr} {x0 x1 x2 x3 : Value} (h : W.cell? a0 = some x0 ∧ W.cell? a1 = some x1 ∧ W.cell? a2 = some x2 ∧ W.cell? a3 = some x3 ∧ Below w0.heap.size w0 W)
    (c : Calls P F args W fun e w' => Q e w' ∧ Below W.heap.size W w') : Calls P F args W fun e w' => Q e w' ∧ (w'.cell? a0 = some x0 ∧ w'.cell? a1 = some x1 ∧ w'.cell? a2 = some x2 ∧ w'.cell? a3 = some x3 ∧ Below w0.heap.size w0 w') :=
  c.mono fun e w' ⟨hq, hb⟩ => by
    obtain ⟨h0, h1, h2, h3, h4⟩ := h
    have keep : ∀ (p : Addr) x, W.cell? p = some x → w'.cell? p = some x := fun p x hx => (hb.cell (p := p) (World.block_lt_of_cell? W p hx)).trans hx
    exact ⟨hq, keep _ _ h0, keep _ _ h1, keep _ _ h2, keep _ _ h3, bel_call h4 hb⟩

theorem got_below {P : Program} {F : FuncId} {args : Array Value} {W : World} {d : Int} {ks : List (List Int)} (c : Calls P F args W (PinsGot W d ks)) :
    Calls P F args W fun e w' => (∃ A c, e = .returned (.agg #[.int .i64 d, .slice A ks.length c]) ∧ RowP w' W.heap.size (.slice A ks.length c) ks) ∧ Below W.heap.size W w' :=
  c.mono fun e w' ⟨v, he, hR, hb⟩ => by
    obtain ⟨A, c, rfl⟩ := hR.slice
    exact ⟨⟨A, c, he, hR⟩, hb⟩

set_option maxHeartbeats 4000000 in
theorem countGhosts_any (dn n : Nat) (hd : dn ≤ 9) (hn : n ≤ 7) (qs : List Pn) : ∀ (A Aq : Option Addr) (c nq cq : Nat) (K : List (List Int)) (w : World), qs.length ≤ 6 → KnobsA w A n K → SmallP K → Nine K → nq ≤ cq → ArgP w Aq nq qs → Fit qs →
    Calls Try.prog 44 #[.agg #[.int .i64 (dn : Int), .slice A n c], .slice Aq nq cq] w fun e w' => e = .returned (.int .i64 (ghI dn n qs K)) ∧ Below w.heap.size w w' := by
  induction qs with
  | nil =>
    intro A Aq c nq cq K w _ hK hS hN _ hA _
    obtain rfl : nq = 0 := hA.len.symm
    have HK := Lib.hid hK
    have HN := Lib.hid hN
    have HB0 := Lib.hid (show Below w.heap.size w (w.alloc (.cells #[.int .i64 (dn : Int), .slice A n c] 26)) from (Below.refl _ _).alloc (Nat.le_refl _) _)
    go_enter Try.func44, Try.ntmps44
    go_wp2_with (go_at_call 76; refine (countKeysP_any _ _ _ _ K _ hn (HK.out.below HB0.out) HN.out).mono ?_; rintro e w3 ⟨rfl, hb3⟩)
    go_ret
    exact ⟨rfl, bel_call HB0.out hb3⟩
  | cons q qs ih =>
    intro A Aq c nq cq K w hl hK hS hN hcq hA hF
    obtain ⟨m, rfl⟩ : ∃ m, nq = m + 1 := ⟨qs.length, by have := hA.len; rw [List.length_cons] at this; omega⟩
    obtain ⟨b, off, rfl, hb, hc⟩ := hA.at_.resolve_left (by omega)
    obtain ⟨Ak, ck, p0', p1', hl0, hK0⟩ := hc 0 (by omega)
    rw [Nat.zero_mul, Nat.add_zero] at p0' p1'
    change w.cell? ⟨b, off, none⟩ = some (.int .i64 q.1) at p0'
    change w.cell? ⟨b, off + 1, none⟩ = some (.slice Ak q.2.length ck) at p1'
    change q.2.length ≤ maxLen at hl0
    change KnobsA w Ak q.2.length q.2 at hK0
    rw [List.length_cons] at hl
    go_enter Try.func44, Try.ntmps44
    go_wp2_with fail
    obtain ⟨W1, hW1⟩ : ∃ W, w.alloc (.cells #[.int .i64 (dn : Int), .slice A n c] 26) = W := ⟨_, rfl⟩
    have CP : Hid (Cells W1 w.heap.size 2 (pF (dn : Int) (.slice A n c))) := Lib.hid (by rw [← hW1]; exact Cells.new (n := 2) rfl rfl)
    have HB1 : Hid (Below w.heap.size w W1) := Lib.hid (by rw [← hW1]; exact (Below.refl _ _).alloc (Nat.le_refl _) _)
    have HK1 := Lib.hid (hK.below HB1.out)
    obtain ⟨Aq', hAq'⟩ : ∃ Aq' : Option Addr, (if cq = 1 then some ⟨b, off, none⟩ else some ⟨b, off + 2, none⟩) = Aq' := ⟨_, rfl⟩
    have HA1 : Hid (ArgP W1 Aq' m qs) := Lib.hid (by
      have h := (hA.below HB1.out).tail
      by_cases e : cq = 1
      · exact ⟨h.len, .inl (by omega)⟩
      · rw [← hAq', if_neg e]; exact h)
    have HQ1 := Lib.hid (hK0.below HB1.out)
    have hlt1 := CP.out.lt
    have bw : b < W1.heap.size := Nat.lt_of_lt_of_le hb HB1.out.size
    have q0 : W1.cell? ⟨b, off, none⟩ = some (.int .i64 q.1) := by rw [HB1.out.cell (p := ⟨b, off, none⟩) hb]; exact p0'
    have q1 : W1.cell? ⟨b, off + 1, none⟩ = some (.slice Ak q.2.length ck) := by rw [HB1.out.cell (p := ⟨b, off + 1, none⟩) hb]; exact p1'
    clear p0' p1' hA hK hK0 hc
    obtain ⟨lq, hlq⟩ : ∃ l, q.2.length = l := ⟨_, rfl⟩
    rw [hlq] at hl0 q1 HQ1
    rw [hW1]
    clear hW1
    go_cut [5, 6] from 12 to 16 (fun f g wx => ∃ g5 : Nat, f = .pointer (some ⟨g5, 0, none⟩) ∧ g = .slice Aq' m (cq - 1) ∧ W1.heap.size ≤ g5 ∧ Cells wx g5 2 (pF q.1 (.slice Ak lq ck)) ∧ Below W1.heap.size W1 wx)
    case first =>
      have d0 : W1.drew.cell? ⟨b, off, none⟩ = some (.int .i64 q.1) := q0
      have d1 : W1.drew.cell? ⟨b, off + 1, none⟩ = some (.slice Ak lq ck) := q1
      go_region
      go_wp2_with fail
      go_meet
      exact ⟨_, rfl, rfl, Nat.le_refl _, Cells.drew (Cells.new (n := 2) rfl rfl), bel_drew ((Below.refl _ _).alloc (Nat.le_refl _) _)⟩
    case rest =>
      obtain ⟨W2, hWc⟩ : ∃ W, W = wc := ⟨_, rfl⟩
      subst hWc
      obtain ⟨g5, rfl, rfl, hg5, hC5, hB2⟩ := hcut
      have HB2 := Lib.hid hB2
      have CQ := Lib.hid hC5
      have CP2 := Lib.hid (CP.out.call hB2)
      have HA2 := Lib.hid (HA1.out.below hB2)
      have HK2 := Lib.hid (HK1.out.below hB2)
      have HQ2 := Lib.hid (HQ1.out.below hB2)
      clear hC5 hB2 q0 q1 CP HK1 HA1 HQ1
      have p0 : W2.cell? ⟨w.heap.size, 0, none⟩ = some (.int .i64 (dn : Int)) := CP2.out.cell (show 0 < 2 by omega)
      have p1 : W2.cell? ⟨w.heap.size, 1, none⟩ = some (.slice A n c) := CP2.out.cell (show 1 < 2 by omega)
      have r0 : W2.cell? ⟨g5, 0, none⟩ = some (.int .i64 q.1) := CQ.out.cell (show 0 < 2 by omega)
      have r1 : W2.cell? ⟨g5, 1, none⟩ = some (.slice Ak lq ck) := CQ.out.cell (show 1 < 2 by omega)
      have dB : Below W2.heap.size W2 W2 := Below.refl _ _
      have HF := Lib.hid hF.tail
      rw [hlq] at HF
      have HJ9 : Hid (Nine (jnL (fun x y => x && y) dn K q.2 n)) := Lib.hid (jnL_nine hd)
      have HJS : Hid (SmallP (jnL (fun x y => x && y) dn K q.2 n)) := Lib.hid (jnL_small hd)
      have HJL : Hid ((jnL (fun x y => x && y) dn K q.2 n).length = n) := Lib.hid (jnL_length _ _ _ _ _)
      have HIH := Lib.hid ih
      have hg1 := ghI_le hd hn (ps := qs) (by omega) hN
      have hg2 := ghI_le hd hn (ps := qs) (by omega) (jnL_nine hd (f := fun x y => x && y) (ks := K) (ls := q.2) (n := n))
      have HGH : Hid (ghI dn n (q :: qs) K = ghI dn n qs K - ghI dn n qs (jnL (fun x y => x && y) dn K q.2 n)) := Lib.hid rfl
      have HCM : Hid (∀ (c1 c2 : Nat) (W : World), KnobsA W A n K → KnobsA W Ak lq q.2 → Calls Try.prog 65 #[.agg #[.int .i64 (dn : Int), .slice A n c1], .agg #[.int .i64 q.1, .slice Ak lq c2]] W (PinsGot W dn (jnL (fun x y => x && y) dn K q.2 n))) := Lib.hid (fun c1 c2 W h1 h2 => common_any dn q.1 A Ak n lq c1 c2 K q.2 W hn HF.out.1 hd h1 h2 hS HF.out.2.1)
      clear ih CP2 CQ
      generalize jnL (fun x y => x && y) dn K q.2 n = J at HJ9 HJS HJL hg2 HGH HCM
      have HI1 : Hid (∀ W : World, Below W2.heap.size W2 W → Calls Try.prog 44 #[.agg #[.int .i64 (dn : Int), .slice A n c], .slice Aq' m (cq - 1)] W fun e w' => e = .returned (.int .i64 (ghI dn n qs K)) ∧ Below W.heap.size W w') := Lib.hid (fun W hb => HIH.out A Aq' c m (cq - 1) K W (by omega) (HK2.out.below hb) hS hN (by omega) (HA2.out.below hb) HF.out.2.2)
      have HI2 : Hid (∀ (W : World) (A3 : Option Addr) (c3 : Nat), Below W2.heap.size W2 W → KnobsA W A3 n J → Calls Try.prog 44 #[.agg #[.int .i64 (dn : Int), .slice A3 n c3], .slice Aq' m (cq - 1)] W fun e w' => e = .returned (.int .i64 (ghI dn n qs J)) ∧ Below W.heap.size W w') := Lib.hid (fun W A3 c3 hb hk => HIH.out A3 Aq' c3 m (cq - 1) J W (by omega) hk HJS.out HJ9.out (by omega) (HA2.out.below hb) HF.out.2.2)
      generalize ghI dn n qs K = z1 at hg1 HI1 HGH
      generalize ghI dn n qs J = z2 at hg2 HI2 HGH
      have hwz : IntKind.i64.wrap (z1 - z2) = z1 - z2 := by rw [IntKind.wrap_i64]; omega
      go_wp2_with fail
      refine wp_region_held_drew (S := (fun w' => w'.cell? ⟨w.heap.size, 0, none⟩ = some (.int .i64 (dn : Int)) ∧ w'.cell? ⟨w.heap.size, 1, none⟩ = some (.slice A n c) ∧ w'.cell? ⟨g5, 0, none⟩ = some (.int .i64 q.1) ∧ w'.cell? ⟨g5, 1, none⟩ = some (.slice Ak lq ck) ∧ Below W2.heap.size W2 w')) (by kernel_rfl) ⟨p0, p1, r0, r1, bel_drew dB⟩ (fun hHeld => ?_)
      clear p0 p1 r0 r1 dB
      (refine wpAnyH_take (i := 0) (v := ?_) rfl (by kernel_rfl) (by kernel_rfl) (by kernel_rfl) (fun _ _ _ h => h) (Or.inl ⟨by rfl, by intro w hSw; (try dsimp only at hSw); go_simp; try with_reducible rfl⟩) (by assumption) ?_; try simp only [Act.put, List.getElem_toArray, List.getElem_cons_zero, List.setIfInBounds_toArray, List.set_cons_zero, List.set_cons_succ])
      (refine wpAnyH_take (i := 1) (v := ?_) rfl (by kernel_rfl) (by kernel_rfl) (by kernel_rfl) (fun _ _ _ h => h) (Or.inl ⟨by rfl, by intro w hSw; (try dsimp only at hSw); go_simp; try with_reducible rfl⟩) (by assumption) ?_; try simp only [Act.put, List.getElem_toArray, List.getElem_cons_zero, List.getElem_cons_succ, List.setIfInBounds_toArray, List.set_cons_zero, List.set_cons_succ])
      (refine wpAnyH_take (i := 3) (v := ?_) rfl (by kernel_rfl) (by kernel_rfl) (by kernel_rfl) (fun _ _ _ h => h) (Or.inl ⟨by rfl, by intro w hSw; (try dsimp only at hSw); go_simp; try with_reducible rfl⟩) (by assumption) ?_; try simp only [Act.put, List.getElem_toArray, List.getElem_cons_zero, List.getElem_cons_succ, List.setIfInBounds_toArray, List.set_cons_zero, List.set_cons_succ])
      (refine wpAnyH_take (i := 4) (v := ?_) rfl (by kernel_rfl) (by kernel_rfl) (by kernel_rfl) (fun _ _ _ h => h) (Or.inl ⟨by rfl, by intro w hSw; (try dsimp only at hSw); go_simp; try with_reducible rfl⟩) (by assumption) ?_; try simp only [Act.put, List.getElem_toArray, List.getElem_cons_zero, List.getElem_cons_succ, List.setIfInBounds_toArray, List.set_cons_zero, List.set_cons_succ])
      (refine wpAnyH_take (i := 6) (v := ?_) rfl (by kernel_rfl) (by kernel_rfl) (by kernel_rfl) (fun _ _ _ h => h) (Or.inl ⟨by rfl, by intro w hSw; (try dsimp only at hSw); go_simp; try with_reducible rfl⟩) (by assumption) ?_; try simp only [Act.put, List.getElem_toArray, List.getElem_cons_zero, List.getElem_cons_succ, List.setIfInBounds_toArray, List.set_cons_zero, List.set_cons_succ])
      (refine wpAnyH_ready (rs := [2]) (by kernel_rfl) (by simp) (AllReadyH.cons rfl (fun K hK => ?_) AllReadyH.nil); rw [if_pos (by rfl)]; simp only [List.getElem_toArray, List.getElem_cons_zero, List.getElem_cons_succ]; go_wp2_with ((go_at_call 44; refine (call_s4 hHeld (HI1.out _ hHeld.2.2.2.2)).mono ?_; rintro e w3 ⟨rfl, hS3⟩)); refine hK.out _ _ hS3 (fun hHeld => ?_); clear hK K; try simp only [Act.put, List.getElem_toArray, List.getElem_cons_zero, List.getElem_cons_succ, List.setIfInBounds_toArray, List.set_cons_zero, List.set_cons_succ])
      (refine wpAnyH_ready (rs := [5]) (by kernel_rfl) (by simp) (AllReadyH.cons rfl (fun K hK => ?_) AllReadyH.nil); rw [if_pos (by rfl)]; simp only [List.getElem_toArray, List.getElem_cons_zero, List.getElem_cons_succ]; go_wp2_with ((go_at_call 65; refine (call_s4 hHeld (got_below (HCM.out _ _ _ (HK2.out.below hHeld.2.2.2.2) (HQ2.out.below hHeld.2.2.2.2)))).mono ?_; rintro e w4 ⟨⟨A4, c4, rfl, hR4⟩, hS4⟩; rw [HJL.out] at hR4 ⊢)); refine hK.out _ _ hS4 (fun hHeld => ?_); clear hK K; try simp only [Act.put, List.getElem_toArray, List.getElem_cons_zero, List.getElem_cons_succ, List.setIfInBounds_toArray, List.set_cons_zero, List.set_cons_succ])
      (refine wpAnyH_ready (rs := [7]) (by kernel_rfl) (by simp) (AllReadyH.cons rfl (fun K hK => ?_) AllReadyH.nil); rw [if_pos (by rfl)]; simp only [List.getElem_toArray, List.getElem_cons_zero, List.getElem_cons_succ]; go_wp2_with ((go_at_call 44; refine (call_s4 hHeld (HI2.out _ _ _ hHeld.2.2.2.2 (hR4.knobs (nine_max HJ9.out)))).mono ?_; rintro e w5 ⟨rfl, hS5⟩)); refine hK.out _ _ hS5 (fun hHeld => ?_); clear hK K; try simp only [Act.put, List.getElem_toArray, List.getElem_cons_zero, List.getElem_cons_succ, List.setIfInBounds_toArray, List.set_cons_zero, List.set_cons_succ])
      (refine wpAnyH_take (i := 8) (v := ?_) rfl (by kernel_rfl) (by kernel_rfl) (by kernel_rfl) (fun _ _ _ h => h) (Or.inl ⟨by rfl, by intro w hSw; (try dsimp only at hSw); go_simp; try with_reducible rfl⟩) (by assumption) ?_; try simp only [Act.put, List.getElem_toArray, List.getElem_cons_zero, List.getElem_cons_succ, List.setIfInBounds_toArray, List.set_cons_zero, List.set_cons_succ])
      (refine wpAnyH_take (i := 9) (v := ?_) rfl (by kernel_rfl) (by kernel_rfl) (by kernel_rfl) (fun _ _ _ h => h) (Or.inl ⟨by rfl, by intro w hSw; (try dsimp only at hSw); go_simp; try with_reducible rfl⟩) (by assumption) ?_; try simp only [Act.put, List.getElem_toArray, List.getElem_cons_zero, List.getElem_cons_succ, List.setIfInBounds_toArray, List.set_cons_zero, List.set_cons_succ])
      refine wpAnyH_done (by kernel_rfl) ?_ _
      go_wp2_with fail
      go_ret
      rw [HGH.out]
      exact ⟨rfl, bel_call (bel_call HB1.out HB2.out) hS5.2.2.2.2⟩

theorem fit_list {ps : List Pn} (h : listB ps = true) : Fit ps := fun k hk => by
  obtain ⟨_, _, lk⟩ := listB_yes h
  have hp := (okP_yes (lk k hk)).1
  exact ⟨by have := pinsB_yes hp; omega, pins_small hp⟩

set_option maxHeartbeats 2000000 in
theorem ghostKeys_any (A : Option Addr) (n c : Nat) (ps : List Pn) (w : World) (hn : n ≤ maxLen) (hnc : n ≤ c) (hA : ArgP w A n ps) (hF : Few ps) :
    Calls Try.prog 20 #[.slice A n c] w fun e w' => e = .returned (.tuple #[.int .i64 (ghZ ps), .bool (listB ps)]) ∧ Below w.heap.size w w' := by
  have HA := Lib.hid hA
  have HN := Lib.hid hA.len
  have HF := Lib.hid hF
  have HMX := Lib.hid hn
  clear hA hF hn
  have HCK : Hid (Calls Try.prog 43 #[.slice A n c] w (PinsOut w (cbD ps) (cbK (fun x y => x || y) ps) (listB ps))) := Lib.hid (masterOf_any _ _ _ ps _ HMX.out HA.out HF.out)
  obtain ⟨v, HV⟩ : ∃ v, Hid (listB ps = v) := ⟨_, Lib.hid rfl⟩
  rcases v with _ | _
  · have HZ : Hid (ghZ ps = 0) := Lib.hid (by unfold ghZ; rw [HV.out]; rfl)
    rw [HZ.out, HV.out]
    rw [HV.out] at HCK
    generalize cbK (fun x y => x || y) ps = K0 at HCK
    generalize cbD ps = d0 at HCK
    go_enter Try.func20, Try.ntmps20
    go_wp2_with (go_at_call 43; refine HCK.out.mono ?_; rintro e w1 ⟨v1, rfl, hR1, hb1⟩; obtain ⟨A1, c1, rfl⟩ := hR1.slice)
    go_ret2
    exact ⟨rfl, hb1.alloc hb1.size _⟩
  · obtain ⟨l1, l6, lk⟩ := listB_yes HV.out
    have hp0 := pinsB_yes (okP_yes (lk 0 l1)).1
    have HZ : Hid (ghZ ps = ghI (ps.getD 0 pn0).1.toNat (ps.getD 0 pn0).2.length ps (cbN (fun x y => x || y) ps ps.length)) := Lib.hid (by unfold ghZ; rw [HV.out]; rfl)
    have HFT := Lib.hid (fit_list HV.out)
    have HK9 : Hid (Nine (cbN (fun x y => x || y) ps ps.length)) := Lib.hid (cbN_nine (okP_yes (lk 0 l1)).1 _)
    have HKS : Hid (SmallP (cbN (fun x y => x || y) ps ps.length)) := Lib.hid (cbN_small (okP_yes (lk 0 l1)).1 _)
    have HKL : Hid ((cbN (fun x y => x || y) ps ps.length).length = (ps.getD 0 pn0).2.length) := Lib.hid (cbN_length _ _ _)
    rw [HZ.out, HV.out]
    rw [HV.out, cbK_yes HV.out, cbD_yes HV.out] at HCK
    obtain ⟨dn, hdn⟩ : ∃ dn : Nat, (ps.getD 0 pn0).1 = (dn : Int) := ⟨(ps.getD 0 pn0).1.toNat, by omega⟩
    rw [hdn] at HCK hp0 ⊢
    rw [Int.toNat_natCast]
    generalize cbN (fun x y => x || y) ps ps.length = K0 at HCK HK9 HKS HKL ⊢
    generalize (ps.getD 0 pn0).2.length = np at HKL hp0 ⊢
    clear lk hdn HZ
    go_enter Try.func20, Try.ntmps20
    go_wp2_with (first
      | (go_at_call 43; refine HCK.out.mono ?_; rintro e w1 ⟨v1, rfl, hR1, hb1⟩; obtain ⟨A1, c1, rfl⟩ := hR1.slice; rw [HKL.out] at hR1 ⊢
         have HB1 := Lib.hid (hb1.alloc hb1.size (.cells #[.int .i64 (dn : Int), .slice A1 np c1] 26))
         have HR1 := Lib.hid (hR1.alloc (.cells #[.int .i64 (dn : Int), .slice A1 np c1] 26))
         clear hb1 hR1)
      | (go_at_call 44; refine (countGhosts_any dn np (by omega) (by omega) ps _ _ _ _ _ K0 _ l6 (HR1.out.knobs (nine_max HK9.out)) HKS.out HK9.out hnc (HA.out.below HB1.out) HFT.out).mono ?_; rintro e w3 ⟨rfl, hb3⟩))
    go_ret2
    exact ⟨rfl, bel_call HB1.out hb3⟩

end Go.Proofs.Ytaajklkldfgppaa
