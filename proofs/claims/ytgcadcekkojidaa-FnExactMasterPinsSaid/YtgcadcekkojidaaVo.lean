/- Masters, keys that are shared, and how many there are, as the model and the program tell it. For pins with at most 1048576 numbers each. -/
import Derived.Test.YtgcadcekkojidaaVn
namespace Go.Proofs.Ytgcadcekkojidaa
open Go.ChangeShapes Go.WideShapes Go.ChangeAt Go.RowKit Go.Joins

theorem andB_eq : cbN (bothB true) = cbN (fun x y => x && y) := by
  funext ps k
  exact cbN_congr both_and ps k

theorem orB_eq : cbN (bothB false) = cbN (fun x y => x || y) := by
  funext ps k
  exact cbN_congr both_or ps k

theorem cbD_yes {ps : List Pn} (h : listB ps = true) : cbD ps = (ps.getD 0 pn0).1 := by unfold cbD; rw [h, if_pos rfl]

theorem cbK_yes {f : Bool → Bool → Bool} {ps : List Pn} (h : listB ps = true) : cbK f ps = cbN f ps ps.length := by unfold cbK; rw [h, if_pos rfl]

theorem cbD_no {ps : List Pn} (h : listB ps = false) : cbD ps = 0 := by unfold cbD; rw [h]; rfl

theorem cbK_no {f : Bool → Bool → Bool} {ps : List Pn} (h : listB ps = false) : cbK f ps = [] := by unfold cbK; rw [h]; rfl

set_option maxHeartbeats 2000000 in
theorem specMasterOf_any (A : Option Addr) (n c : Nat) (ps : List Pn) (w : World) (hn : n ≤ maxLen) (hA : ArgP w A n ps) (hF : Few ps) :
    Calls Try.prog 52 #[.slice A n c] w (PinsOut w (cbD ps) (cbK (fun x y => x || y) ps) (listB ps)) := by
  have HA := Lib.hid hA
  have HN := Lib.hid hA.len
  have HF := Lib.hid hF
  have HMX := Lib.hid hn
  clear hA hF
  have HB0 := Lib.hid (show Below w.heap.size w (w.alloc (.cells #[.int .i64 0, .slice none 0 0] 27)) from (Below.refl _ _).alloc (Nat.le_refl _) _)
  have CQ := Lib.hid (Cells.new (W := w) (cs := #[.int .i64 0, .slice none 0 0]) (t := 27) (g := w.heap.size) (n := 2) rfl rfl)
  obtain ⟨v, HV⟩ : ∃ v, Hid (listB ps = v) := ⟨_, Lib.hid rfl⟩
  rcases v with _ | _
  · rw [cbD_no HV.out, cbK_no HV.out, HV.out]
    go_enter Try.func52, Try.ntmps52
    go_wp2_with (go_at_call 88; refine (keList_any _ _ _ ps _ HMX.out (HA.out.below HB0.out) HF.out).mono ?_; rw [HV.out]; rintro e w1 ⟨rfl, hb1⟩; have HB1 := Lib.hid (bel_call HB0.out hb1); have HQ1 := Lib.hid (CQ.out.call hb1); have q0 : w1.cell? ⟨w.heap.size, 0, none⟩ = some (.int .i64 0) := HQ1.out.cell (show 0 < 2 by omega); have q1 : w1.cell? ⟨w.heap.size, 1, none⟩ = some (.slice none 0 0) := HQ1.out.cell (show 1 < 2 by omega); have f0 := HQ1.out.frozen (show 0 < 2 by omega); have f1 := HQ1.out.frozen (show 1 < 2 by omega); clear hb1)
    refine bodyPost_ret (v := .tuple #[.agg #[.int .i64 0, .slice none 0 0], .bool false]) (by simp [results, Try.results52, go_sem, q0, q1]) rfl (pinsOut_no rfl ?_)
    iterate 2 (refine Below.setCell ?_ (by show w.heap.size ≤ w.heap.size; omega) _)
    exact HB1.out
  · rw [cbD_yes HV.out, cbK_yes HV.out, HV.out]
    have HL : Hid ((cbN (fun x y => x || y) ps ps.length).length = (ps.getD 0 pn0).2.length) := Lib.hid (cbN_length _ _ _)
    go_enter Try.func52, Try.ntmps52
    go_wp2_with (first
      | (go_at_call 88; refine (keList_any _ _ _ ps _ HMX.out (HA.out.below HB0.out) HF.out).mono ?_; rw [HV.out]; rintro e w1 ⟨rfl, hb1⟩
         have HB1 := Lib.hid (bel_call HB0.out hb1)
         have HQ1 := Lib.hid (CQ.out.call hb1)
         clear hb1)
      | (go_at_call 89; refine (keJoined_any _ _ _ ps false _ (HA.out.below HB1.out) HV.out).mono ?_; rw [orB_eq, ← HN.out]; rintro e w2 ⟨v2, rfl, hR2, hb2⟩
         obtain ⟨A2, c2, rfl⟩ := hR2.slice
         rw [HL.out] at hR2 ⊢
         have HR2 := Lib.hid (hR2.weak HB1.out.size)
         have HB2 := Lib.hid (bel_call HB1.out hb2)
         have HQ2 := Lib.hid (HQ1.out.call hb2)
         have hlt := HQ1.out.lt
         have HR3 := Lib.hid ((hR2.under (p := ⟨w.heap.size, 0, none⟩) hlt (.int .i64 (ps.getD 0 pn0).1)).under (p := ⟨w.heap.size, 1, none⟩) hlt (.slice A2 (ps.getD 0 pn0).2.length c2))
         have q0 : w2.cell? ⟨w.heap.size, 0, none⟩ = some (.int .i64 0) := HQ2.out.cell (show 0 < 2 by omega)
         have q1 : w2.cell? ⟨w.heap.size, 1, none⟩ = some (.slice none 0 0) := HQ2.out.cell (show 1 < 2 by omega)
         have f0 := HQ2.out.frozen (show 0 < 2 by omega)
         have f1 := HQ2.out.frozen (show 1 < 2 by omega)
         clear hb2 hR2))
    refine bodyPost_ret (v := .tuple #[.agg #[.int .i64 (ps.getD 0 pn0).1, .slice A2 (ps.getD 0 pn0).2.length c2], .bool true]) (by simp [results, Try.results52, go_sem, q0, q1]) rfl ⟨_, rfl, HR3.out.weak HB1.out.size, ?_⟩
    iterate 2 (refine Below.setCell ?_ (by show w.heap.size ≤ w.heap.size; omega) _)
    exact HB2.out

theorem cbK_len {f : Bool → Bool → Bool} {ps : List Pn} : (cbK f ps).length ≤ 7 := by
  unfold cbK
  split
  · rename_i h
    obtain ⟨l1, _, lk⟩ := listB_yes h
    have := pinsB_yes (okP_yes (lk 0 l1)).1
    rw [cbN_length]
    omega
  · exact Nat.zero_le _

theorem cbK_nine {f : Bool → Bool → Bool} {ps : List Pn} : Nine (cbK f ps) := by
  unfold cbK
  split
  · rename_i h
    obtain ⟨l1, _, lk⟩ := listB_yes h
    exact cbN_nine (okP_yes (lk 0 l1)).1 _
  · intro i; exact Nat.zero_le _

set_option maxHeartbeats 2000000 in
theorem masterOf_any (A : Option Addr) (n c : Nat) (ps : List Pn) (w : World) (hn : n ≤ maxLen) (hA : ArgP w A n ps) (hF : Few ps) :
    Calls Try.prog 53 #[.slice A n c] w (PinsOut w (cbD ps) (cbK (fun x y => x || y) ps) (listB ps)) := by
  have HB0 := Lib.hid (show Below w.heap.size w (w.alloc (.cells #[.int .i64 0, .slice none 0 0] 27)) from (Below.refl _ _).alloc (Nat.le_refl _) _)
  have CQ := Lib.hid (Cells.new (W := w) (cs := #[.int .i64 0, .slice none 0 0]) (t := 27) (g := w.heap.size) (n := 2) rfl rfl)
  go_enter Try.func53, Try.ntmps53
  go_wp2_with (first
    | (go_at_call 90; refine (combined_joined _ _ _ ps _ hn (hA.below HB0.out) hF).mono ?_; rintro e w2 ⟨v2, rfl, hR2, hb2⟩
       obtain ⟨A2, c2, rfl⟩ := hR2.slice
       have HB2 := Lib.hid (bel_call HB0.out hb2)
       have HQ2 := Lib.hid (CQ.out.call hb2)
       have hlt := CQ.out.lt
       have HR3 := Lib.hid ((hR2.under (p := ⟨w.heap.size, 0, none⟩) hlt (.int .i64 (cbD ps))).under (p := ⟨w.heap.size, 1, none⟩) hlt (.slice A2 (cbK (fun x y => x || y) ps).length c2))
       have q0 : w2.cell? ⟨w.heap.size, 0, none⟩ = some (.int .i64 0) := HQ2.out.cell (show 0 < 2 by omega)
       have q1 : w2.cell? ⟨w.heap.size, 1, none⟩ = some (.slice none 0 0) := HQ2.out.cell (show 1 < 2 by omega)
       have f0 := HQ2.out.frozen (show 0 < 2 by omega)
       have f1 := HQ2.out.frozen (show 1 < 2 by omega)
       clear hb2 hR2))
  refine bodyPost_ret (v := .tuple #[.agg #[.int .i64 (cbD ps), .slice A2 (cbK (fun x y => x || y) ps).length c2], .bool (listB ps)]) (by simp [results, Try.results53, go_sem, q0, q1]) rfl ⟨_, rfl, HR3.out.weak HB0.out.size, ?_⟩
  iterate 2 (refine Below.setCell ?_ (by show w.heap.size ≤ w.heap.size; omega) _)
  exact HB2.out

/-- How many keys are shared. -/
def csZ (ps : List Pn) : Int := if listB ps then (ctP (cbN (fun x y => x && y) ps ps.length) (ps.getD 0 pn0).2.length : Int) else 0

set_option maxHeartbeats 2000000 in
theorem specCountShared_any (A : Option Addr) (n c : Nat) (ps : List Pn) (w : World) (hn : n ≤ maxLen) (hA : ArgP w A n ps) (hF : Few ps) :
    Calls Try.prog 48 #[.slice A n c] w fun e w' => e = .returned (.tuple #[.int .i64 (csZ ps), .bool (listB ps)]) ∧ Below w.heap.size w w' := by
  have HA := Lib.hid hA
  have HN := Lib.hid hA.len
  have HF := Lib.hid hF
  have HMX := Lib.hid hn
  clear hA hF
  obtain ⟨v, HV⟩ : ∃ v, Hid (listB ps = v) := ⟨_, Lib.hid rfl⟩
  rcases v with _ | _
  · have HZ : Hid (csZ ps = 0) := Lib.hid (by unfold csZ; rw [HV.out]; rfl)
    rw [HZ.out, HV.out]
    go_enter Try.func48, Try.ntmps48
    go_wp2_with (go_at_call 88; refine (keList_any _ _ _ ps _ HMX.out HA.out HF.out).mono ?_; rw [HV.out]; rintro e w1 ⟨rfl, hb1⟩)
    go_ret2
    exact ⟨rfl, hb1⟩
  · have HZ : Hid (csZ ps = (ctP (cbN (fun x y => x && y) ps ps.length) (ps.getD 0 pn0).2.length : Int)) := Lib.hid (by unfold csZ; rw [HV.out, if_pos rfl])
    rw [HZ.out, HV.out]
    obtain ⟨l1, _, lk⟩ := listB_yes HV.out
    have hg := (okP_yes (lk 0 l1)).1
    have HLN : Hid ((ps.getD 0 pn0).2.length ≤ 7) := Lib.hid (by have := pinsB_yes hg; omega)
    have HNI := Lib.hid (cbN_nine (f := (fun x y => x && y)) hg ps.length)
    have HL : Hid ((cbN (fun x y => x && y) ps ps.length).length = (ps.getD 0 pn0).2.length) := Lib.hid (cbN_length _ _ _)
    clear l1 lk hg
    go_enter Try.func48, Try.ntmps48
    go_wp2_with (first
      | (go_at_call 88; refine (keList_any _ _ _ ps _ HMX.out HA.out HF.out).mono ?_; rw [HV.out]; rintro e w1 ⟨rfl, hb1⟩
         have HB1 := Lib.hid hb1
         clear hb1)
      | (go_at_call 89; refine (keJoined_any _ _ _ ps true _ (HA.out.below HB1.out) HV.out).mono ?_; rw [andB_eq, ← HN.out]; rintro e w2 ⟨v2, rfl, hR2, hb2⟩
         obtain ⟨A2, c2, rfl⟩ := hR2.slice
         rw [HL.out] at hR2 ⊢
         have HR2 := Lib.hid hR2
         have HB2 := Lib.hid (bel_call HB1.out hb2)
         clear hb2 hR2)
      | (go_at_call 77; refine (keCount_any _ _ _ _ (cbN (fun x y => x && y) ps ps.length) _ HLN.out (HR2.out.knobs (nine_max HNI.out)) HNI.out).mono ?_; rintro e w3 ⟨rfl, hb3⟩))
    go_ret2
    exact ⟨rfl, bel_call HB2.out hb3⟩

set_option maxHeartbeats 2000000 in
theorem countShared_any (A : Option Addr) (n c : Nat) (ps : List Pn) (w : World) (hn : n ≤ maxLen) (hA : ArgP w A n ps) (hF : Few ps) :
    Calls Try.prog 49 #[.slice A n c] w fun e w' => e = .returned (.tuple #[.int .i64 (csZ ps), .bool (listB ps)]) ∧ Below w.heap.size w w' := by
  have HA := Lib.hid hA
  have HF := Lib.hid hF
  have HMX := Lib.hid hn
  clear hA hF
  have HLN : Hid ((cbK (fun x y => x && y) ps).length ≤ 7) := Lib.hid cbK_len
  have HNI : Hid (Nine (cbK (fun x y => x && y) ps)) := Lib.hid cbK_nine
  have HZ : Hid (listB ps = true → csZ ps = (ctP (cbK (fun x y => x && y) ps) (cbK (fun x y => x && y) ps).length : Int)) := Lib.hid (fun h => by unfold csZ; rw [h, if_pos rfl, cbK_yes h, cbN_length])
  have HZ0 : Hid (listB ps = false → csZ ps = 0) := Lib.hid (fun h => by unfold csZ; rw [h]; rfl)
  have HCK : Hid (Calls Try.prog 90 #[.slice A n c, .func (.func 91) #[] #[]] w (PinsOut w (cbD ps) (cbK (fun x y => x && y) ps) (listB ps))) := Lib.hid (combined_common _ _ _ ps _ HMX.out HA.out HF.out)
  generalize cbK (fun x y => x && y) ps = K0 at HLN HNI HZ HCK
  obtain ⟨m, hm⟩ : ∃ m, K0.length = m := ⟨_, rfl⟩
  have HM := Lib.hid hm
  rw [hm] at HLN HZ
  clear hm
  generalize cbD ps = d0 at HCK
  obtain ⟨v, HV⟩ : ∃ v, Hid (listB ps = v) := ⟨_, Lib.hid rfl⟩
  rw [HV.out] at HZ HZ0 HCK
  rw [HV.out]
  generalize csZ ps = z at HZ HZ0 ⊢
  rcases v with _ | _
  · have hz := HZ0.out rfl
    subst hz
    go_enter Try.func49, Try.ntmps49
    go_wp2_with (go_at_call 90; refine HCK.out.mono ?_; rintro e w1 ⟨v1, rfl, hR1, hb1⟩; obtain ⟨A1, c1, rfl⟩ := hR1.slice; rw [HM.out] at hR1 ⊢)
    go_ret2
    exact ⟨rfl, hb1.alloc hb1.size _⟩
  · have hz := HZ.out rfl
    subst hz
    go_enter Try.func49, Try.ntmps49
    go_wp2_with (first
      | (go_at_call 90; refine HCK.out.mono ?_; rintro e w1 ⟨v1, rfl, hR1, hb1⟩; obtain ⟨A1, c1, rfl⟩ := hR1.slice; rw [HM.out] at hR1 ⊢
         have HB1 := Lib.hid (hb1.alloc hb1.size (.cells #[.int .i64 d0, .slice A1 m c1] 27))
         have HR1 := Lib.hid (hR1.alloc (.cells #[.int .i64 d0, .slice A1 m c1] 27))
         clear hb1 hR1)
      | (go_at_call 92; refine (countKeysP_any _ _ _ _ K0 _ HLN.out (HR1.out.knobs (nine_max HNI.out)) HNI.out).mono ?_; rintro e w3 ⟨rfl, hb3⟩))
    go_ret2
    exact ⟨rfl, bel_call HB1.out hb3⟩

set_option maxRecDepth 100000 in
/-- A list of one. -/
theorem argP_one {w : World} {A : Option Addr} {n c : Nat} {d : Int} {ks : List (List Int)} {t : TypeId} (hA : KnobsA w A n ks) (hn : n ≤ maxLen) : ArgP (w.alloc (.cells #[.int .i64 d, .slice A n c] t)) (some ⟨w.heap.size, 0, none⟩) 1 [(d, ks)] := by
  obtain rfl := hA.len
  refine ⟨rfl, .inr ⟨w.heap.size, 0, rfl, by simp, fun k hk => ?_⟩⟩
  obtain rfl : k = 0 := by omega
  have CB := Cells.new (W := w) (cs := #[.int .i64 d, .slice A ks.length c]) (t := t) (g := w.heap.size) (n := 2) rfl rfl
  exact ⟨A, c, CB.cell (show 0 < 2 by omega), CB.cell (show 1 < 2 by omega), hn, hA.below ((Below.refl _ _).alloc (Nat.le_refl _) _)⟩

set_option maxRecDepth 100000 in
/-- A list of two. -/
theorem argP_two {w : World} {A1 A2 : Option Addr} {n1 n2 c1 c2 : Nat} {d1 d2 : Int} {ks ls : List (List Int)} {t : TypeId} (h1 : KnobsA w A1 n1 ks) (h2 : KnobsA w A2 n2 ls) (m1 : n1 ≤ maxLen) (m2 : n2 ≤ maxLen) : ArgP (w.alloc (.cells #[.int .i64 d1, .slice A1 n1 c1, .int .i64 d2, .slice A2 n2 c2] t)) (some ⟨w.heap.size, 0, none⟩) 2 [(d1, ks), (d2, ls)] := by
  obtain rfl := h1.len
  obtain rfl := h2.len
  refine ⟨rfl, .inr ⟨w.heap.size, 0, rfl, by simp, fun k hk => ?_⟩⟩
  have CB := Cells.new (W := w) (cs := #[.int .i64 d1, .slice A1 ks.length c1, .int .i64 d2, .slice A2 ls.length c2]) (t := t) (g := w.heap.size) (n := 4) rfl rfl
  have : k = 0 ∨ k = 1 := by omega
  rcases this with rfl | rfl
  · exact ⟨A1, c1, CB.cell (show 0 < 4 by omega), CB.cell (show 1 < 4 by omega), m1, h1.below ((Below.refl _ _).alloc (Nat.le_refl _) _)⟩
  · exact ⟨A2, c2, CB.cell (show 2 < 4 by omega), CB.cell (show 3 < 4 by omega), m2, h2.below ((Below.refl _ _).alloc (Nat.le_refl _) _)⟩

theorem kindB_self (d : Int) (n : Nat) : kindB d n d n = true := by unfold kindB; rw [decide_eq_true rfl, decide_eq_true rfl]; rfl

theorem listB_one (d : Int) (ks : List (List Int)) : listB [(d, ks)] = pinsB d ks := by
  unfold listB okP
  simp [kindB_self, inB]

theorem jn_self {d : Int} {ks : List (List Int)} (h : pinsB d ks = true) (f : Bool → Bool → Bool) (hf : ∀ a, f a a = a) : jnL f d.toNat ks ks ks.length = ks := by
  obtain ⟨h1, _, _, _, h5⟩ := pinsB_yes h
  unfold jnL
  refine Eq.trans (rwL_congr (g := fun i => ks.getD i []) fun i hi => ?_) (rwL_self ks)
  refine Eq.trans (lsN_congr (Q := hasB (ks.getD i [])) fun e _ => hf _) ?_
  refine rise_eq ?_
  rw [show ((d.toNat : Nat) : Int) = d by omega]
  exact (h5 i hi).2

theorem few_one {d : Int} {ks : List (List Int)} {n : Nat} (hn : ks.length = n) (hm : n + lensAt ks n ≤ 1048576) : Few [(d, ks)] := fun k hk => by
  subst hn
  obtain rfl : k = 0 := by have : k < 1 := hk; omega
  exact hm

theorem few_two {d1 d2 : Int} {ks ls : List (List Int)} {n1 n2 : Nat} (h1 : ks.length = n1) (h2 : ls.length = n2) (m1 : n1 + lensAt ks n1 ≤ 1048576) (m2 : n2 + lensAt ls n2 ≤ 1048576) : Few [(d1, ks), (d2, ls)] := fun k hk => by
  subst h1 h2
  have : k = 0 ∨ k = 1 := by have : k < 2 := hk; omega
  rcases this with rfl | rfl
  · exact m1
  · exact m2

/-- How many keys open. -/
def ckZ (d : Int) (ks : List (List Int)) : Int := if pinsB d ks then (ctP ks ks.length : Int) else 0

theorem csZ_one (d : Int) (ks : List (List Int)) : csZ [(d, ks)] = ckZ d ks := by
  unfold csZ ckZ
  rw [listB_one]
  by_cases h : pinsB d ks = true
  · rw [if_pos h, if_pos h]
    show ((ctP (jnL _ d.toNat ks ks ks.length) ks.length : Nat) : Int) = _
    rw [jn_self h _ (fun a => by cases a <;> rfl)]
  · rw [if_neg h, if_neg h]

theorem specCountKeys_any (d : Int) (A : Option Addr) (n c : Nat) (ks : List (List Int)) (w : World) (hm : n + lensAt ks n ≤ 1048576) (hA : KnobsA w A n ks) :
    Calls Try.prog 29 #[.agg #[.int .i64 d, .slice A n c]] w fun e w' => e = .returned (.tuple #[.int .i64 (ckZ d ks), .bool (pinsB d ks)]) ∧ Below w.heap.size w w' := by
  have HB0 := Lib.hid (show Below w.heap.size w (w.alloc (.cells #[.int .i64 d, .slice A n c] 27)) from (Below.refl _ _).alloc (Nat.le_refl _) _)
  have CU := Lib.hid (Cells.new (W := w) (cs := #[.int .i64 d, .slice A n c]) (t := 27) (g := w.heap.size) (n := 2) rfl rfl)
  have HA := Lib.hid hA
  have HN := Lib.hid hA.len
  clear hA
  obtain ⟨v, HV⟩ : ∃ v, Hid (pinsB d ks = v) := ⟨_, Lib.hid rfl⟩
  rcases v with _ | _
  · have HZ : Hid (ckZ d ks = 0) := Lib.hid (by unfold ckZ; rw [HV.out]; rfl)
    rw [HZ.out, HV.out]
    go_enter Try.func29, Try.ntmps29
    go_wp2_with (go_at_call 67; refine (keGood_any _ _ _ _ ks _ hm (HA.out.below HB0.out)).mono ?_; rw [HV.out]; rintro e w1 ⟨rfl, hb1⟩)
    go_ret2
    exact ⟨rfl, bel_call HB0.out hb1⟩
  · have HZ : Hid (ckZ d ks = (ctP ks n : Int)) := Lib.hid (by unfold ckZ; rw [HV.out, if_pos rfl, HN.out])
    rw [HZ.out, HV.out]
    have HLN : Hid (n ≤ 7) := Lib.hid (by have := pinsB_yes HV.out; have := HN.out; omega)
    have HNI := Lib.hid (pins_nine HV.out)
    go_enter Try.func29, Try.ntmps29
    go_wp2_with (first
      | (go_at_call 67; refine (keGood_any _ _ _ _ ks _ hm (HA.out.below HB0.out)).mono ?_; rw [HV.out]; rintro e w1 ⟨rfl, hb1⟩
         have HB1 := Lib.hid (bel_call HB0.out hb1)
         have HC1 := Lib.hid (CU.out.call hb1)
         have l0 : w1.cell? ⟨w.heap.size, 0, none⟩ = some (.int .i64 d) := HC1.out.cell (show 0 < 2 by omega)
         have l1 : w1.cell? ⟨w.heap.size, 1, none⟩ = some (.slice A n c) := HC1.out.cell (show 1 < 2 by omega)
         clear hb1)
      | (go_at_call 77; refine (keCount_any _ _ _ _ ks _ HLN.out (HA.out.below HB1.out) HNI.out).mono ?_; rintro e w3 ⟨rfl, hb3⟩))
    go_ret2
    exact ⟨rfl, bel_call HB1.out hb3⟩

set_option maxRecDepth 100000 in
theorem countKeys_any (d : Int) (A : Option Addr) (n c : Nat) (ks : List (List Int)) (w : World) (hm : n + lensAt ks n ≤ 1048576) (hA : KnobsA w A n ks) :
    Calls Try.prog 30 #[.agg #[.int .i64 d, .slice A n c]] w fun e w' => e = .returned (.tuple #[.int .i64 (ckZ d ks), .bool (pinsB d ks)]) ∧ Below w.heap.size w w' := by
  have HB0 := Lib.hid (show Below w.heap.size w (w.alloc (.cells #[.int .i64 d, .slice A n c] 27)) from (Below.refl _ _).alloc (Nat.le_refl _) _)
  have HA := Lib.hid (hA.below HB0.out)
  have HN := Lib.hid hA.len
  have HZ := Lib.hid (csZ_one d ks)
  have HL := Lib.hid (listB_one d ks)
  clear hA
  have HP1 : Hid (ArgP ((w.alloc (.cells #[.int .i64 d, .slice A n c] 27)).alloc (.cells #[.int .i64 d, .slice A n c] 27)) (some ⟨w.heap.size + 1, 0, none⟩) 1 [(d, ks)]) := Lib.hid (by
    have h := argP_one (c := c) (d := d) (t := 27) HA.out (by unfold maxLen; omega)
    rw [World.size_alloc] at h
    exact h)
  have HB1 := Lib.hid (show Below w.heap.size w ((w.alloc (.cells #[.int .i64 d, .slice A n c] 27)).alloc (.cells #[.int .i64 d, .slice A n c] 27)) from by (repeat (first | assumption | exact Below.refl _ _ | (refine Below.alloc ?_ (by first | omega | (simp; done) | (simp; omega)) _) | (refine Below.setCell ?_ (by first | omega | (simp; done) | (simp; omega)) _) | refine bel_drewN ?_ _ | refine bel_drew ?_ | (refine bel_call ?_ (by assumption)))))
  have HCS : Hid (Calls Try.prog 49 #[.slice (some ⟨w.heap.size + 1, 0, none⟩) 1 1] ((w.alloc (.cells #[.int .i64 d, .slice A n c] 27)).alloc (.cells #[.int .i64 d, .slice A n c] 27)) fun e w' => e = .returned (.tuple #[.int .i64 (ckZ d ks), .bool (pinsB d ks)]) ∧ Below ((w.alloc (.cells #[.int .i64 d, .slice A n c] 27)).alloc (.cells #[.int .i64 d, .slice A n c] 27)).heap.size ((w.alloc (.cells #[.int .i64 d, .slice A n c] 27)).alloc (.cells #[.int .i64 d, .slice A n c] 27)) w') := Lib.hid (by
    have h := countShared_any _ 1 1 [(d, ks)] _ (by unfold maxLen; omega) HP1.out (few_one HN.out hm)
    rw [HZ.out, HL.out] at h
    exact h)
  clear HP1 HZ HL
  go_enter Try.func30, Try.ntmps30
  go_wp2_with (go_at_call 49; refine HCS.out.mono ?_; rintro e w1 ⟨rfl, hb1⟩)
  go_ret2
  exact ⟨rfl, bel_call HB1.out hb1⟩

end Go.Proofs.Ytgcadcekkojidaa
