/- Masters, keys that are shared, and how many there are, as the model and the program tell it. For pins with at most 1048576 numbers each. -/
import Derived.Test.YtaajklkldfgppaaVn
namespace Go.Proofs.Ytaajklkldfgppaa
open Go.ChangeShapes Go.WideShapes Go.ChangeAt Go.RowKit Go.Joins

theorem andB_eq : cbN (bothB true) = cbN (fun x y => x && y) := by
  funext ps k
  exact cbN_congr both_and ps k

theorem orB_eq : cbN (bothB false) = cbN (fun x y => x || y) := by
  funext ps k
  exact cbN_congr both_or ps k

theorem cbD_yes {ps : List Pn} (h : listB ps = true) : cbD ps = (ps.getD 0 pn0).1 := by unfold cbD; rw [h, if_pos rfl]

theorem cbK_yes {f : Bool → Bool → Bool} {ps : List Pn} (h : listB ps = true) : cbK f ps = cbN f ps ps.length := by unfold cbK; rw [h, if_pos rfl]

theorem cbD_no {ps : List Pn} (h : listB ps = false) : cbD ps = 0 := by unfold cbD; rw [h]; rfl

theorem cbK_no {f : Bool → Bool → Bool} {ps : List Pn} (h : listB ps = false) : cbK f ps = [] := by unfold cbK; rw [h]; rfl

theorem cbK_len {f : Bool → Bool → Bool} {ps : List Pn} : (cbK f ps).length ≤ 7 := by
  unfold cbK
  split
  · rename_i h
    obtain ⟨l1, _, lk⟩ := listB_yes h
    have := pinsB_yes (okP_yes (lk 0 l1)).1
    rw [cbN_length]
    omega
  · exact Nat.zero_le _

theorem cbK_nine {f : Bool → Bool → Bool} {ps : List Pn} : Nine (cbK f ps) := by
  unfold cbK
  split
  · rename_i h
    obtain ⟨l1, _, lk⟩ := listB_yes h
    exact cbN_nine (okP_yes (lk 0 l1)).1 _
  · intro i; exact Nat.zero_le _

set_option maxHeartbeats 2000000 in
theorem masterOf_any (A : Option Addr) (n c : Nat) (ps : List Pn) (w : World) (hn : n ≤ maxLen) (hA : ArgP w A n ps) (hF : Few ps) :
    Calls Try.prog 43 #[.slice A n c] w (PinsOut w (cbD ps) (cbK (fun x y => x || y) ps) (listB ps)) := by
  have HB0 := Lib.hid (show Below w.heap.size w (w.alloc (.cells #[.int .i64 0, .slice none 0 0] 26)) from (Below.refl _ _).alloc (Nat.le_refl _) _)
  have CQ := Lib.hid (Cells.new (W := w) (cs := #[.int .i64 0, .slice none 0 0]) (t := 26) (g := w.heap.size) (n := 2) rfl rfl)
  go_enter Try.func43, Try.ntmps43
  go_wp2_with (first
    | (go_at_call 75; refine (combined_joined _ _ _ ps _ hn (hA.below HB0.out) hF).mono ?_; rintro e w2 ⟨v2, rfl, hR2, hb2⟩
       obtain ⟨A2, c2, rfl⟩ := hR2.slice
       have HB2 := Lib.hid (bel_call HB0.out hb2)
       have HQ2 := Lib.hid (CQ.out.call hb2)
       have hlt := CQ.out.lt
       have HR3 := Lib.hid ((hR2.under (p := ⟨w.heap.size, 0, none⟩) hlt (.int .i64 (cbD ps))).under (p := ⟨w.heap.size, 1, none⟩) hlt (.slice A2 (cbK (fun x y => x || y) ps).length c2))
       have q0 : w2.cell? ⟨w.heap.size, 0, none⟩ = some (.int .i64 0) := HQ2.out.cell (show 0 < 2 by omega)
       have q1 : w2.cell? ⟨w.heap.size, 1, none⟩ = some (.slice none 0 0) := HQ2.out.cell (show 1 < 2 by omega)
       have f0 := HQ2.out.frozen (show 0 < 2 by omega)
       have f1 := HQ2.out.frozen (show 1 < 2 by omega)
       clear hb2 hR2))
  refine bodyPost_ret (v := .tuple #[.agg #[.int .i64 (cbD ps), .slice A2 (cbK (fun x y => x || y) ps).length c2], .bool (listB ps)]) (by simp [results, Try.results43, go_sem, q0, q1]) rfl ⟨_, rfl, HR3.out.weak HB0.out.size, ?_⟩
  iterate 2 (refine Below.setCell ?_ (by show w.heap.size ≤ w.heap.size; omega) _)
  exact HB2.out

/-- How many keys are shared. -/
def csZ (ps : List Pn) : Int := if listB ps then (ctP (cbN (fun x y => x && y) ps ps.length) (ps.getD 0 pn0).2.length : Int) else 0

set_option maxRecDepth 100000 in
/-- A list of one. -/
theorem argP_one {w : World} {A : Option Addr} {n c : Nat} {d : Int} {ks : List (List Int)} {t : TypeId} (hA : KnobsA w A n ks) (hn : n ≤ maxLen) : ArgP (w.alloc (.cells #[.int .i64 d, .slice A n c] t)) (some ⟨w.heap.size, 0, none⟩) 1 [(d, ks)] := by
  obtain rfl := hA.len
  refine ⟨rfl, .inr ⟨w.heap.size, 0, rfl, by simp, fun k hk => ?_⟩⟩
  obtain rfl : k = 0 := by omega
  have CB := Cells.new (W := w) (cs := #[.int .i64 d, .slice A ks.length c]) (t := t) (g := w.heap.size) (n := 2) rfl rfl
  exact ⟨A, c, CB.cell (show 0 < 2 by omega), CB.cell (show 1 < 2 by omega), hn, hA.below ((Below.refl _ _).alloc (Nat.le_refl _) _)⟩

set_option maxRecDepth 100000 in
/-- A list of two. -/
theorem argP_two {w : World} {A1 A2 : Option Addr} {n1 n2 c1 c2 : Nat} {d1 d2 : Int} {ks ls : List (List Int)} {t : TypeId} (h1 : KnobsA w A1 n1 ks) (h2 : KnobsA w A2 n2 ls) (m1 : n1 ≤ maxLen) (m2 : n2 ≤ maxLen) : ArgP (w.alloc (.cells #[.int .i64 d1, .slice A1 n1 c1, .int .i64 d2, .slice A2 n2 c2] t)) (some ⟨w.heap.size, 0, none⟩) 2 [(d1, ks), (d2, ls)] := by
  obtain rfl := h1.len
  obtain rfl := h2.len
  refine ⟨rfl, .inr ⟨w.heap.size, 0, rfl, by simp, fun k hk => ?_⟩⟩
  have CB := Cells.new (W := w) (cs := #[.int .i64 d1, .slice A1 ks.length c1, .int .i64 d2, .slice A2 ls.length c2]) (t := t) (g := w.heap.size) (n := 4) rfl rfl
  have : k = 0 ∨ k = 1 := by omega
  rcases this with rfl | rfl
  · exact ⟨A1, c1, CB.cell (show 0 < 4 by omega), CB.cell (show 1 < 4 by omega), m1, h1.below ((Below.refl _ _).alloc (Nat.le_refl _) _)⟩
  · exact ⟨A2, c2, CB.cell (show 2 < 4 by omega), CB.cell (show 3 < 4 by omega), m2, h2.below ((Below.refl _ _).alloc (Nat.le_refl _) _)⟩

theorem kindB_self (d : Int) (n : Nat) : kindB d n d n = true := by unfold kindB; rw [decide_eq_true rfl, decide_eq_true rfl]; rfl

theorem listB_one (d : Int) (ks : List (List Int)) : listB [(d, ks)] = pinsB d ks := by
  unfold listB okP
  simp [kindB_self, inB]

theorem jn_self {d : Int} {ks : List (List Int)} (h : pinsB d ks = true) (f : Bool → Bool → Bool) (hf : ∀ a, f a a = a) : jnL f d.toNat ks ks ks.length = ks := by
  obtain ⟨h1, _, _, _, h5⟩ := pinsB_yes h
  unfold jnL
  refine Eq.trans (rwL_congr (g := fun i => ks.getD i []) fun i hi => ?_) (rwL_self ks)
  refine Eq.trans (lsN_congr (Q := hasB (ks.getD i [])) fun e _ => hf _) ?_
  refine rise_eq ?_
  rw [show ((d.toNat : Nat) : Int) = d by omega]
  exact (h5 i hi).2

theorem few_one {d : Int} {ks : List (List Int)} {n : Nat} (hn : ks.length = n) (hm : n + lensAt ks n ≤ 1048576) : Few [(d, ks)] := fun k hk => by
  subst hn
  obtain rfl : k = 0 := by have : k < 1 := hk; omega
  exact hm

theorem few_two {d1 d2 : Int} {ks ls : List (List Int)} {n1 n2 : Nat} (h1 : ks.length = n1) (h2 : ls.length = n2) (m1 : n1 + lensAt ks n1 ≤ 1048576) (m2 : n2 + lensAt ls n2 ≤ 1048576) : Few [(d1, ks), (d2, ls)] := fun k hk => by
  subst h1 h2
  have : k = 0 ∨ k = 1 := by have : k < 2 := hk; omega
  rcases this with rfl | rfl
  · exact m1
  · exact m2

/-- How many keys open. -/
def ckZ (d : Int) (ks : List (List Int)) : Int := if pinsB d ks then (ctP ks ks.length : Int) else 0

theorem csZ_one (d : Int) (ks : List (List Int)) : csZ [(d, ks)] = ckZ d ks := by
  unfold csZ ckZ
  rw [listB_one]
  by_cases h : pinsB d ks = true
  · rw [if_pos h, if_pos h]
    show ((ctP (jnL _ d.toNat ks ks ks.length) ks.length : Nat) : Int) = _
    rw [jn_self h _ (fun a => by cases a <;> rfl)]
  · rw [if_neg h, if_neg h]

end Go.Proofs.Ytaajklkldfgppaa
