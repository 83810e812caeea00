/- Which lists are hints of a lock, and whether a code fits them: what both programs answer. No conditions. -/
import Derived.Test.YtfgogiafimiibaaHo
import Derived.Deep.RegionHeld3
namespace Go.Proofs.Ytfgogiafimiibaa
open Go.ChangeShapes Go.WideShapes Go.ChangeAt Go.RowKit Go.Joins Go.Deep

theorem heldBel {w W : World} {p q r : Prop} (h : p ∧ q ∧ Below w.heap.size w W ∧ r) : Below w.heap.size w W := h.2.2.1

/-- There are a lock of few codes and hints of it. -/
def hgB (a b : Int) (hs : List Hnt) : Bool := searchB a b && hintsB a b hs

theorem areHints_any (a b : Int) (A : Option Addr) (n c : Nat) (hs : List Hnt) (w : World) (hn : n ≤ maxLen) (hA : ArgH w A n hs) :
    Calls Try.prog 24 #[.agg #[.int .i64 a, .int .i64 b], .slice A n c] w fun e w' => e = .returned (.tuple #[.bool (hgB a b hs), .bool (searchB a b)]) ∧ Below w.heap.size w w' := by
  have HN := Lib.hid hn
  have HA := Lib.hid hA
  clear hn hA
  go_enter Try.func24, Try.ntmps24
  go_wp2_with fail
  obtain ⟨wo, e0⟩ : ∃ wo : World, wo = w.alloc (.cells #[.int .i64 a, .int .i64 b] 26) := ⟨_, rfl⟩
  rw [← e0]
  have d0 : wo.cell? ⟨w.heap.size, 0, none⟩ = some (.int .i64 a) := by rw [e0]; simp
  have d1 : wo.cell? ⟨w.heap.size, 1, none⟩ = some (.int .i64 b) := by rw [e0]; simp
  have dB : Below w.heap.size w wo := by rw [e0]; (repeat (first | assumption | exact Below.refl _ _ | (refine Below.alloc ?_ (by first | omega | (simp; done) | (simp; omega)) _) | (refine Below.setCell ?_ (by first | omega | (simp; done) | (simp; omega)) _) | refine bel_drewN ?_ _ | refine bel_drew ?_ | (refine bel_call ?_ (by assumption))))
  have dz : w.heap.size < wo.heap.size := by rw [e0]; simp
  clear e0
  go_region_held3 (fun w' => w'.cell? ⟨w.heap.size, 0, none⟩ = some (.int .i64 a) ∧ w'.cell? ⟨w.heap.size, 1, none⟩ = some (.int .i64 b) ∧ Below w.heap.size w w' ∧ w.heap.size < w'.heap.size) (first | assumption | exact ⟨d0, d1, bel_drew dB, dz⟩ | go_keep)
    (first | (go_at_call 72; refine (call_held2 (by assumption) (hasHints_any _ _ _ _ _ hs _ HN.out (HA.out.below (heldBel (by assumption))))).mono ?_; rintro e w1 ⟨rfl, hS⟩) | (go_at_call 66; refine (call_held2 (by assumption) (isSearched_any _ _ _)).mono ?_; rintro e w1 ⟨rfl, hS⟩))
  go_wp2
  go_ret2
  exact ⟨rfl, hS.2.2.1⟩

theorem specAreHints_any (a b : Int) (A : Option Addr) (n c : Nat) (hs : List Hnt) (w : World) (hn : n ≤ maxLen) (hA : ArgH w A n hs) :
    Calls Try.prog 22 #[.agg #[.int .i64 a, .int .i64 b], .slice A n c] w fun e w' => e = .returned (.tuple #[.bool (hgB a b hs), .bool (searchB a b)]) ∧ Below w.heap.size w w' := by
  have HA := Lib.hid hA
  have HN := Lib.hid hn
  clear hA hn
  by_cases hse : searchB a b = true
  · have HSE := Lib.hid hse
    have HG := Lib.hid (searchB_good hse).1
    clear hse
    go_enter Try.func22, Try.ntmps22
    go_wp2_with (go_at_call 63; refine (hiLock_any _ _ _ _).mono ?_; rw [limB_search, HSE.out]; rintro e w1 ⟨rfl, hb⟩; obtain ⟨hc, hf, hz⟩ := bcell hb; have hz0 : w.heap.size < w1.heap.size := by (try simp at hz); omega)
    have B1 : Below w.heap.size w w1 := by (repeat (first | assumption | exact Below.refl _ _ | (refine Below.alloc ?_ (by first | omega | (simp; done) | (simp; omega)) _) | (refine Below.setCell ?_ (by first | omega | (simp; done) | (simp; omega)) _) | refine bel_drewN ?_ _ | refine bel_drew ?_ | (refine bel_call ?_ (by assumption))))
    clear hb
    refine (hiGood_any _ _ _ _ _ hs _ HN.out HG.out (HA.out.below B1)).mono ?_
    rintro e w2 ⟨rfl, hb2⟩
    go_wp2_with fail
    go_ret2
    exact ⟨by unfold hgB; rw [HSE.out]; rfl, bel_call B1 hb2⟩
  · have HSE := Lib.hid (Bool.eq_false_iff.2 hse)
    clear hse
    go_enter Try.func22, Try.ntmps22
    go_wp2_with (go_at_call 63; refine (hiLock_any _ _ _ _).mono ?_; rw [limB_search, HSE.out]; rintro e w1 ⟨rfl, hb⟩; obtain ⟨hc, hf, hz⟩ := bcell hb; have hz0 : w.heap.size < w1.heap.size := by (try simp at hz); omega)
    go_ret2
    refine ⟨by unfold hgB; rw [HSE.out]; rfl, ?_⟩
    (repeat (first | assumption | exact Below.refl _ _ | (refine Below.alloc ?_ (by first | omega | (simp; done) | (simp; omega)) _) | (refine Below.setCell ?_ (by first | omega | (simp; done) | (simp; omega)) _) | refine bel_drewN ?_ _ | refine bel_drew ?_ | (refine bel_call ?_ (by assumption))))

theorem hiAsked_any (a b : Int) (A : Option Addr) (n c : Nat) (hs : List Hnt) (w : World) (hn : n ≤ maxLen) (hA : ArgH w A n hs) :
    Calls Try.prog 74 #[.agg #[.int .i64 a, .int .i64 b], .slice A n c] w fun e w' => e = .returned (.bool (hgB a b hs)) ∧ Below w.heap.size w w' := by
  have HA := Lib.hid hA
  have HN := Lib.hid hn
  clear hA hn
  by_cases hse : searchB a b = true
  · have HSE := Lib.hid hse
    have HG := Lib.hid (searchB_good hse).1
    clear hse
    go_enter Try.func74, Try.ntmps74
    go_wp2_with (go_at_call 63; refine (hiLock_any _ _ _ _).mono ?_; rw [limB_search, HSE.out]; rintro e w1 ⟨rfl, hb⟩; obtain ⟨hc, hf, hz⟩ := bcell hb; have hz0 : w.heap.size < w1.heap.size := by (try simp at hz); omega)
    have B1 : Below w.heap.size w w1 := by (repeat (first | assumption | exact Below.refl _ _ | (refine Below.alloc ?_ (by first | omega | (simp; done) | (simp; omega)) _) | (refine Below.setCell ?_ (by first | omega | (simp; done) | (simp; omega)) _) | refine bel_drewN ?_ _ | refine bel_drew ?_ | (refine bel_call ?_ (by assumption))))
    clear hb
    refine (hiGood_any _ _ _ _ _ hs _ HN.out HG.out (HA.out.below B1)).mono ?_
    rintro e w2 ⟨rfl, hb2⟩
    go_wp2_with fail
    go_ret
    exact ⟨ret_bool (by unfold hgB; rw [HSE.out]; rfl), bel_call B1 hb2⟩
  · have HSE := Lib.hid (Bool.eq_false_iff.2 hse)
    clear hse
    go_enter Try.func74, Try.ntmps74
    go_wp2_with (go_at_call 63; refine (hiLock_any _ _ _ _).mono ?_; rw [limB_search, HSE.out]; rintro e w1 ⟨rfl, hb⟩; obtain ⟨hc, hf, hz⟩ := bcell hb; have hz0 : w.heap.size < w1.heap.size := by (try simp at hz); omega)
    go_ret
    refine ⟨ret_bool (by unfold hgB; rw [HSE.out]; rfl), ?_⟩
    (repeat (first | assumption | exact Below.refl _ _ | (refine Below.alloc ?_ (by first | omega | (simp; done) | (simp; omega)) _) | (refine Below.setCell ?_ (by first | omega | (simp; done) | (simp; omega)) _) | refine bel_drewN ?_ _ | refine bel_drew ?_ | (refine bel_call ?_ (by assumption))))

theorem hgB_two {a b : Int} {hs : List Hnt} {t : ByteArray} (h : hgB a b hs = true) (ht : isCodeB a b t = true) : ∀ k, k < hs.length → TwoD (hs.getD k hn0).1 t := by
  intro k hk
  unfold hgB hintsB at h
  simp only [Bool.and_eq_true, List.all_eq_true] at h
  have h1 := h.2.2 _ (List.getElem_mem hk)
  have e : hs.getD k hn0 = hs[k] := by simp [List.getD, List.getElem?_eq_getElem hk]
  rw [e]
  unfold hintB at h1
  rw [Bool.and_eq_true] at h1
  exact h2B_two h.1 h1.1 ht

/-- There are a lock, hints of it and a code. -/
def fitsB (a b : Int) (hs : List Hnt) (t : ByteArray) : Bool := hgB a b hs && isCodeB a b t

def fitZ (a b : Int) (hs : List Hnt) (t : ByteArray) : Bool := fitsB a b hs t && fitB hs t

set_option maxHeartbeats 1000000 in
theorem fitsHints_any (a b : Int) (A : Option Addr) (n c : Nat) (hs : List Hnt) (t : ByteArray) (w : World) (hn : n ≤ maxLen) (ht : t.size ≤ maxLen) (hA : ArgH w A n hs) :
    Calls Try.prog 27 #[.agg #[.int .i64 a, .int .i64 b], .slice A n c, .string t] w fun e w' => e = .returned (.tuple #[.bool (fitZ a b hs t), .bool (fitsB a b hs t)]) ∧ Below w.heap.size w w' := by
  have HL := Lib.hid hA.len
  have HA := Lib.hid hA
  have HN := Lib.hid hn
  have HT := Lib.hid ht
  have X0 := Lib.hid (HA.out.below (show Below w.heap.size w (w.alloc (.cells #[.int .i64 a, .int .i64 b] 26)) from (Below.refl _ _).alloc (Nat.le_refl _) _))
  clear hA hn ht
  by_cases hh : hgB a b hs = true
  · have HH := Lib.hid hh
    have HSE : Hid (searchB a b = true) := Lib.hid (by unfold hgB at hh; rw [Bool.and_eq_true] at hh; exact hh.1)
    have HG := Lib.hid (searchB_good HSE.out).1
    clear hh
    by_cases hco : isCodeB a b t = true
    · have HCO := Lib.hid hco
      have HTD := Lib.hid (hgB_two HH.out hco)
      clear hco
      go_enter Try.func27, Try.ntmps27
      go_wp2_with (first | (go_at_call 72; refine (hasHints_any _ _ _ _ _ hs _ HN.out X0.out).mono ?_; rw [show (searchB a b && hintsB a b hs) = _ from HH.out]; rintro e w1 ⟨rfl, hb⟩; obtain ⟨hc, hf, hz⟩ := bcell hb; have hz0 : w.heap.size < w1.heap.size := by (try simp at hz); omega) | (go_at_call 67; refine (hasCode_any _ _ _ _ HT.out).mono ?_; rw [HG.out, HCO.out]; rintro e w2 ⟨rfl, hb⟩; obtain ⟨hc, hf, hz⟩ := bcell hb; have hz0 : w.heap.size < w2.heap.size := by (try simp at hz); omega))
      have B1 : Below w.heap.size w w2 := by (repeat (first | assumption | exact Below.refl _ _ | (refine Below.alloc ?_ (by first | omega | (simp; done) | (simp; omega)) _) | (refine Below.setCell ?_ (by first | omega | (simp; done) | (simp; omega)) _) | refine bel_drewN ?_ _ | refine bel_drew ?_ | (refine bel_call ?_ (by assumption))))
      refine (fitsAll_any _ _ _ hs _ _ HN.out (HA.out.below B1) (fun k hk => HTD.out k (by rw [HL.out]; exact hk))).mono ?_
      rintro e w3 ⟨rfl, hb3⟩
      go_wp2_with fail
      go_ret2
      exact ⟨by unfold fitZ fitsB; rw [HH.out, HCO.out]; rfl, bel_call B1 hb3⟩
    · have HCO := Lib.hid (Bool.eq_false_iff.2 hco)
      clear hco
      go_enter Try.func27, Try.ntmps27
      go_wp2_with (first | (go_at_call 72; refine (hasHints_any _ _ _ _ _ hs _ HN.out X0.out).mono ?_; rw [show (searchB a b && hintsB a b hs) = _ from HH.out]; rintro e w1 ⟨rfl, hb⟩; obtain ⟨hc, hf, hz⟩ := bcell hb; have hz0 : w.heap.size < w1.heap.size := by (try simp at hz); omega) | (go_at_call 67; refine (hasCode_any _ _ _ _ HT.out).mono ?_; rw [HG.out, HCO.out]; rintro e w2 ⟨rfl, hb⟩; obtain ⟨hc, hf, hz⟩ := bcell hb; have hz0 : w.heap.size < w2.heap.size := by (try simp at hz); omega))
      go_ret2
      refine ⟨by unfold fitZ fitsB; rw [HH.out, HCO.out]; rfl, ?_⟩
      (repeat (first | assumption | exact Below.refl _ _ | (refine Below.alloc ?_ (by first | omega | (simp; done) | (simp; omega)) _) | (refine Below.setCell ?_ (by first | omega | (simp; done) | (simp; omega)) _) | refine bel_drewN ?_ _ | refine bel_drew ?_ | (refine bel_call ?_ (by assumption))))
  · have HH := Lib.hid (Bool.eq_false_iff.2 hh)
    clear hh
    go_enter Try.func27, Try.ntmps27
    go_wp2_with (go_at_call 72; refine (hasHints_any _ _ _ _ _ hs _ HN.out X0.out).mono ?_; rw [show (searchB a b && hintsB a b hs) = _ from HH.out]; rintro e w1 ⟨rfl, hb⟩; obtain ⟨hc, hf, hz⟩ := bcell hb; have hz0 : w.heap.size < w1.heap.size := by (try simp at hz); omega)
    go_ret2
    refine ⟨by unfold fitZ fitsB; rw [HH.out]; rfl, ?_⟩
    (repeat (first | assumption | exact Below.refl _ _ | (refine Below.alloc ?_ (by first | omega | (simp; done) | (simp; omega)) _) | (refine Below.setCell ?_ (by first | omega | (simp; done) | (simp; omega)) _) | refine bel_drewN ?_ _ | refine bel_drew ?_ | (refine bel_call ?_ (by assumption))))

set_option maxHeartbeats 1000000 in
theorem specFitsHints_any (a b : Int) (A : Option Addr) (n c : Nat) (hs : List Hnt) (t : ByteArray) (w : World) (hn : n ≤ maxLen) (ht : t.size ≤ maxLen) (hA : ArgH w A n hs) :
    Calls Try.prog 26 #[.agg #[.int .i64 a, .int .i64 b], .slice A n c, .string t] w fun e w' => e = .returned (.tuple #[.bool (fitZ a b hs t), .bool (fitsB a b hs t)]) ∧ Below w.heap.size w w' := by
  have HL := Lib.hid hA.len
  have HA := Lib.hid hA
  have HN := Lib.hid hn
  have HT := Lib.hid ht
  have X0 := Lib.hid (HA.out.below (show Below w.heap.size w (w.alloc (.cells #[.int .i64 a, .int .i64 b] 26)) from (Below.refl _ _).alloc (Nat.le_refl _) _))
  clear hA hn ht
  by_cases hh : hgB a b hs = true
  · have HH := Lib.hid hh
    have HSE : Hid (searchB a b = true) := Lib.hid (by unfold hgB at hh; rw [Bool.and_eq_true] at hh; exact hh.1)
    have HG := Lib.hid (searchB_good HSE.out).1
    clear hh
    by_cases hco : isCodeB a b t = true
    · have HCO := Lib.hid hco
      have HTD := Lib.hid (hgB_two HH.out hco)
      clear hco
      go_enter Try.func26, Try.ntmps26
      go_wp2_with (first | (go_at_call 74; refine (hiAsked_any _ _ _ _ _ hs _ HN.out X0.out).mono ?_; rw [HH.out]; rintro e w1 ⟨rfl, hb⟩; obtain ⟨hc, hf, hz⟩ := bcell hb; have hz0 : w.heap.size < w1.heap.size := by (try simp at hz); omega) | (go_at_call 64; refine (whCode_any _ _ _ _ HT.out HG.out).mono ?_; rw [HCO.out]; rintro e w2 ⟨rfl, hb⟩; obtain ⟨hc, hf, hz⟩ := bcell hb; have hz0 : w.heap.size < w2.heap.size := by (try simp at hz); omega))
      have B1 : Below w.heap.size w w2 := by (repeat (first | assumption | exact Below.refl _ _ | (refine Below.alloc ?_ (by first | omega | (simp; done) | (simp; omega)) _) | (refine Below.setCell ?_ (by first | omega | (simp; done) | (simp; omega)) _) | refine bel_drewN ?_ _ | refine bel_drew ?_ | (refine bel_call ?_ (by assumption))))
      refine (hiFits_any _ _ _ hs _ _ HN.out (HA.out.below B1) (fun k hk => HTD.out k (by rw [HL.out]; exact hk))).mono ?_
      rintro e w3 ⟨rfl, hb3⟩
      go_wp2_with fail
      go_ret2
      exact ⟨by unfold fitZ fitsB; rw [HH.out, HCO.out]; rfl, bel_call B1 hb3⟩
    · have HCO := Lib.hid (Bool.eq_false_iff.2 hco)
      clear hco
      go_enter Try.func26, Try.ntmps26
      go_wp2_with (first | (go_at_call 74; refine (hiAsked_any _ _ _ _ _ hs _ HN.out X0.out).mono ?_; rw [HH.out]; rintro e w1 ⟨rfl, hb⟩; obtain ⟨hc, hf, hz⟩ := bcell hb; have hz0 : w.heap.size < w1.heap.size := by (try simp at hz); omega) | (go_at_call 64; refine (whCode_any _ _ _ _ HT.out HG.out).mono ?_; rw [HCO.out]; rintro e w2 ⟨rfl, hb⟩; obtain ⟨hc, hf, hz⟩ := bcell hb; have hz0 : w.heap.size < w2.heap.size := by (try simp at hz); omega))
      go_ret2
      refine ⟨by unfold fitZ fitsB; rw [HH.out, HCO.out]; rfl, ?_⟩
      (repeat (first | assumption | exact Below.refl _ _ | (refine Below.alloc ?_ (by first | omega | (simp; done) | (simp; omega)) _) | (refine Below.setCell ?_ (by first | omega | (simp; done) | (simp; omega)) _) | refine bel_drewN ?_ _ | refine bel_drew ?_ | (refine bel_call ?_ (by assumption))))
  · have HH := Lib.hid (Bool.eq_false_iff.2 hh)
    clear hh
    go_enter Try.func26, Try.ntmps26
    go_wp2_with (go_at_call 74; refine (hiAsked_any _ _ _ _ _ hs _ HN.out X0.out).mono ?_; rw [HH.out]; rintro e w1 ⟨rfl, hb⟩; obtain ⟨hc, hf, hz⟩ := bcell hb; have hz0 : w.heap.size < w1.heap.size := by (try simp at hz); omega)
    go_ret2
    refine ⟨by unfold fitZ fitsB; rw [HH.out]; rfl, ?_⟩
    (repeat (first | assumption | exact Below.refl _ _ | (refine Below.alloc ?_ (by first | omega | (simp; done) | (simp; omega)) _) | (refine Below.setCell ?_ (by first | omega | (simp; done) | (simp; omega)) _) | refine bel_drewN ?_ _ | refine bel_drew ?_ | (refine bel_call ?_ (by assumption))))

end Go.Proofs.Ytfgogiafimiibaa
