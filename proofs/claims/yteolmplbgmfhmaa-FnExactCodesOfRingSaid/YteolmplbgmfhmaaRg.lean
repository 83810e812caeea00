/- The codes that are met in a ring: both programs' answers. No conditions, whatever the library's own variable holds. -/
import Derived.Test.YteolmplbgmfhmaaRa
import Derived.Test.YteolmplbgmfhmaaRb
namespace Go.Proofs.Yteolmplbgmfhmaa
open Go.ChangeShapes Go.WideShapes Go.ChangeAt Go.RowKit Go.Joins

/-- A list of texts and yes or no are handed back. -/
def StrsR (w : World) (ts : List ByteArray) (ok : Bool) (e : Ending) (w' : World) : Prop :=
  ∃ A c, e = .returned (.tuple #[.slice A ts.length c, .bool ok]) ∧ OwnS w' w.heap.size A ts.length ts ∧ Below w.heap.size w w'

/-- The codes of a ring. -/
def crL (a b : Int) (s : ByteArray) : List ByteArray := if ringB a b s then codesT (arT a.toNat s) a.toNat else []

theorem crL_yes {n : Nat} {b : Int} {s : ByteArray} (h : ringB n b s = true) : crL n b s = codesT (arT n s) n := by unfold crL; rw [h]; rfl

theorem crL_no {a b : Int} {s : ByteArray} (h : ringB a b s = false) : crL a b s = [] := by unfold crL; rw [h]; rfl

theorem strsR_none (w w' : World) (hb : Below w.heap.size w w') : StrsR w [] false (.returned (.tuple #[.slice none 0 0, .bool false])) w' :=
  ⟨none, 0, rfl, ⟨rfl, by decide, .inl rfl⟩, hb⟩

theorem own_iter {w : World} {k base size n pos : Nat} {e : TypeId} {v : Value} {xs : List Value} {s : ByteArray} (h : w.ownsRow base e size v n xs) (hk : k < base) : (w.iterAt k s pos).ownsRow base e size v n xs := by
  refine ⟨h.1, h.2.imp id fun ⟨g, cap, cur, e1, e2, e3, r⟩ => ⟨g, cap, cur, e1, e2, ?_, r⟩⟩
  rw [Lib.iterAt_other _ _ _ _ _ (by omega)]
  exact e3

set_option maxRecDepth 100000 in
set_option maxHeartbeats 4000000 in
theorem specCodesOfRing_any (a b : Int) (s : ByteArray) (w : World) (hs : s.size ≤ maxLen) :
    Calls Try.prog 16 #[.agg #[.int .i64 a, .int .i64 b], .string s] w (StrsR w (crL a b s) (ringB a b s)) := by
  have HS := Lib.hid hs
  by_cases hg : riB a b = true
  · have HG := Lib.hid hg
    obtain ⟨n, rfl⟩ : ∃ n : Nat, a = n := ⟨a.toNat, by have := good_yes (riB_good hg); omega⟩
    clear hg
    by_cases hr : ringB n b s = true
    · have HR := Lib.hid hr
      have hx := ring_of hr
      have hge := cn_ge hx.good
      have hcn := cn_le hx.ri
      have hsz := hx.size
      have HGG := Lib.hid hx.good
      have HC := Lib.hid (crL_yes hr)
      clear hr hx
      go_enter Try.func16, Try.ntmps16
      go_wp2_with (first | (go_at_call 37; refine (riGood_any _ _ _).mono ?_; rw [HG.out]; rintro e w1 ⟨rfl, hb⟩; obtain ⟨hc, hf, hz⟩ := bcell hb; have hz0 : w.heap.size < w1.heap.size := by (try simp at hz); omega) | (go_at_call 38; refine (riRing_any _ _ _ _ HS.out HG.out).mono ?_; rw [HR.out]; rintro e w1 ⟨rfl, hb⟩; obtain ⟨hc, hf, hz⟩ := bcell hb; have hz0 : w.heap.size < w1.heap.size := by (try simp at hz); omega) | (go_at_call 41; refine (riCodes_any _ _ _ true _ HGG.out (by omega) (fun _ => by omega)).mono ?_; rw [show rdT true n s = arT n s from rfl, ← HC.out]; rintro e w3 ⟨A, c3, rfl, hO3, hb3⟩))
      go_ret2
      rw [HR.out]
      refine ⟨A, c3, rfl, hO3.base ?_, ?_⟩
      · have := hb3.size
        omega
      · (repeat (first | assumption | exact Below.refl _ _ | (refine Below.alloc ?_ (by first | omega | (simp; done) | (simp; omega)) _) | (refine Below.setCell ?_ (by first | omega | (simp; done) | (simp; omega)) _) | refine bel_drewN ?_ _ | refine bel_drew ?_ | (refine bel_call ?_ (by assumption))))
    · have HR := Lib.hid (Bool.eq_false_iff.2 hr)
      have HC := Lib.hid (crL_no HR.out)
      clear hr
      go_enter Try.func16, Try.ntmps16
      go_wp2_with (first | (go_at_call 37; refine (riGood_any _ _ _).mono ?_; rw [HG.out]; rintro e w1 ⟨rfl, hb⟩; obtain ⟨hc, hf, hz⟩ := bcell hb; have hz0 : w.heap.size < w1.heap.size := by (try simp at hz); omega) | (go_at_call 38; refine (riRing_any _ _ _ _ HS.out HG.out).mono ?_; rw [HR.out]; rintro e w1 ⟨rfl, hb⟩; obtain ⟨hc, hf, hz⟩ := bcell hb; have hz0 : w.heap.size < w1.heap.size := by (try simp at hz); omega))
      go_ret2
      rw [HC.out, HR.out]
      refine strsR_none _ _ ?_
      (repeat (first | assumption | exact Below.refl _ _ | (refine Below.alloc ?_ (by first | omega | (simp; done) | (simp; omega)) _) | (refine Below.setCell ?_ (by first | omega | (simp; done) | (simp; omega)) _) | refine bel_drewN ?_ _ | refine bel_drew ?_ | (refine bel_call ?_ (by assumption))))
  · have HG := Lib.hid (Bool.eq_false_iff.2 hg)
    have HR := Lib.hid (ringB_no (s := s) HG.out)
    have HC := Lib.hid (crL_no HR.out)
    clear hg
    go_enter Try.func16, Try.ntmps16
    go_wp2_with (go_at_call 37; refine (riGood_any _ _ _).mono ?_; rw [HG.out]; rintro e w1 ⟨rfl, hb⟩; obtain ⟨hc, hf, hz⟩ := bcell hb; have hz0 : w.heap.size < w1.heap.size := by (try simp at hz); omega)
    go_ret2
    rw [HC.out, HR.out]
    refine strsR_none _ _ ?_
    (repeat (first | assumption | exact Below.refl _ _ | (refine Below.alloc ?_ (by first | omega | (simp; done) | (simp; omega)) _) | (refine Below.setCell ?_ (by first | omega | (simp; done) | (simp; omega)) _) | refine bel_drewN ?_ _ | refine bel_drew ?_ | (refine bel_call ?_ (by assumption))))

set_option maxRecDepth 100000 in
set_option maxHeartbeats 4000000 in
theorem codesOfRing_any (a b : Int) (s : ByteArray) (w : World) (hs : s.size ≤ maxLen) (hm : Mx w) :
    Calls Try.prog 17 #[.agg #[.int .i64 a, .int .i64 b], .string s] w (StrsR w (crL a b s) (ringB a b s)) := by
  have HS := Lib.hid hs
  have hml := hm.lt
  have HM := Lib.hid hm
  clear hm hs
  by_cases hr : ringB a b s = true
  · obtain ⟨i0, hi, hz0, hz1, hz2⟩ := info_parts info_string
    have HR := Lib.hid hr
    obtain ⟨n, rfl⟩ := ring_nat hr
    have hx := ring_of hr
    have hge := cn_ge hx.good
    have hcn := cn_le hx.ri
    have hsz5 := hx.size
    have HGG := Lib.hid hx.good
    obtain ⟨h1, h6, h2, h10⟩ := good_yes hx.good
    have HC := Lib.hid (crL_yes hr)
    have HDG : Hid (∀ k (h : k < s.size), (s[k]).toNat < 128) := Lib.hid (fun k h => by
      have := hx.digits
      unfold allD at this
      rw [List.all_eq_true] at this
      have e : s[k] = s.data.toList[k]'(by simpa using h) := rfl
      exact digit_ascii h10 (this s[k] (by rw [e]; exact List.getElem_mem _)))
    have hra : (arT n s).size = s.size + (n - 1) := arT_size (by omega)
    have hszu : s.size ≤ 1000 := by omega
    have hns : n ≤ s.size + 1 := by omega
    clear hr hx hge hcn hsz5
    obtain ⟨r, hr⟩ : ∃ r, arT n s = r := ⟨_, rfl⟩
    rw [hr] at hra
    have HRR := Lib.hid hr
    rw [hr] at HC
    have HLEN : Hid ((codesT r n).length = s.size) := Lib.hid (by rw [codesT_length, hra]; omega)
    have HSN : Hid (∀ k, k < s.size → (codesT r n).take (k + 1) = (codesT r n).take k ++ [r.extract k (k + n)]) := Lib.hid (fun k hk => codesT_snoc r n k (by omega))
    have HRZ : Hid (∀ k, k < s.size → (k : Int) + (n : Int) ≤ (r.size : Int)) := Lib.hid (fun k hk => by omega)
    clear hr hra
    go_enter Try.func17, Try.ntmps17
    go_wp2_with (first | (go_at_call 40; refine (hasRing_any _ _ _ _ HS.out (HM.out.below (B := w.heap.size) (by (repeat (first | assumption | exact Below.refl _ _ | (refine Below.alloc ?_ (by first | omega | (simp; done) | (simp; omega)) _) | (refine Below.setCell ?_ (by first | omega | (simp; done) | (simp; omega)) _) | refine bel_drewN ?_ _ | refine bel_drew ?_ | (refine bel_call ?_ (by assumption))))) hml)).mono ?_; rw [HR.out]; rintro e w1 ⟨rfl, hb⟩; have z1 : w.heap.size < w1.heap.size := (by have := hb.size; simp at this; omega); have HB := Lib.hid (show Below w.heap.size w w1 from by (repeat (first | assumption | exact Below.refl _ _ | (refine Below.alloc ?_ (by first | omega | (simp; done) | (simp; omega)) _) | (refine Below.setCell ?_ (by first | omega | (simp; done) | (simp; omega)) _) | refine bel_drewN ?_ _ | refine bel_drew ?_ | (refine bel_call ?_ (by assumption))))); have m0 : w1.cell? ⟨w.heap.size, 0, none⟩ = some (.int .i64 n) := (by rw [hb.cell (p := ⟨w.heap.size, 0, none⟩) (by simp)]; simp); have m1 : w1.cell? ⟨w.heap.size, 1, none⟩ = some (.int .i64 b) := (by rw [hb.cell (p := ⟨w.heap.size, 1, none⟩) (by simp)]; simp); clear hb) | (go_at_call 42; refine (around_any _ _ _ _ HGG.out (by omega) hns).mono ?_; rw [HRR.out]; rintro e w2 ⟨rfl, hb2⟩; have HB2 := Lib.hid (bel_call HB.out hb2); have z2 : w.heap.size < w2.heap.size := (by have := hb2.size; omega); have q0 : w2.cell? ⟨w.heap.size, 0, none⟩ = some (.int .i64 n) := (by rw [hb2.cell (p := ⟨w.heap.size, 0, none⟩) z1]; exact m0); have q1 : w2.cell? ⟨w.heap.size, 1, none⟩ = some (.int .i64 b) := (by rw [hb2.cell (p := ⟨w.heap.size, 1, none⟩) z1]; exact m1); clear hb2))
    have hW2 := HB2.out.size
    go_loopw [7] (fun v wr => ∃ pos : Nat, pos ≤ s.size ∧ wr.heap[w2.heap.size]? = some (.stringIter s pos) ∧ wr.ownsRow (w2.heap.size + 1) 9 1 v pos (sv ((codesT r n).take pos)) ∧ wr.cell? ⟨w.heap.size, 0, none⟩ = some (.int .i64 n) ∧ wr.cell? ⟨w.heap.size, 1, none⟩ = some (.int .i64 b) ∧ Below w.heap.size w wr) (fun _ wr => s.size - wr.iterPos w2.heap.size)
    case atStart =>
      refine ⟨0, by omega, World.iter_heap w2 s 0, World.ownsRow_nil _ _ _ _, ?_, ?_, HB2.out.alloc hW2 _⟩
      · show (w2.alloc _).cell? _ = _
        rw [World.cell?_alloc_lt _ _ _ z2]; exact q0
      · show (w2.alloc _).cell? _ = _
        rw [World.cell?_alloc_lt _ _ _ z2]; exact q1
    case round =>
      clear q0 q1
      obtain ⟨pos, hpos, hit, hown, c0, c1, hB⟩ := hrel
      have hsz : w2.heap.size < wr.heap.size := (Array.getElem?_eq_some_iff.1 hit).1
      by_cases hp : pos < s.size
      · have ha := HDG.out pos hp
        have hnx : ∀ ty, (Instr.next (.pointer (some ⟨w2.heap.size, 0, none⟩)) true ty).run Try.prog wr = _ := fun ty => Lib.run_next_ascii_at wr w2.heap.size s pos ty hit hp ha
        have hit2 := Lib.iterAt_heap wr w2.heap.size s pos (pos + 1) hit
        have hB2 := Lib.below_iterAt hB (k := w2.heap.size) hW2 s (pos + 1)
        have d0 : (wr.iterAt w2.heap.size s (pos + 1)).cell? ⟨w.heap.size, 0, none⟩ = some (.int .i64 n) := by rw [iter_cell z2]; exact c0
        have d1 : (wr.iterAt w2.heap.size s (pos + 1)).cell? ⟨w.heap.size, 1, none⟩ = some (.int .i64 b) := by rw [iter_cell z2]; exact c1
        have hown2 := own_iter (s := s) (pos := pos + 1) hown (show w2.heap.size < w2.heap.size + 1 by omega)
        have hzz := Lib.iterAt_size wr w2.heap.size s (pos + 1)
        have HT := Lib.hid (HSN.out pos hp)
        have hle := HRZ.out pos hp
        have HIP := Lib.hid (iterPos_at hit)
        clear hown c0 c1 hB hit ha
        obtain ⟨wi, hwi⟩ : ∃ wi, wr.iterAt w2.heap.size s (pos + 1) = wi := ⟨_, rfl⟩
        rw [hwi] at hnx hit2 hB2 d0 d1 hown2 hzz
        have hsz2 : w2.heap.size < wi.heap.size := by omega
        have hwz : w.heap.size < wi.heap.size := by omega
        clear hwi hzz
        go_wp2_with (at_builtin; refine wpList_append_own _ rfl _ _ 29 rfl (w2.heap.size + 1) 9 i0 (.string ByteArray.empty) 1 16 Try.underlying29 hi hz0 hz1 hz2 rfl (by decide) _ _ _ rfl (hown2.alloc _) ⟨wi.heap.size, 0, none⟩ 1 1 [.string (r.extract pos (pos + n))] rfl rfl (news_of rfl) (by simp [Value.oneCell']) (by unfold maxLen; omega) (by omega) (by simp; omega) ?_)
        intro v' w5 hown' hgrow _
        have hlo := hown2.lt
        have hB' : Below w.heap.size w w5 := (hB2.alloc (by have := hB2.size; omega) _).grown hgrow (by simp; omega) (fun j hj => by have := (hlo j hj).1; omega)
        have f0 : w5.cell? ⟨w.heap.size, 0, none⟩ = some (.int .i64 n) := hgrow.cell (by rw [World.cell?_alloc_lt _ _ _ hwz]; exact d0) (fun e => by have h' : w2.heap.size + 1 ≤ w.heap.size := (hlo _ e.symm).1; omega)
        have f1 : w5.cell? ⟨w.heap.size, 1, none⟩ = some (.int .i64 b) := hgrow.cell (by rw [World.cell?_alloc_lt _ _ _ hwz]; exact d1) (fun e => by have h' : w2.heap.size + 1 ≤ w.heap.size := (hlo _ e.symm).1; omega)
        have hit5 : w5.heap[w2.heap.size]? = some (.stringIter s (pos + 1)) := by
          rw [hgrow.block w2.heap.size (by simp; omega) (fun e => by have h' : w2.heap.size + 1 ≤ w2.heap.size := (hlo _ e.symm).1; omega), ← hit2]
          show (wi.heap.push _)[w2.heap.size]? = _
          rw [Array.getElem?_push, if_neg (by omega)]
        clear hgrow hlo hown2 hit2 hB2 d0 d1
        go_wp2
        go_roundw
        case rel => exact ⟨pos + 1, by omega, hit5, by rw [HT.out, sv_snoc]; exact hown', f0, f1, hB'⟩
        case measure => rw [iterPos_at hit5, HIP.out]; omega
      · obtain rfl : pos = s.size := by omega
        have hnx : ∀ ty, (Instr.next (.pointer (some ⟨w2.heap.size, 0, none⟩)) true ty).run Try.prog wr = _ := fun ty => Lib.run_next_end_at wr w2.heap.size s s.size ty hit hp
        rw [List.take_of_length_le (by rw [HLEN.out]; exact Nat.le_refl _)] at hown
        obtain ⟨A, c, rfl, hO⟩ := own_strs (ts := codesT r n) hown (by omega)
        go_wp2
        go_ret2
        rw [HR.out, HC.out]
        unfold StrsR
        rw [HLEN.out]
        exact ⟨A, c, rfl, hO.base (by omega), hB⟩
  · have HR := Lib.hid (Bool.eq_false_iff.2 hr)
    have HC := Lib.hid (crL_no HR.out)
    clear hr
    go_enter Try.func17, Try.ntmps17
    go_wp2_with (go_at_call 40; refine (hasRing_any _ _ _ _ HS.out (HM.out.below (B := w.heap.size) (by (repeat (first | assumption | exact Below.refl _ _ | (refine Below.alloc ?_ (by first | omega | (simp; done) | (simp; omega)) _) | (refine Below.setCell ?_ (by first | omega | (simp; done) | (simp; omega)) _) | refine bel_drewN ?_ _ | refine bel_drew ?_ | (refine bel_call ?_ (by assumption))))) hml)).mono ?_; rw [HR.out]; rintro e w1 ⟨rfl, hb⟩; obtain ⟨hc, hf, hz⟩ := bcell hb; have hz0 : w.heap.size < w1.heap.size := by (try simp at hz); omega)
    go_ret2
    rw [HC.out, HR.out]
    refine strsR_none _ _ ?_
    (repeat (first | assumption | exact Below.refl _ _ | (refine Below.alloc ?_ (by first | omega | (simp; done) | (simp; omega)) _) | (refine Below.setCell ?_ (by first | omega | (simp; done) | (simp; omega)) _) | refine bel_drewN ?_ _ | refine bel_drew ?_ | (refine bel_call ?_ (by assumption))))

end Go.Proofs.Yteolmplbgmfhmaa
