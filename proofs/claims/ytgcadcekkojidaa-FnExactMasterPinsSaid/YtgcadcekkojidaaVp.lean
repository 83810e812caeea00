/- Keys: texts of digits, and the pins that one key opens, as the model and the program make them. For texts of at most 2^20 bytes. -/
import Derived.Test.YtgcadcekkojidaaVo
import Derived.Deep.QuietTactic
import Derived.BigQuiet
import Derived.LoopTactic
import Derived.Lib.OthersKept
namespace Go.Proofs.Ytgcadcekkojidaa
open Go.ChangeShapes Go.WideShapes Go.ChangeAt Go.RowKit Go.Joins

/-- Digits below b alone. -/
def allK (b : Int) (s : ByteArray) : Bool := s.data.toList.all (digitB b)

/-- A key. -/
def keyB (d : Int) (s : ByteArray) : Bool := inB d 1 9 && inB (s.size : Int) 1 7 && allK d s

theorem iter_cellV {w : World} {k j o : Nat} {s : ByteArray} {pos : Nat} (h : j < k) : (w.iterAt k s pos).cell? ⟨j, o, none⟩ = w.cell? ⟨j, o, none⟩ :=
  (Lib.below_iterAt (Below.refl k w) (Nat.le_refl _) s pos).cell (p := ⟨j, o, none⟩) h

theorem iter_frozenV {w : World} {k j o : Nat} {s : ByteArray} {pos : Nat} (h : j < k) : (w.iterAt k s pos).frozen? ⟨j, o, none⟩ = w.frozen? ⟨j, o, none⟩ :=
  (Lib.below_iterAt (Below.refl k w) (Nat.le_refl _) s pos).frozen (p := ⟨j, o, none⟩) h

theorem iterPos_atV {w : World} {k pos : Nat} {s : ByteArray} (h : w.heap[k]? = some (.stringIter s pos)) : w.iterPos k = pos := by simp [World.iterPos, h]

theorem digit_asciiV {b : Int} {c : UInt8} (hb : b ≤ 10) (h : digitB b c = true) : c.toNat < 128 := by
  unfold digitB at h
  have := of_decide_eq_true h
  omega

theorem keKey_any (d : Int) (s : ByteArray) (w : World) (hs : s.size ≤ maxLen) (hd : 1 ≤ d ∧ d ≤ 9) :
    Calls Try.prog 82 #[.int .i64 d, .string s] w fun e w' => e = .returned (.bool (allK d s)) ∧ Below w.heap.size w w' := by
  obtain ⟨d1, d9⟩ := hd
  unfold maxLen at hs
  go_enter Try.func82, Try.ntmps82
  go_wp2
  go_loopw [] (fun wr => ∃ pos : Nat, pos ≤ s.size ∧ wr.heap[w.heap.size]? = some (.stringIter s pos) ∧ (s.data.toList.take pos).all (digitB d) = true ∧ Below w.heap.size w wr) (fun wr => s.size - wr.iterPos w.heap.size)
  case atStart =>
    refine ⟨0, by omega, ?_, rfl, ?_⟩
    · have := World.iter_heap w s 0
      simpa using this
    · exact (Below.refl _ w).alloc (Nat.le_refl _) _
  case round =>
    obtain ⟨pos, hpos, hit, hall, hB⟩ := hrel
    have HA := Lib.hid hall
    clear hall
    have hsz : w.heap.size < wr.heap.size := (Array.getElem?_eq_some_iff.1 hit).1
    by_cases hp : pos < s.size
    · have hu : ((s[pos]'hp).toNat : Int) ≤ 255 := by have := (s[pos]'hp).toNat_lt; omega
      have hnx : ∀ ty, (Instr.next (.pointer (some ⟨w.heap.size, 0, none⟩)) true ty).run Try.prog wr = _ := fun ty => Lib.run_next_any_at wr w.heap.size s pos ty hit hp
      have hit2 := Lib.iterAt_heap wr w.heap.size s pos (pos + (Utf8.decode s pos).2) hit
      have hB2 := Lib.below_iterAt hB (k := w.heap.size) (by omega) s (pos + (Utf8.decode s pos).2)
      by_cases hdg : digitB d s[pos] = true
      · have HD := Lib.hid hdg
        have HW : Hid ((Utf8.decode s pos).2 = 1) := Lib.hid (by rw [decode_ascii s pos hp (digit_asciiV (by omega) hdg)])
        have hin : inB ((s[pos].toNat : Int) - 48) 0 (d - 1) = true := by have := HD.out; unfold digitB at this; unfold inB; simp at this ⊢; omega
        clear hdg
        go_wp2_with (go_at_call 81; refine (l1In_any _ _ _ _).mono ?_; rw [hin]; rintro e wq ⟨rfl, hwq⟩; replace hwq := hwq.symm; subst hwq)
        go_roundw
        case rel => exact ⟨pos + 1, by omega, by rw [show pos + 1 = pos + (Utf8.decode s pos).2 by rw [HW.out]]; exact hit2, all_snoc HA.out HD.out, hB2⟩
        case measure =>
          have := HW.out
          rw [iterPos_atV hit2, iterPos_atV hit]
          omega
      · have HD := Lib.hid hdg
        have hin : inB ((s[pos].toNat : Int) - 48) 0 (d - 1) = false := by have := HD.out; unfold digitB at this; unfold inB; simp at this ⊢; omega
        clear hdg
        go_wp2_with (go_at_call 81; refine (l1In_any _ _ _ _).mono ?_; rw [hin]; rintro e wq ⟨rfl, hwq⟩; replace hwq := hwq.symm; subst hwq)
        go_ret
        refine ⟨ret_bool ?_, hB2⟩
        exact (all_not hp HD.out).symm
    · have hnx : ∀ ty, (Instr.next (.pointer (some ⟨w.heap.size, 0, none⟩)) true ty).run Try.prog wr = _ := fun ty => Lib.run_next_end_at wr w.heap.size s pos ty hit hp
      go_wp2
      go_ret
      refine ⟨ret_bool ?_, hB⟩
      have e : pos = s.size := by omega
      have := HA.out
      rw [e, List.take_of_length_le (by simp)] at this
      exact this.symm

theorem rowP_iter {w : World} {B : Nat} {v : Value} {ks : List (List Int)} (h : RowP w B v ks) {k : Nat} (hk : k < B) (s : ByteArray) (pos : Nat) : RowP (w.iterAt k s pos) B v ks := by
  have hg : w.grownBy (w.iterAt k s pos) (some k) := ⟨rfl, rfl, rfl, by rw [Lib.iterAt_size]; exact Nat.le_refl _, fun j _ hj => Lib.iterAt_other w k j s pos (fun e => hj (by rw [e]))⟩
  obtain ⟨G, vs, h1, h2, h3, h4⟩ := h.own
  refine ⟨G, vs, h1, h2.kept hg ?_, fun i hi => ?_, h4⟩
  · rcases hv : v.ownBlock with _ | g
    · exact .inl rfl
    · exact .inr (fun e => by
        injection e with e
        have := (h2.lt g hv).1
        omega)
  · obtain ⟨A, c, e, hc⟩ := h3 i hi
    exact ⟨A, c, e, hc.imp id fun ⟨a1, a2, a3, a4⟩ => ⟨a1, a2, a3, a4.keptV hg (fun e => by injection e with e; omega)⟩⟩

theorem cells_iter {w : World} {g n : Nat} {f : Nat → Value} (h : Cells w g n f) {k : Nat} (hk : g ≠ k) (s : ByteArray) (pos : Nat) : Cells (w.iterAt k s pos) g n f :=
  h.keptV (row := some k) ⟨rfl, rfl, rfl, by rw [Lib.iterAt_size]; exact Nat.le_refl _, fun j _ hj => Lib.iterAt_other w k j s pos (fun e => hj (by rw [e]))⟩ (fun e => by injection e with e; exact hk e.symm)

/-- The lists of a key's digits. -/
def kqL (ds : List Int) (n : Nat) : List (List Int) := rwL (fun i => [ds.getD i 0]) n

/-- What a key alone opens. -/
def kqD (d : Int) (s : ByteArray) : Int := if keyB d s then d else 0

def kqK (d : Int) (s : ByteArray) : List (List Int) := if keyB d s then kqL (dg s) s.size else []

theorem kq_yes {d : Int} {s : ByteArray} (h : keyB d s = true) : kqD d s = d ∧ kqK d s = kqL (dg s) s.size := by
  unfold kqD kqK
  rw [h, if_pos rfl, if_pos rfl]
  exact ⟨rfl, rfl⟩

theorem kq_no {d : Int} {s : ByteArray} (h : keyB d s = false) : kqD d s = 0 ∧ kqK d s = [] := by
  unfold kqD kqK
  rw [h]
  exact ⟨rfl, rfl⟩

theorem allK_at {d : Int} {s : ByteArray} (h : allK d s = true) {k : Nat} (hk : k < s.size) : digitB d s[k] = true := by
  have h1 : k < s.data.toList.length := by simpa using hk
  have e : s[k] = s.data.toList[k] := rfl
  rw [e]
  exact List.all_eq_true.1 h _ (List.getElem_mem _)

set_option maxRecDepth 100000 in
set_option maxHeartbeats 4000000 in
theorem specPinsOfKey_any (d : Int) (s : ByteArray) (w : World) (hs : s.size ≤ maxLen) :
    Calls Try.prog 37 #[.int .i64 d, .string s] w (PinsOut w (kqD d s) (kqK d s) (keyB d s)) := by
  obtain ⟨i0, hi, hy0, hy1, hy2⟩ := info_parts info_lists
  have HS := Lib.hid hs
  unfold maxLen at hs
  have HB0 := Lib.hid (show Below w.heap.size w (w.alloc (.cells #[.int .i64 0, .slice none 0 0] 27)) from (Below.refl _ _).alloc (Nat.le_refl _) _)
  have CQ := Lib.hid (Cells.new (W := w) (cs := #[.int .i64 0, .slice none 0 0]) (t := 27) (g := w.heap.size) (n := 2) rfl rfl)
  obtain ⟨v1, HV1⟩ : ∃ v, Hid (inB d 1 9 = v) := ⟨_, Lib.hid rfl⟩
  obtain ⟨v2, HV2⟩ : ∃ v, Hid (inB (s.size : Int) 1 7 = v) := ⟨_, Lib.hid rfl⟩
  obtain ⟨v3, HV3⟩ : ∃ v, Hid (allK d s = v) := ⟨_, Lib.hid rfl⟩
  have HK : Hid (keyB d s = (v1 && v2 && v3)) := Lib.hid (by unfold keyB; rw [HV1.out, HV2.out, HV3.out])
  rcases v1 with _ | _
  · obtain ⟨e1, e2⟩ := kq_no (d := d) (s := s) (by rw [HK.out]; rfl)
    rw [e1, e2, HK.out]
    go_enter Try.func37, Try.ntmps37
    go_wp2_with (first | (go_at_call 81; refine (l1In_any _ _ _ _).mono ?_; rw [HV1.out]; rintro e w3 ⟨rfl, rfl⟩))
    refine bodyPost_ret (v := .tuple #[.agg #[.int .i64 0, .slice none 0 0], .bool false]) (by simp [results, Try.results37, go_sem]) rfl (pinsOut_no rfl ?_)
    (repeat (first | assumption | exact Below.refl _ _ | (refine Below.alloc ?_ (by first | omega | (simp; done) | (simp; omega)) _) | (refine Below.setCell ?_ (by first | omega | (simp; done) | (simp; omega)) _) | refine bel_drewN ?_ _ | refine bel_drew ?_ | (refine bel_call ?_ (by assumption))))
  have hd := of_decide_eq_true HV1.out
  have Q1 : Hid (∀ W : World, Calls Try.prog 81 #[.int .i64 d, .int .i64 1, .int .i64 9] W fun e w' => e = .returned (.bool true) ∧ w' = W) := Lib.hid (fun W => by rw [← HV1.out]; exact l1In_any _ _ _ _)
  rcases v2 with _ | _
  · obtain ⟨e1, e2⟩ := kq_no (d := d) (s := s) (by rw [HK.out]; rfl)
    rw [e1, e2, HK.out]
    have Q2 : Hid (∀ W : World, Calls Try.prog 81 #[.int .i64 (s.size : Int), .int .i64 1, .int .i64 7] W fun e w' => e = .returned (.bool false) ∧ w' = W) := Lib.hid (fun W => by rw [← HV2.out]; exact l1In_any _ _ _ _)
    go_enter Try.func37, Try.ntmps37
    go_wp2_with (first
      | (go_at_call_of 81 d; refine (Q1.out _).mono ?_; rintro e w3 ⟨rfl, hw3⟩; subst hw3)
      | (go_at_call 81; refine (Q2.out _).mono ?_; rintro e w4 ⟨rfl, hw4⟩; subst hw4))
    refine bodyPost_ret (v := .tuple #[.agg #[.int .i64 0, .slice none 0 0], .bool false]) (by simp [results, Try.results37, go_sem]) rfl (pinsOut_no rfl ?_)
    (repeat (first | assumption | exact Below.refl _ _ | (refine Below.alloc ?_ (by first | omega | (simp; done) | (simp; omega)) _) | (refine Below.setCell ?_ (by first | omega | (simp; done) | (simp; omega)) _) | refine bel_drewN ?_ _ | refine bel_drew ?_ | (refine bel_call ?_ (by assumption))))
  have hsz := of_decide_eq_true HV2.out
  have Q2 : Hid (∀ W : World, Calls Try.prog 81 #[.int .i64 (s.size : Int), .int .i64 1, .int .i64 7] W fun e w' => e = .returned (.bool true) ∧ w' = W) := Lib.hid (fun W => by rw [← HV2.out]; exact l1In_any _ _ _ _)
  rcases v3 with _ | _
  · obtain ⟨e1, e2⟩ := kq_no (d := d) (s := s) (by rw [HK.out]; rfl)
    rw [e1, e2, HK.out]
    go_enter Try.func37, Try.ntmps37
    go_wp2_with (first
      | (go_at_call_of 81 d; refine (Q1.out _).mono ?_; rintro e w3 ⟨rfl, hw3⟩; subst hw3)
      | (go_at_call 81; refine (Q2.out _).mono ?_; rintro e w4 ⟨rfl, hw4⟩; subst hw4)
      | (go_at_call 82; refine (keKey_any d s _ HS.out hd).mono ?_; rw [HV3.out]; rintro e w5 ⟨rfl, hb5⟩
         have HB5 := Lib.hid (bel_call HB0.out hb5)
         have HQ5 := Lib.hid (CQ.out.call hb5)
         have q0 : w5.cell? ⟨w.heap.size, 0, none⟩ = some (.int .i64 0) := HQ5.out.cell (show 0 < 2 by omega)
         have q1 : w5.cell? ⟨w.heap.size, 1, none⟩ = some (.slice none 0 0) := HQ5.out.cell (show 1 < 2 by omega)
         have f0 := HQ5.out.frozen (show 0 < 2 by omega)
         have f1 := HQ5.out.frozen (show 1 < 2 by omega)
         clear hb5))
    refine bodyPost_ret (v := .tuple #[.agg #[.int .i64 0, .slice none 0 0], .bool false]) (by simp [results, Try.results37, go_sem, q0, q1]) rfl (pinsOut_no rfl ?_)
    iterate 2 (refine Below.setCell ?_ (by show w.heap.size ≤ w.heap.size; omega) _)
    exact HB5.out
  obtain ⟨e1, e2⟩ := kq_yes (d := d) (s := s) (by rw [HK.out]; rfl)
  rw [e1, e2, HK.out]
  go_enter Try.func37, Try.ntmps37
  go_wp2_with (first
      | (go_at_call_of 81 d; refine (Q1.out _).mono ?_; rintro e w3 ⟨rfl, hw3⟩; subst hw3)
      | (go_at_call 81; refine (Q2.out _).mono ?_; rintro e w4 ⟨rfl, hw4⟩; subst hw4)
      | (go_at_call 82; refine (keKey_any d s _ HS.out hd).mono ?_; rw [HV3.out]; rintro e w5 ⟨rfl, hb5⟩
         have HB5 := Lib.hid (bel_call HB0.out hb5)
         have HQ5 := Lib.hid (CQ.out.call hb5)
         have hz5 := hb5.size
         clear hb5))
  obtain ⟨W7, hW7⟩ : ∃ W7, (w5.alloc (.cells #[.int .i64 d, .slice none 0 0] 27)).iter s 0 = W7 := ⟨_, rfl⟩
  have HB7 := Lib.hid (show Below w.heap.size w W7 from by rw [← hW7]; exact (HB5.out.alloc HB5.out.size _).alloc (by have := HB5.out.size; simp; omega) (.stringIter s 0))
  have CQ7 := Lib.hid (show Cells W7 w.heap.size 2 (pF 0 (.slice none 0 0)) from by rw [← hW7]; exact (HQ5.out.alloc _).alloc (.stringIter s 0))
  have CT7 := Lib.hid (show Cells W7 w5.heap.size 2 (pF d (.slice none 0 0)) from by rw [← hW7]; exact (Cells.new (n := 2) rfl rfl).alloc (.stringIter s 0))
  have hzz : w5.heap.size + 2 ≤ W7.heap.size := by rw [← hW7]; simp [World.iter]
  have hlt5 : w.heap.size < w5.heap.size := HQ5.out.lt
  have HIT : Hid (W7.heap[w5.heap.size + 1]? = some (.stringIter s 0)) := Lib.hid (by
    rw [← hW7]
    have := World.iter_heap (w5.alloc (.cells #[.int .i64 d, .slice none 0 0] 27)) s 0
    rw [World.size_alloc] at this
    exact this)
  have HW7 := Lib.hid hW7
  clear hW7 HB5 HQ5
  obtain ⟨T, hT⟩ : ∃ T, w5.heap.size = T := ⟨_, rfl⟩
  rw [hT] at CT7 hzz hlt5 HIT
  rw [hT]
  go_loopw [] (fun wr => ∃ (pos : Nat) (v : Value), pos ≤ s.size ∧ wr.heap[T + 1]? = some (.stringIter s pos) ∧ RowP wr (T + 2) v (kqL (dg s) pos) ∧ Cells wr w.heap.size 2 (pF 0 (.slice none 0 0)) ∧ Cells wr T 2 (pF d v) ∧ T + 2 ≤ wr.heap.size ∧ Below w.heap.size w wr) (fun wr => s.size - wr.iterPos (T + 1))
  case atStart => rw [← hT, HW7.out, hT]; exact ⟨0, .slice none 0 0, by omega, HIT.out, rowP_nil _ _, CQ7.out, CT7.out, hzz, HB7.out⟩
  case round =>
    clear HW7 HB7 CQ7 CT7 HIT hzz
    obtain ⟨pos, v, hpos, hit, hR, hQ, hC, hz, hB⟩ := hrel
    have HR := Lib.hid hR
    have HQ := Lib.hid hQ
    have HC := Lib.hid hC
    have HB := Lib.hid hB
    clear hR hQ hC hB
    by_cases hp : pos < s.size
    · have hu : ((s[pos]'hp).toNat : Int) ≤ 255 := by have := (s[pos]'hp).toNat_lt; omega
      have hnx : ∀ ty, (Instr.next (.pointer (some ⟨T + 1, 0, none⟩)) true ty).run Try.prog wr = _ := fun ty => Lib.run_next_any_at wr (T + 1) s pos ty hit hp
      have hit2 := Lib.iterAt_heap wr (T + 1) s pos (pos + (Utf8.decode s pos).2) hit
      have hdb := allK_at HV3.out hp
      have HW : Hid ((Utf8.decode s pos).2 = 1) := Lib.hid (by rw [decode_ascii s pos hp (digit_asciiV (by omega) hdb)])
      have HDA := Lib.hid (dg_at hp)
      have hd0 : 0 ≤ (s[pos].toNat : Int) - 48 ∧ (s[pos].toNat : Int) - 48 ≤ 9 := by have := of_decide_eq_true hdb; omega
      have HX : Hid (kqL (dg s) (pos + 1) = kqL (dg s) pos ++ [[(dg s).getD pos 0]]) := Lib.hid rfl
      have hkl : (kqL (dg s) pos).length = pos := rwL_length _ _
      obtain ⟨x, hx⟩ : ∃ x, (s[pos]'hp).toNat = x := ⟨_, rfl⟩
      have HXE := Lib.hid hx
      have hxw : IntKind.i64.wrap (x : Int) = (x : Int) := IntWalk.i64_in _ (by omega)
      have hxw2 : IntKind.i64.wrap ((x : Int) - 48) = (x : Int) - 48 := IntWalk.i64_in _ (by omega)
      obtain ⟨wq, hwq⟩ : ∃ wq, wr.iterAt (T + 1) s (pos + (Utf8.decode s pos).2) = wq := ⟨_, rfl⟩
      have HWQ := Lib.hid hwq
      have HR1 := Lib.hid (show RowP wq (T + 2) v (kqL (dg s) pos) from by rw [← hwq]; exact rowP_iter HR.out (by omega) _ _)
      have HC1 := Lib.hid (show Cells wq T 2 (pF d v) from by rw [← hwq]; exact cells_iter HC.out (by omega) _ _)
      have HQ1 := Lib.hid (show Cells wq w.heap.size 2 (pF 0 (.slice none 0 0)) from by rw [← hwq]; exact cells_iter HQ.out (by omega) _ _)
      have HB1 := Lib.hid (show Below w.heap.size w wq from by rw [← hwq]; exact Lib.below_iterAt HB.out (by omega) _ _)
      have hit3 : wq.heap[T + 1]? = some (.stringIter s (pos + (Utf8.decode s pos).2)) := by rw [← hwq]; exact hit2
      have hzq : T + 2 ≤ wq.heap.size := by rw [← hwq, Lib.iterAt_size]; exact hz
      have m0 : (wr.iterAt (T + 1) s (pos + (Utf8.decode s pos).2)).cell? ⟨T, 1, none⟩ = some v := by rw [hwq]; exact HC1.out.cell (show 1 < 2 by omega)
      clear hwq hit2
      have m1 : wq.cell? ⟨T, 1, none⟩ = some v := HC1.out.cell (show 1 < 2 by omega)
      obtain ⟨G, vs, hv1, hv2, hv3, hv4⟩ := HR1.out.own
      have HU1 := Lib.hid hv1
      have HU2 := Lib.hid hv2
      have HU3 := Lib.hid hv3
      have HU4 := Lib.hid hv4
      clear hv1 hv2 hv3 hv4
      rw [hkl] at HU2
      have HBL : Hid (Below wq.heap.size wq (wq.alloc (.cells #[.int .i64 ((x : Int) - 48)] 3))) := Lib.hid ((Below.refl _ _).alloc (Nat.le_refl _) _)
      have HLS : Hid (Cells (wq.alloc (.cells #[.int .i64 ((x : Int) - 48)] 3)) wq.heap.size 1 (digF [(dg s).getD pos 0])) := Lib.hid ((Cells.new (n := 1) rfl rfl).congr fun j hj => by
        obtain rfl : j = 0 := by omega
        show Value.int .i64 ((x : Int) - 48) = .int .i64 ((dg s).getD pos 0)
        rw [HDA.out, HXE.out])
      have m2 : (wq.alloc (.cells #[.int .i64 ((x : Int) - 48)] 3)).cell? ⟨T, 1, none⟩ = some v := (HC1.out.alloc _).cell (show 1 < 2 by omega)
      have m3 : ((wq.alloc (.cells #[.int .i64 ((x : Int) - 48)] 3)).alloc (.cells #[.slice (some ⟨wq.heap.size, 0, none⟩) 1 1] 71)).cell? ⟨T, 1, none⟩ = some v := ((HC1.out.alloc _).alloc _).cell (show 1 < 2 by omega)
      go_wp2_with fail
      rw [HWQ.out]
      clear m0
      go_region_law (first
        | (refine step_append_at rfl (.tmp 32) (.tmp 39) 22 rfl (T + 2) 71 i0 (.slice none 0 0) 1 24 Try.underlying22 hi hy0 hy1 hy2 rfl (by decide) v pos vs rfl (rowv_kept ((rowv_kept HU2.out HBL.out).alloc (.cells #[.slice (some ⟨wq.heap.size, 0, none⟩) 1 1] 71)) (bel_drew (Below.refl _ _))) ⟨wq.heap.size + 1, 0, none⟩ 1 1 [.slice (some ⟨wq.heap.size, 0, none⟩) 1 1] rfl rfl (fun j u h => newv_one (W := wq.alloc (.cells #[.int .i64 ((x : Int) - 48)] 3)) (B := wq.heap.size + 1) (by simp) j u h) (by simp [Value.oneCell']) (by unfold maxLen; omega) (by omega) (by simp; omega) ?_; intro v' w4 hown' hgrow0 hblk
           have hgrow : ((wq.alloc (.cells #[.int .i64 ((x : Int) - 48)] 3)).alloc (.cells #[.slice (some ⟨wq.heap.size, 0, none⟩) 1 1] 71)).grownBy w4 v.ownBlock := ⟨hgrow0.os, hgrow0.tape, hgrow0.output, hgrow0.size, hgrow0.block⟩
           clear hgrow0
           have HR4 := Lib.hid (RowP.snoc (g := wq.heap.size) HU1.out HU3.out HU4.out HU2.out.lt HBL.out hzq (.inr ⟨rfl, Nat.le_refl _, HLS.out⟩) rfl (by rw [hkl]; exact hown') hgrow hblk)
           have HT4 := Lib.hid (((HC1.out.call HBL.out).alloc (.cells #[.slice (some ⟨wq.heap.size, 0, none⟩) 1 1] 71)).keptV hgrow (fun e => by have := (HU2.out.lt _ e).1; omega))
           have HQ4 := Lib.hid (((HQ1.out.call HBL.out).alloc (.cells #[.slice (some ⟨wq.heap.size, 0, none⟩) 1 1] 71)).keptV hgrow (fun e => by have := (HU2.out.lt _ e).1; omega))
           have HB4 := Lib.hid (((bel_call HB1.out HBL.out).alloc (bel_call HB1.out HBL.out).size (.cells #[.slice (some ⟨wq.heap.size, 0, none⟩) 1 1] 71)).grown hgrow (by simp; omega) (fun j hj => by have := (HU2.out.lt j hj).1; omega))
           have HZ4 := Lib.hid (show T + 2 ≤ w4.heap.size by have h2 := hgrow.size; simp at h2; omega)
           have HIT4 : Hid (w4.heap[T + 1]? = some (.stringIter s (pos + (Utf8.decode s pos).2))) := Lib.hid ((hgrow.block (T + 1) (by simp; omega) (fun e => by have := (HU2.out.lt _ e.symm).1; omega)).trans ((((Below.refl _ _).alloc (Nat.le_refl _) (.cells #[.slice (some ⟨wq.heap.size, 0, none⟩) 1 1] 71)).block (T + 1) (by simp; omega)).trans ((HBL.out.block (T + 1) (by omega)).trans hit3)))
           obtain ⟨g', cap', rfl⟩ := rowv_succ hown'
           have c2' : w4.cell? ⟨T, 1, none⟩ = some v := HT4.out.cell (show 1 < 2 by omega)
           have c3 := HT4.out.frozen (show 1 < 2 by omega)
           clear hown' hgrow hblk))
      all_goals
        have HRN := Lib.hid (HR4.out.under (p := ⟨T, 1, none⟩) (by show T < T + 2; omega) (.slice (some ⟨g', 0, none⟩) (pos + 1) cap'))
        have HQN := Lib.hid (HQ4.out.far (p := ⟨T, 1, none⟩) (by show T ≠ w.heap.size; omega) (.slice (some ⟨g', 0, none⟩) (pos + 1) cap'))
        have HTN := Lib.hid ((HT4.out.set_ (show 1 < 2 by omega) (.slice (some ⟨g', 0, none⟩) (pos + 1) cap')).congr (f' := pF d (.slice (some ⟨g', 0, none⟩) (pos + 1) cap')) (fun j hj => by
          have : j = 0 ∨ j = 1 := by omega
          rcases this with rfl | rfl <;> rfl))
        have HITN : Hid ((w4.setCell ⟨T, 1, none⟩ (.slice (some ⟨g', 0, none⟩) (pos + 1) cap')).heap[T + 1]? = some (.stringIter s (pos + 1))) := Lib.hid (by
          rw [Below.heap_setCell _ _ _ _ (show T + 1 ≠ T by omega), HIT4.out, HW.out])
        go_wp2_with fail
        go_roundw
        case rel => exact ⟨pos + 1, _, by omega, HITN.out, by rw [HX.out]; exact HRN.out, HQN.out, HTN.out, by rw [size_setCell]; exact HZ4.out, HB4.out.setCell (by show w.heap.size ≤ T; omega) _⟩
        case measure => rw [iterPos_atV HITN.out, iterPos_atV hit]; omega
    · obtain rfl : pos = s.size := by omega
      have hnx : ∀ ty, (Instr.next (.pointer (some ⟨T + 1, 0, none⟩)) true ty).run Try.prog wr = _ := fun ty => Lib.run_next_end_at wr (T + 1) s s.size ty hit (by omega)
      obtain ⟨A', c', rfl⟩ := HR.out.slice
      have hkl : (kqL (dg s) s.size).length = s.size := rwL_length _ _
      rw [hkl] at HR HC
      have t0 : wr.cell? ⟨T, 0, none⟩ = some (.int .i64 d) := HC.out.cell (show 0 < 2 by omega)
      have t1 : wr.cell? ⟨T, 1, none⟩ = some (.slice A' s.size c') := HC.out.cell (show 1 < 2 by omega)
      have q0 : wr.cell? ⟨w.heap.size, 0, none⟩ = some (.int .i64 0) := HQ.out.cell (show 0 < 2 by omega)
      have q1 : wr.cell? ⟨w.heap.size, 1, none⟩ = some (.slice none 0 0) := HQ.out.cell (show 1 < 2 by omega)
      have f0 := HQ.out.frozen (show 0 < 2 by omega)
      have f1 := HQ.out.frozen (show 1 < 2 by omega)
      go_wp2_with fail
      refine bodyPost_ret (v := .tuple #[.agg #[.int .i64 d, .slice A' s.size c'], .bool true]) (by simp [results, Try.results37, go_sem, q0, q1]) rfl ⟨_, rfl, ?_, ?_⟩
      · exact ((HR.out.under (by show w.heap.size < T + 2; omega) _).under (by show w.heap.size < T + 2; omega) _).weak (by omega)
      · iterate 2 (refine Below.setCell ?_ (by show w.heap.size ≤ w.heap.size; omega) _)
        exact HB.out

end Go.Proofs.Ytgcadcekkojidaa
