/- Smooth keys ranked, by the program. For texts of at most 2^20 bytes. -/
import Derived.Test.YtbfildegnbbinaaZg
namespace Go.Proofs.Ytbfildegnbbinaa
set_option maxRecDepth 100000
open Go.ChangeShapes Go.WideShapes Go.ChangeAt Go.RowKit Go.Joins

theorem kqK_nine (d : Int) (s : ByteArray) : Nine (kqK d s) ∧ (kqK d s).length ≤ 7 := by
  by_cases hk : keyB d s = true
  · obtain ⟨_, e2⟩ := kq_yes hk
    obtain ⟨_, _, _, n7, _⟩ := keyB_yes hk
    rw [e2]
    refine ⟨fun i => ?_, by rw [show (kqL (dg s) s.size).length = s.size from rwL_length _ _]; exact n7⟩
    by_cases hi : i < s.size
    · rw [kqL_at hi]; simp
    · simp [List.getD, List.getElem?_eq_none (by rw [show (kqL (dg s) s.size).length = s.size from rwL_length _ _]; omega : (kqL (dg s) s.size).length ≤ i)]
  · rw [Bool.not_eq_true] at hk
    rw [(kq_no hk).2]
    exact ⟨fun i => by simp, by simp⟩

theorem rkL_small {d : Int} {s : ByteArray} {k : Nat} (hk : keyB d s = true) : SmallP ((rkL (dg s) d.toNat s.size k).set k (upL (dgN s k))) := fun i hi x hx => by
  obtain ⟨d1, d9, n1, n7, ha⟩ := keyB_yes hk
  rw [List.length_set, rkL_length] at hi
  have hup : ∀ n : Nat, n ≤ 9 → x ∈ upL n → 0 ≤ x ∧ x < 9 := fun n hn hm => by
    obtain ⟨e, h1, rfl, _⟩ := lsN_mem.1 hm
    omega
  by_cases e : i = k
  · subst e
    rw [getD_set_eq (by rw [rkL_length]; exact hi)] at hx
    have := (dgN_at ha hi).2.1
    exact hup _ (by omega) hx
  · rw [getD_set_ne e, rkL_at hi] at hx
    split at hx
    · rw [List.mem_singleton, (dgN_at ha hi).2.2] at hx
      have := (dgN_at ha hi).2.1
      omega
    · exact hup _ (by omega) hx

theorem rkL_nine {d : Int} {s : ByteArray} {k : Nat} (hk : keyB d s = true) : Nine ((rkL (dg s) d.toNat s.size k).set k (upL (dgN s k))) := fun i => by
  obtain ⟨d1, d9, n1, n7, ha⟩ := keyB_yes hk
  by_cases hi : i < s.size
  · by_cases e : i = k
    · subst e
      rw [getD_set_eq (by rw [rkL_length]; exact hi), upL_length]
      have := (dgN_at ha hi).2.1
      omega
    · rw [getD_set_ne e, rkL_at hi]
      split
      · simp
      · rw [upL_length]; omega
  · simp [List.getD, List.getElem?_eq_none (by rw [List.length_set, rkL_length]; omega : ((rkL (dg s) d.toNat s.size k).set k (upL (dgN s k))).length ≤ i)]

set_option maxHeartbeats 8000000 in
theorem rankOfSmooth_any (d m : Int) (s : ByteArray) (w : World) (hs : s.size ≤ 1048576) :
    Calls Try.prog 25 #[.int .i64 d, .int .i64 m, .string s] w fun e w' => e = .returned (.tuple #[.int .i64 (rsZ d m s), .bool (rsB d m s)]) ∧ Below w.heap.size w w' := by
  have HQ := Lib.hid (kq_smooth d m s)
  have HQ9 := Lib.hid (kqK_nine d s)
  have HPK := Lib.hid (fun w => pinsOfKey_any d s w hs)
  obtain ⟨x, hx⟩ : ∃ x, (keyB d s && inB m 0 9) = x := ⟨_, rfl⟩
  have HX := Lib.hid hx
  obtain ⟨y, hy⟩ : ∃ y, smS m s = y := ⟨_, rfl⟩
  have HY := Lib.hid hy
  have HSB : Hid (rsB d m s = (x && y)) := Lib.hid (by unfold rsB; rw [hx, hy])
  obtain ⟨z, hz⟩ : ∃ z, smZ (kqD d s) m (kqK d s) = z := ⟨_, rfl⟩
  have HZ : Hid (x = true → z = if y then 1 else 0) := Lib.hid (fun e => by
    rw [e, Bool.and_eq_true] at hx
    rw [← hz, (kq_smooth d m s).2 hx.1 hx.2, hy])
  have HSM : Hid (smB (kqD d s) m (kqK d s) = x ∧ smZ (kqD d s) m (kqK d s) = z) := Lib.hid ⟨(kq_smooth d m s).1.trans hx, hz⟩
  clear hx hy hz HQ
  have HNO : Hid (x = false ∨ y = false → rsZ d m s = 0 ∧ rsB d m s = false) := Lib.hid (fun h => by
    have e : rsB d m s = false := by rw [HSB.out]; rcases h with h | h <;> rw [h] <;> simp
    exact ⟨by unfold rsZ; rw [e]; rfl, e⟩)
  generalize kqK d s = ks at HQ9 HPK HSM
  generalize kqD d s = dd at HPK HSM
  rcases x with _ | _
  · have HN := Lib.hid (HNO.out (.inl rfl))
    go_enter Try.func25, Try.ntmps25
    go_wp2_with (first
      | (go_at_call 55; refine (HPK.out _).mono ?_; rintro e w1 ⟨v, rfl, hR, hb1⟩
         obtain ⟨A, c, rfl, hcap⟩ := hR.cap
         have HR := Lib.hid hR
         have HB1 := Lib.hid hb1
         clear hR hb1)
      | (go_at_call 56; refine (smoothKeys_any _ _ _ _ _ ks _ (by have h1 := lens_nine HQ9.out.1 ks.length; have h2 := HQ9.out.2; omega) hcap ((HR.out.alloc _).knobs (fun i _ => by have := HQ9.out.1 i; unfold maxLen; omega))).mono ?_; rw [HSM.out.1, HSM.out.2]; rintro e w3 ⟨rfl, hb3⟩))
    go_ret2
    rw [HN.out.1, HN.out.2]
    exact ⟨rfl, bel_call (HB1.out.alloc HB1.out.size _) hb3⟩
  have hz1 := HZ.out rfl
  clear HZ
  rcases y with _ | _
  · have HN := Lib.hid (HNO.out (.inr rfl))
    obtain rfl : z = 0 := hz1
    go_enter Try.func25, Try.ntmps25
    go_wp2_with (first
      | (go_at_call 55; refine (HPK.out _).mono ?_; rintro e w1 ⟨v, rfl, hR, hb1⟩
         obtain ⟨A, c, rfl, hcap⟩ := hR.cap
         have HR := Lib.hid hR
         have HB1 := Lib.hid hb1
         clear hR hb1)
      | (go_at_call 56; refine (smoothKeys_any _ _ _ _ _ ks _ (by have h1 := lens_nine HQ9.out.1 ks.length; have h2 := HQ9.out.2; omega) hcap ((HR.out.alloc _).knobs (fun i _ => by have := HQ9.out.1 i; unfold maxLen; omega))).mono ?_; rw [HSM.out.1, HSM.out.2]; rintro e w3 ⟨rfl, hb3⟩))
    go_ret2
    rw [HN.out.1, HN.out.2]
    exact ⟨rfl, bel_call (HB1.out.alloc HB1.out.size _) hb3⟩
  obtain rfl : z = 1 := hz1
  have hkm := HX.out
  rw [Bool.and_eq_true] at hkm
  obtain ⟨hkey, hmB⟩ := hkm
  have HKEY := Lib.hid hkey
  have hm09 : 0 ≤ m ∧ m ≤ 9 := of_decide_eq_true hmB
  obtain ⟨d1, d9, n1, n7, hall⟩ := keyB_yes hkey
  have HALL := Lib.hid hall
  obtain ⟨dn, rfl⟩ : ∃ dn : Nat, d = dn := ⟨d.toNat, by omega⟩
  have HWB : Hid (wpB (dn : Int) (s.size : Int) = true) := Lib.hid (by unfold wpB inB; rw [decide_eq_true ⟨d1, d9⟩, decide_eq_true ⟨by omega, by omega⟩]; rfl)
  have HWP : Hid (∀ w, Calls Try.prog 50 #[.int .i64 (dn : Int), .int .i64 (s.size : Int)] w (PinsOut w dn (rkL (dg s) dn s.size 0) true)) := Lib.hid (fun w => by
    have h := wholePins_any (dn : Int) (s.size : Int) w
    have e1 : wpD (dn : Int) (s.size : Int) = dn := by unfold wpD; rw [HWB.out]; rfl
    have e2 : wpK (dn : Int) (s.size : Int) = rkL (dg s) dn s.size 0 := by unfold wpK; rw [HWB.out, rkL_zero]; rfl
    rw [HWB.out, e1, e2] at h
    exact h)
  have HDG : Hid (Digits (dg s)) := Lib.hid (fun k hk => by
    rw [dg_length] at hk
    have h := dgN_at hall hk
    rw [h.2.2]
    omega)
  have HRV : Hid (rsZ (dn : Int) m s = (rsN m dn s.size (dgN s) s.size : Nat) ∧ rsB (dn : Int) m s = true) := Lib.hid ⟨by unfold rsZ; rw [HSB.out]; rfl, HSB.out⟩
  clear hkey hmB hall
  go_enter Try.func25, Try.ntmps25
  go_wp2_with (first
    | (go_at_call 55; refine (HPK.out _).mono ?_; rintro e w1 ⟨v, rfl, hR, hb1⟩
       obtain ⟨A, c, rfl, hcap⟩ := hR.cap
       have HR := Lib.hid hR
       have HB1 := Lib.hid hb1
       clear hR hb1)
    | (go_at_call 56; refine (smoothKeys_any _ _ _ _ _ ks _ (by have h1 := lens_nine HQ9.out.1 ks.length; have h2 := HQ9.out.2; omega) hcap ((HR.out.alloc _).knobs (fun i _ => by have := HQ9.out.1 i; unfold maxLen; omega))).mono ?_; rw [HSM.out.1, HSM.out.2]; rintro e w3 ⟨rfl, hb3⟩
       have HB3 := Lib.hid (bel_call (HB1.out.alloc HB1.out.size _) hb3)
       clear hb3)
    | (go_at_call 50; refine (HWP.out _).mono ?_; rintro e w4 ⟨v4, rfl, hR4, hb4⟩
       obtain ⟨g0, c4, rfl⟩ : ∃ g0 c4, v4 = .slice (some ⟨g0, 0, none⟩) s.size c4 := by
         obtain ⟨G, vs, _, hv2, _, _⟩ := hR4.own
         rw [rkL_length] at hv2
         obtain ⟨g0, c2, e, _⟩ := hv2.form (by omega)
         exact ⟨g0, c2, e⟩
       have hc4 : s.size ≤ c4 := by
         obtain ⟨_, c', e, h⟩ := hR4.cap
         rw [rkL_length] at h
         injection e with _ _ e3
         omega
       have hg0 : w3.heap.size ≤ g0 ∧ g0 < w4.heap.size := by
         obtain ⟨G, vs, _, hv2, _, _⟩ := hR4.own
         exact hv2.lt g0 rfl
       obtain ⟨W5, hW5⟩ : ∃ W, w4.alloc (.cells #[.int .i64 (dn : Int), .slice (some ⟨g0, 0, none⟩) s.size c4] 34) = W := ⟨_, rfl⟩
       have hb5 : Below w4.heap.size w4 W5 := by rw [← hW5]; exact (Below.refl _ _).alloc (Nat.le_refl _) _
       have hz5 : W5.heap.size = w4.heap.size + 1 := by rw [← hW5]; simp
       have HZ5 := Lib.hid hz5
       have CX5 : Hid (Cells W5 w4.heap.size 2 (pF (dn : Int) (.slice (some ⟨g0, 0, none⟩) s.size c4))) := Lib.hid (by rw [← hW5]; exact Cells.new (n := 2) rfl rfl)
       have HR5 := Lib.hid (hR4.call hb5)
       have HB5 := Lib.hid (bel_call (bel_call HB3.out hb4) hb5)
       have HZ3 := Lib.hid HB3.out.size
       clear hR4 hb4 hb5 hz5)
    | (go_at_call 57; refine (digitsOf_any _ _ HDG.out (by omega)).mono ?_; rintro e w6 ⟨gd, cd, rfl, hgd, hCD, hb6⟩
       have HCD := Lib.hid hCD
       have CX6 := Lib.hid (CX5.out.call hb6)
       have HR6 := Lib.hid (HR5.out.call hb6)
       have HB6 := Lib.hid (bel_call HB5.out hb6)
       have hz6 := hb6.size
       clear hCD hb6))
  have hdg9 : ∀ i, dgN s i ≤ 9 := fun i => by
    by_cases hi : i < s.size
    · have := (dgN_at HALL.out hi).2.1; omega
    · unfold dgN
      simp [List.getD, List.getElem?_eq_none (by rw [dg_length]; omega : (dg s).length ≤ i)]
  have HD9 := Lib.hid hdg9
  clear hdg9
  obtain ⟨B0, hB0⟩ : ∃ B, w3.heap.size = B := ⟨_, rfl⟩
  obtain ⟨U, hU⟩ : ∃ U, w4.heap.size = U := ⟨_, rfl⟩
  have hzU : U < gd := by have := HZ5.out; omega
  have HZB : Hid (w.heap.size ≤ B0) := Lib.hid (by rw [← hB0]; exact HZ3.out)
  rw [hB0] at HR6 hg0
  rw [hU] at CX6 hg0 ⊢
  clear hU hB0
  obtain ⟨hg0a, hg0b⟩ := hg0
  go_loopw [14, 45] (fun r i wr => ∃ k : Nat, k ≤ s.size ∧ i = .int .i64 (k : Int) ∧ r = .int .i64 ((rsN m dn s.size (dgN s) k : Nat) : Int) ∧ RowP wr B0 (.slice (some ⟨g0, 0, none⟩) s.size c4) (rkL (dg s) dn s.size k) ∧ Cells wr U 2 (pF (dn : Int) (.slice (some ⟨g0, 0, none⟩) s.size c4)) ∧ Cells wr gd s.size (digF (dg s)) ∧ Below w.heap.size w wr ∧ gd < wr.heap.size) (fun _ i _ => s.size - (intOf i).toNat)
  case atStart => exact ⟨0, by omega, rfl, rfl, HR6.out, CX6.out, HCD.out, HB6.out, HCD.out.lt⟩
  case round =>
    obtain ⟨k, hk, rfl, rfl, hR, hX, hD, hB, hgz⟩ := hrel
    have HRk := Lib.hid hR
    have HXk := Lib.hid hX
    have HDk := Lib.hid hD
    have HBk := Lib.hid hB
    clear hR hX hD hB
    by_cases hlt : k < s.size
    · have hdk := dgN_at HALL.out hlt
      have hlk : ((rkL (dg s) dn s.size k).length) = s.size := rkL_length _ _ _ _
      have HLK := Lib.hid hlk
      have HCNT : Hid (toS (fwN m ((rkL (dg s) dn s.size k).set k (upL (dgN s k))) (s.size - 1)) 0 9 = rkN m dn s.size (dgN s) k) := Lib.hid (by have h := rkL_count (d := (dn : Int)) (m := m) (k := k) HKEY.out HY.out hlt; rw [Int.toNat_natCast] at h; exact h)
      have HN9 : Hid (Nine ((rkL (dg s) dn s.size k).set k (upL (dgN s k)))) := Lib.hid (by have h := rkL_nine (d := (dn : Int)) (k := k) HKEY.out; rw [Int.toNat_natCast] at h; exact h)
      have HSP : Hid (SmallP ((rkL (dg s) dn s.size k).set k (upL (dgN s k)))) := Lib.hid (by have h := rkL_small (d := (dn : Int)) (k := k) HKEY.out; rw [Int.toNat_natCast] at h; exact h)
      have HSET : Hid (((rkL (dg s) dn s.size k).set k (upL (dgN s k))).set k [(dgN s k : Int)] = rkL (dg s) dn s.size (k + 1)) := Lib.hid (by rw [← hdk.2.2]; exact rkL_set hlt _)
      have HSL : Hid (((rkL (dg s) dn s.size k).set k (upL (dgN s k))).length = s.size) := Lib.hid (by rw [List.length_set, rkL_length])
      have hr0 := rsN_le (m := m) (n := s.size) (dn := dn) (x := dgN s) (by omega) HD9.out n7 k
      have hz0 := rkN_le (m := m) (n := s.size) (dn := dn) (k := k) (x := dgN s) (by omega) (HD9.out k) n7
      have HRS : Hid (rsN m dn s.size (dgN s) (k + 1) = rsN m dn s.size (dgN s) k + rkN m dn s.size (dgN s) k) := Lib.hid rfl
      have o1 : wr.cell? ⟨gd, k, none⟩ = some (.int .i64 (dgN s k : Int)) := by rw [HDk.out.cell hlt]; unfold digF; rw [hdk.2.2]
      have he9 := HD9.out k
      have PUT1 : Hid (∀ (w7 : World) (A7 : Option Addr) (c7 g7 : Nat), Below wr.heap.size wr w7 → (dgN s k = 0 ∨ (A7 = some ⟨g7, 0, none⟩ ∧ wr.heap.size ≤ g7 ∧ Cells w7 g7 (dgN s k) (digF (upL (dgN s k))))) → RowP (w7.setCell ⟨g0, k, none⟩ (.slice A7 (dgN s k) c7)) B0 (.slice (some ⟨g0, 0, none⟩) s.size c4) ((rkL (dg s) dn s.size k).set k (upL (dgN s k)))) := Lib.hid (fun w7 A7 c7 g7 hb hc => RowP.put HRk.out hb (by rw [rkL_length]; exact hlt) (upL_length _) (hc.imp id fun ⟨e1, e2, e3⟩ => ⟨e1, e2, by omega, e3⟩))
      clear hdk hlk
      obtain ⟨e, he⟩ : ∃ e, dgN s k = e := ⟨_, rfl⟩
      obtain ⟨r0, hr0'⟩ : ∃ r, rsN m dn s.size (dgN s) k = r := ⟨_, rfl⟩
      obtain ⟨z0, hz0'⟩ : ∃ z, rkN m dn s.size (dgN s) k = z := ⟨_, rfl⟩
      rw [he] at HCNT HN9 HSP HSET HSL PUT1 o1 he9
      rw [hr0'] at HRS hr0 ⊢
      rw [hz0'] at HRS hz0 HCNT
      clear he hr0' hz0'
      generalize (rkL (dg s) dn s.size k).set k (upL e) = Z at HCNT HN9 HSP HSET HSL PUT1
      have hr1 : r0 ≤ 301327047 := Nat.le_trans hr0 (Nat.le_trans (Nat.mul_le_mul_right _ (show k ≤ 7 by omega)) (by decide))
      clear hr0
      have x0 : wr.cell? ⟨U, 0, none⟩ = some (.int .i64 (dn : Int)) := HXk.out.cell (show 0 < 2 by omega)
      have x1 : wr.cell? ⟨U, 1, none⟩ = some (.slice (some ⟨g0, 0, none⟩) s.size c4) := HXk.out.cell (show 1 < 2 by omega)
      have hki : (k : Int) < (s.size : Int) := by omega
      go_wp2_with fail
      go_region_law (first
        | (go_simp; go_at_call 58; refine (depthsBelow_any e _ he9).mono ?_; rintro ee w7 ⟨A7, c7, rfl, hL7, hb7⟩
           rw [upL_length] at hL7 ⊢
           have HB7 := Lib.hid (below_undrew hb7)
           obtain ⟨g7, hL7'⟩ := listOut_at hL7
           have HP8 := Lib.hid (PUT1.out w7 A7 c7 g7 HB7.out hL7')
           have HX7 := Lib.hid (HXk.out.call HB7.out)
           have HD7 := Lib.hid (HDk.out.call HB7.out)
           have x1_7 : w7.cell? ⟨U, 1, none⟩ = some (.slice (some ⟨g0, 0, none⟩) s.size c4) := HX7.out.cell (show 1 < 2 by omega)
           have hRr := HRk.out.call HB7.out
           obtain ⟨G, vs, hv1, hv2, hv3, hv4⟩ := hRr.own
           rw [HLK.out] at hv2 hv1
           have y0 : w7.cell? ⟨g0, k, none⟩ = some (vs.getD k undef) := by
             rw [hv2.cellAt k (by omega)]
             simp [List.getD, List.getElem?_eq_getElem (show k < vs.length by omega)]
           have yf : w7.frozen? ⟨g0, k, none⟩ = false := hv2.frozenAt k
           clear hv1 hv2 hv3 hv4 hRr hL7 hL7' hb7))
      all_goals
        obtain ⟨W8, hW8⟩ : ∃ W, w7.setCell ⟨g0, k, none⟩ (.slice A7 e c7) = W := ⟨_, rfl⟩
        rw [hW8] at HP8
        have HB7' : Below wr.heap.size wr w7 := HB7.out
        have hz7 : wr.heap.size ≤ w7.heap.size := HB7'.size
        have HX8 := Lib.hid (show Cells W8 U 2 _ from hW8 ▸ HX7.out.far (by show g0 ≠ U; omega) _)
        have HD8 := Lib.hid (show Cells W8 gd s.size _ from hW8 ▸ HD7.out.far (by show g0 ≠ gd; omega) _)
        have HB8 := Lib.hid (show Below w.heap.size w W8 from hW8 ▸ (bel_call HBk.out HB7').setCell (by show w.heap.size ≤ g0; have := HZB.out; omega) _)
        have hz8 : w7.heap.size = W8.heap.size := by rw [← hW8, size_setCell]
        have hwz : IntKind.i64.wrap ((r0 : Int) + (z0 : Int)) = (r0 : Int) + (z0 : Int) := by rw [IntKind.wrap_i64]; omega
        have x0_8 : W8.cell? ⟨U, 0, none⟩ = some (.int .i64 (dn : Int)) := HX8.out.cell (show 0 < 2 by omega)
        have x1_8 : W8.cell? ⟨U, 1, none⟩ = some (.slice (some ⟨g0, 0, none⟩) s.size c4) := HX8.out.cell (show 1 < 2 by omega)
        rw [hW8]
        clear y0 yf x1_7 HB7 x0 x1 o1 HB7'
        go_wp2_with (first
          | (go_at_call 51; refine (countSmooth_any (dn : Int) m _ s.size c4 Z _ hm09 n1 n7 hc4 (HP8.out.knobs (fun i _ => by have := HN9.out i; unfold maxLen; omega)) HSP.out).mono ?_; rw [HCNT.out]; rintro ee w9 ⟨rfl, hb9⟩
             have HX9 := Lib.hid (HX8.out.call hb9)
             have HD9' := Lib.hid (HD8.out.call hb9)
             have HP9 := Lib.hid (HP8.out.call hb9)
             have HB9 := Lib.hid (bel_call HB8.out hb9)
             have hz9 := hb9.size
             have x1_9 : w9.cell? ⟨U, 1, none⟩ = some (.slice (some ⟨g0, 0, none⟩) s.size c4) := HX9.out.cell (show 1 < 2 by omega)
             obtain ⟨W10, hW10⟩ : ∃ W, w9.alloc (.cells #[.int .i64 (e : Int)] 3) = W := ⟨_, rfl⟩
             have hb10 : Below w9.heap.size w9 W10 := by rw [← hW10]; exact (Below.refl _ _).alloc (Nat.le_refl _) _
             have hz10 := hb10.size
             have C10 : Cells W10 w9.heap.size 1 (digF [(e : Int)]) := by rw [← hW10]; exact (Cells.new (n := 1) (cs := #[.int .i64 (e : Int)]) rfl rfl).congr (fun j hj => by have e0 : j = 0 := (by omega); subst e0; rfl)
             have hp11 := RowP.put (k := k) (c := 1) (A' := some ⟨w9.heap.size, 0, none⟩) (g := w9.heap.size) (m := 1) (xs := [(e : Int)]) HP9.out hb10 (by rw [HSL.out]; exact hlt) rfl (.inr ⟨rfl, Nat.le_refl _, by omega, C10⟩)
             rw [HSET.out] at hp11
             have HP11 := Lib.hid hp11
             have HX11 := Lib.hid ((HX9.out.call hb10).far (p := ⟨g0, k, none⟩) (by show g0 ≠ U; omega) (.slice (some ⟨w9.heap.size, 0, none⟩) 1 1))
             have HD11 := Lib.hid ((HD9'.out.call hb10).far (p := ⟨g0, k, none⟩) (by show g0 ≠ gd; omega) (.slice (some ⟨w9.heap.size, 0, none⟩) 1 1))
             have HB11 := Lib.hid ((bel_call HB9.out hb10).setCell (p := ⟨g0, k, none⟩) (by show w.heap.size ≤ g0; have := HZB.out; omega) (.slice (some ⟨w9.heap.size, 0, none⟩) 1 1))
             have hRr := HP9.out.call hb10
             obtain ⟨G9, vs9, hv1, hv2, hv3, hv4⟩ := hRr.own
             rw [HSL.out] at hv2 hv1
             have y0 : W10.cell? ⟨g0, k, none⟩ = some (vs9.getD k undef) := by
               rw [hv2.cellAt k (by omega)]
               simp [List.getD, List.getElem?_eq_getElem (show k < vs9.length by omega)]
             have yf : W10.frozen? ⟨g0, k, none⟩ = false := hv2.frozenAt k
             clear hv1 hv2 hv3 hv4 hRr hb9 hb10 hp11 C10))
        go_roundw
        case rel => exact ⟨k + 1, by omega, by go_num, by rw [HRS.out]; simp, HP11.out, HX11.out, HD11.out, HB11.out, by rw [size_setCell]; omega⟩
        case measure => simp [intOf]; omega
    · obtain rfl : k = s.size := by omega
      go_wp2_with fail
      go_ret2
      rw [HRV.out.1, HRV.out.2]
      exact ⟨rfl, HBk.out⟩

end Go.Proofs.Ytbfildegnbbinaa
