/- Smooth keys ranked, by the model: a key that has a rank. For texts of at most 2^20 bytes. -/
import Derived.Test.YtbfildegnbbinaaZi
namespace Go.Proofs.Ytbfildegnbbinaa
set_option maxRecDepth 100000
open Go.ChangeShapes Go.WideShapes Go.ChangeAt Go.RowKit Go.Joins

set_option maxHeartbeats 8000000 in
theorem specRank_yes (d m : Int) (s : ByteArray) (w : World) (hs : s.size ≤ 1048576) (h : rsB d m s = true) :
    Calls Try.prog 24 #[.int .i64 d, .int .i64 m, .string s] w fun e w' => e = .returned (.tuple #[.int .i64 (rsZ d m s), .bool (rsB d m s)]) ∧ Below w.heap.size w w' := by
  have HRB := Lib.hid h
  have hkey : keyB d s = true := by unfold rsB at h; simp only [Bool.and_eq_true] at h; exact h.1.1
  have hall := (keyB_yes hkey).2.2.2.2
  have HALL := Lib.hid hall
  rw [rsB_model] at h
  simp only [Bool.and_eq_true] at h
  obtain ⟨⟨hx, hy⟩, hz⟩ := h
  have HX := Lib.hid hx
  have HY := Lib.hid hy
  have HZ := Lib.hid hz
  obtain ⟨d1, d9, n1, n7, m0, m9⟩ := cmB_yes hx
  clear hx hy hz hkey hall
  obtain ⟨dn, rfl⟩ : ∃ dn : Nat, d = dn := ⟨d.toNat, by omega⟩
  have HV : Hid (rsZ (dn : Int) m s = (rsN m dn s.size (dgN s) s.size : Nat)) := Lib.hid (by unfold rsZ; rw [HRB.out]; rfl)
  have HD9 : Hid (∀ i, dgN s i ≤ 9) := Lib.hid (fun i => by
    by_cases hi : i < s.size
    · have := (dgN_at HALL.out hi).2.1; omega
    · unfold dgN
      simp [List.getD, List.getElem?_eq_none (by rw [dg_length]; omega : (dg s).length ≤ i)])
  go_enter Try.func24, Try.ntmps24
  go_wp2_with (first
    | (go_at_call 54; refine (keIsSmooth_any s m _ hs).mono ?_; rw [HZ.out]; rintro e w2 ⟨rfl, hh2, hb2⟩
       clear hh2
       have HB2 := Lib.hid (bel_call HB1.out hb2)
       clear hb2)
    | (go_at_call 53; refine (keKey_any (dn : Int) s _ (by unfold maxLen; omega) ⟨d1, d9⟩).mono ?_; rw [HY.out]; rintro e w1 ⟨rfl, hb1⟩
       have HB1 := Lib.hid hb1
       clear hb1)
    | (go_at_call 45; refine (keSize_any _ _ _ _).mono ?_; rw [HX.out]; rintro e wq ⟨rfl, hwq⟩; replace hwq := hwq.symm; subst hwq))
  have HZI := Lib.hid HB2.out.size
  have HIT : Hid ((w2.iter s 0).heap[w2.heap.size]? = some (.stringIter s 0)) := Lib.hid (by have := World.iter_heap w2 s 0; simpa using this)
  have HBI : Hid (Below w.heap.size w (w2.iter s 0)) := Lib.hid (HB2.out.alloc HB2.out.size _)
  go_loopw [8] (fun r wr => ∃ pos : Nat, pos ≤ s.size ∧ r = .int .i64 ((rsN m dn s.size (dgN s) pos : Nat) : Int) ∧ wr.heap[w2.heap.size]? = some (.stringIter s pos) ∧ Below w.heap.size w wr) (fun _ wr => s.size - wr.iterPos w2.heap.size)
  case atStart => exact ⟨0, by omega, rfl, HIT.out, HBI.out⟩
  case round =>
    obtain ⟨pos, hpos, rfl, hit, hB⟩ := hrel
    have HB := Lib.hid hB
    clear hB HIT HBI
    have hsz : w2.heap.size < wr.heap.size := (Array.getElem?_eq_some_iff.1 hit).1
    have hIw := HZI.out
    by_cases hp : pos < s.size
    · have hu : ((s[pos]'hp).toNat : Int) ≤ 255 := by have := (s[pos]'hp).toNat_lt; omega
      have hdg := allK_at HALL.out hp
      have HW : Hid ((Utf8.decode s pos).2 = 1) := Lib.hid (by rw [decode_ascii s pos hp (digit_asciiV (by omega) hdg)])
      have hnx : ∀ ty, (Instr.next (.pointer (some ⟨w2.heap.size, 0, none⟩)) true ty).run Try.prog wr = _ := fun ty => Lib.run_next_any_at wr w2.heap.size s pos ty hit hp
      have hit2 := Lib.iterAt_heap wr w2.heap.size s pos (pos + (Utf8.decode s pos).2) hit
      have hB2 := Lib.below_iterAt HB.out (k := w2.heap.size) (by omega) s (pos + (Utf8.decode s pos).2)
      have hsub : IntKind.i64.wrap ((s.size : Int) - (pos : Int)) = ((s.size - pos : Nat) : Int) := by rw [IntKind.wrap_i64]; omega
      go_wp2_with (first
        | (go_at_call 46; refine (keSmooth_any dn (s.size - pos) m _ ⟨m0, m9⟩ (by omega) (by omega) (by omega)).mono ?_; rintro e w5 ⟨g, rfl, hg, hC, hb5⟩
           have HC := Lib.hid hC
           have HB5 := Lib.hid (bel_call hB2 hb5)
           have HB5k := Lib.hid hb5
           clear hC hb5))
      have HW5 : Hid (w5.heap[w2.heap.size]? = some (.stringIter s (pos + (Utf8.decode s pos).2))) := Lib.hid ((HB5k.out.block w2.heap.size (Array.getElem?_eq_some_iff.1 hit2).1).trans hit2)
      have hr0 := rsN_le (m := m) (n := s.size) (dn := dn) (x := dgN s) (by omega) HD9.out (by omega) pos
      have hr1 : rsN m dn s.size (dgN s) pos ≤ 301327047 := Nat.le_trans hr0 (Nat.le_trans (Nat.mul_le_mul_right _ (show pos ≤ 7 by omega)) (by decide))
      clear hr0
      go_loopw [8, 43] (fun r iv wq => ∃ t : Nat, t ≤ dn ∧ iv = .int .i64 (t : Int) ∧ r = .int .i64 ((rsN m dn s.size (dgN s) pos + rtN m dn s.size (dgN s) pos t : Nat) : Int) ∧ Cells wq g dn (fun j => .int .i64 (gwN m dn (s.size - pos - 1) j : Int)) ∧ wq.heap[w2.heap.size]? = some (.stringIter s (pos + (Utf8.decode s pos).2)) ∧ Below w.heap.size w wq) (fun _ iv _ => dn - (intOf iv).toNat)
      case atStart => exact ⟨0, by omega, rfl, by rw [rtN_zero]; rfl, HC.out, HW5.out, HB5.out⟩
      case round =>
        obtain ⟨t, ht, rfl, rfl, hCt, hit3, hBt⟩ := hrel
        have HCt := Lib.hid hCt
        have HBt := Lib.hid hBt
        have HI3 := Lib.hid hit3
        clear hCt hBt hit3
        by_cases hlt : t < dn
        · have hdx := dgN_at HALL.out hp
          have hbx := byN_at hp
          have hx8 : IntKind.u8.wrap (((s[pos]'hp).toNat : Int) - 48) = (dgN s pos : Int) := by rw [IntKind.wrap_u8]; omega
          have hxw : IntKind.i64.wrap (dgN s pos : Int) = (dgN s pos : Int) := by rw [IntKind.wrap_i64]; omega
          have o1 := HCt.out.cell hlt
          have hgw := gwN_le (m := m) (show dn ≤ 9 by omega) (s.size - pos - 1) t
          have hgw2 := Nat.le_trans hgw (pow9_le' (show s.size - pos - 1 ≤ 7 by omega))
          clear hgw hdx hbx
          by_cases htx : t < dgN s pos
          · have hti : (t : Int) < (dgN s pos : Int) := by omega
            have HST := Lib.hid (rtN_step (m := m) (dn := dn) (n := s.size) (k := pos) (x := dgN s) htx)
            rw [show s.size - 1 - pos = s.size - pos - 1 by omega] at HST
            have hrt : rtN m dn s.size (dgN s) pos t ≤ 43046721 := by
              have h1 : ∀ e, (if folB m (dgN s) pos e = true then gwN m dn (s.size - 1 - pos) e else 0) ≤ 4782969 := fun e => by
                split
                · exact Nat.le_trans (gwN_le (by omega) _ _) (pow9_le' (by omega))
                · exact Nat.zero_le _
              have h2 := toS_le (lo := 0) h1 (min t (dgN s pos))
              have h3 : min t (dgN s pos) * 4782969 ≤ 9 * 4782969 := Nat.mul_le_mul_right _ (by omega)
              unfold rtN
              omega
            by_cases hp0 : pos = 0
            · have HRW : Hid (rtN m dn s.size (dgN s) pos (t + 1) = rtN m dn s.size (dgN s) pos t + gwN m dn (s.size - pos - 1) t) := Lib.hid (by rw [HST.out, if_pos (by unfold folB; rw [decide_eq_true hp0]; rfl)])
              have hpe : ((pos : Int) == 0) = true := by rw [hp0]; rfl
              clear hp0
              generalize rsN m dn s.size (dgN s) pos = r0 at hr1 ⊢
              generalize rtN m dn s.size (dgN s) pos t = r1 at hrt HRW ⊢
              generalize gwN m dn (s.size - pos - 1) t = g1 at o1 hgw2 HRW
              have hwr : IntKind.i64.wrap ((r0 : Int) + (r1 : Int) + (g1 : Int)) = (r0 : Int) + (r1 : Int) + (g1 : Int) := by rw [IntKind.wrap_i64]; omega
              go_wp2_with fail
              go_roundw
              case rel => exact ⟨t + 1, by omega, by go_num, by rw [HRW.out]; congr 1; omega, HCt.out, HI3.out, HBt.out⟩
              case measure => simp [intOf]; omega
            · obtain ⟨q, hq⟩ : ∃ q, q + 1 = pos := ⟨pos - 1, by omega⟩
              have hpe : ((pos : Int) == 0) = false := by rw [beq_eq_false_iff_ne]; omega
              have hq1 : q < s.size := by omega
              have hqk : (pos : Int) - 1 = (q : Int) := by omega
              have hkw : IntKind.i64.wrap (q : Int) = (q : Int) := by rw [IntKind.wrap_i64]; omega
              have hqw : IntKind.i64.wrap ((pos : Int) - 1) = (q : Int) := by rw [IntKind.wrap_i64]; omega
              have hu2 : ((s[q]'hq1).toNat : Int) ≤ 255 := by have := (s[q]'hq1).toNat_lt; omega
              have hdy := dgN_at HALL.out hq1
              have hby := byN_at hq1
              have hy8 : IntKind.u8.wrap (((s[q]'hq1).toNat : Int) - 48) = (dgN s q : Int) := by rw [IntKind.wrap_u8]; omega
              have hyw : IntKind.i64.wrap (dgN s q : Int) = (dgN s q : Int) := by rw [IntKind.wrap_i64]; omega
              have hy9 := HD9.out q
              have hdw : IntKind.i64.wrap ((t : Int) - (dgN s q : Int)) = (t : Int) - (dgN s q : Int) := by rw [IntKind.wrap_i64]; omega
              have HF : Hid (folB m (dgN s) pos t = closeB m t (dgN s q)) := Lib.hid (by unfold folB; rw [decide_eq_false hp0, Bool.false_or, show pos - 1 = q by omega])
              clear hdy hby hq
              obtain ⟨a, ha⟩ : ∃ a : Int, max ((t : Int) - (dgN s q : Int)) (-((t : Int) - (dgN s q : Int))) = a := ⟨_, rfl⟩
              have HAB := Lib.hid ha
              by_cases hcl : a ≤ m
              · have HCL : Hid (closeB m t (dgN s q) = true) := Lib.hid (decide_eq_true ⟨by omega, by omega⟩)
                have HRW : Hid (rtN m dn s.size (dgN s) pos (t + 1) = rtN m dn s.size (dgN s) pos t + gwN m dn (s.size - pos - 1) t) := Lib.hid (by rw [HST.out, if_pos (HF.out.trans HCL.out)])
                clear ha hp0
                generalize rsN m dn s.size (dgN s) pos = r0 at hr1 ⊢
                generalize rtN m dn s.size (dgN s) pos t = r1 at hrt HRW ⊢
                generalize gwN m dn (s.size - pos - 1) t = g1 at o1 hgw2 HRW
                have hwr : IntKind.i64.wrap ((r0 : Int) + (r1 : Int) + (g1 : Int)) = (r0 : Int) + (r1 : Int) + (g1 : Int) := by rw [IntKind.wrap_i64]; omega
                go_wp2_with (go_at_call 47; refine (l1Abs_any _ _ (by omega)).mono ?_; rw [HAB.out]; rintro e wq ⟨rfl, hwq⟩; replace hwq := hwq.symm; subst hwq)
                go_roundw
                case rel => exact ⟨t + 1, by omega, by go_num, by rw [HRW.out]; congr 1; omega, HCt.out, HI3.out, HBt.out⟩
                case measure => simp [intOf]; omega
              · have HCL : Hid (closeB m t (dgN s q) = false) := Lib.hid (decide_eq_false (fun h => by omega))
                have HRW : Hid (rtN m dn s.size (dgN s) pos (t + 1) = rtN m dn s.size (dgN s) pos t) := Lib.hid (by rw [HST.out, if_neg (by rw [HF.out, HCL.out]; decide), Nat.add_zero])
                clear ha hp0
                go_wp2_with (go_at_call 47; refine (l1Abs_any _ _ (by omega)).mono ?_; rw [HAB.out]; rintro e wq ⟨rfl, hwq⟩; replace hwq := hwq.symm; subst hwq)
                go_roundw
                case rel => exact ⟨t + 1, by omega, by go_num, by rw [HRW.out]; congr 1, HCt.out, HI3.out, HBt.out⟩
                case measure => simp [intOf]; omega
          · have hti : ¬ (t : Int) < (dgN s pos : Int) := by omega
            have HRW : Hid (rtN m dn s.size (dgN s) pos t = rtN m dn s.size (dgN s) pos (t + 1)) := Lib.hid (rtN_over htx).symm
            go_wp2_with fail
            go_roundw
            case rel => exact ⟨t + 1, by omega, by go_num, by rw [HRW.out], HCt.out, HI3.out, HBt.out⟩
            case measure => simp [intOf]; omega
        · obtain rfl : t = dn := by omega
          have hdx := (dgN_at HALL.out hp).2.1
          have HRW : Hid (rsN m t s.size (dgN s) pos + rtN m t s.size (dgN s) pos t = rsN m t s.size (dgN s) (pos + 1)) := Lib.hid (by rw [rtN_whole (by omega), rsN])
          clear hdx
          go_wp2_with fail
          go_roundw
          case rel => exact ⟨pos + 1, by omega, by rw [HRW.out], by rw [show pos + 1 = pos + (Utf8.decode s pos).2 by rw [HW.out]]; exact HI3.out, HBt.out⟩
          case measure =>
            have := HW.out
            rw [iterPos_atV HI3.out, iterPos_atV hit]
            omega
    · obtain rfl : pos = s.size := by omega
      have hnx : ∀ ty, (Instr.next (.pointer (some ⟨w2.heap.size, 0, none⟩)) true ty).run Try.prog wr = _ := fun ty => Lib.run_next_end_at wr w2.heap.size s s.size ty hit hp
      go_wp2_with fail
      go_ret2
      rw [HV.out, HRB.out]
      exact ⟨rfl, HB.out⟩

theorem specRankOfSmooth_any (d m : Int) (s : ByteArray) (w : World) (hs : s.size ≤ 1048576) :
    Calls Try.prog 24 #[.int .i64 d, .int .i64 m, .string s] w fun e w' => e = .returned (.tuple #[.int .i64 (rsZ d m s), .bool (rsB d m s)]) ∧ Below w.heap.size w w' := by
  cases h : rsB d m s with
  | true => have := specRank_yes d m s w hs h; rwa [h] at this
  | false => have := specRank_no d m s w hs h; rwa [h] at this

end Go.Proofs.Ytbfildegnbbinaa
