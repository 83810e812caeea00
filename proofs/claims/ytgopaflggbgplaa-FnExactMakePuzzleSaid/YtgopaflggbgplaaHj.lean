/- Places and other digits of a guess for a code, as the model reckons them. For two texts of digits. -/
import Derived.Test.YtgopaflggbgplaaHi
import Derived.Test.YtgopaflggbgplaaFar
import Derived.Lib.OthersKept
import Derived.LoopTactic
import Derived.Deep.QuietTactic
import Derived.BigQuiet
namespace Go.Proofs.Ytgopaflggbgplaa
open Go.ChangeShapes Go.WideShapes Go.ChangeAt Go.RowKit Go.Joins

theorem hj_pos {w : World} {k pos : Nat} {s : ByteArray} (h : w.heap[k]? = some (.stringIter s pos)) : w.iterPos k = pos := by simp [World.iterPos, h]

theorem hj_ascii {s : ByteArray} (hd : Digits (dg s)) {k : Nat} (hk : k < s.size) : (s[k]'hk).toNat < 128 := by
  have := digits_at hd hk
  omega

theorem lst_min (x y : Nat) : lstI (x : Int) (y : Int) = ((min x y : Nat) : Int) := by
  unfold lstI
  split <;> omega

set_option maxHeartbeats 2000000 in
theorem hiOf_any (s t : ByteArray) (w : World) (hT : TwoD s t) :
    Calls Try.prog 74 #[.string s, .string t] w fun e w' => e = .returned (.tuple #[.int .i64 (hiP s t), .int .i64 (hiO s t)]) ∧ Below w.heap.size w w' := by
  have HT := Lib.hid hT
  obtain ⟨hn6, hst, hts⟩ : s.size ≤ 6 ∧ s.size ≤ t.size ∧ t.size ≤ s.size := ⟨hT.n6, by rw [hT.eq]; exact Nat.le_refl _, by rw [hT.eq]; exact Nat.le_refl _⟩
  clear hT
  go_enter Try.func74, Try.ntmps74
  go_wp2
  go_loopw [6] (fun p wr => ∃ pos : Nat, pos ≤ s.size ∧ p = .int .i64 (plN s t pos : Nat) ∧ wr.heap[w.heap.size]? = some (.stringIter s pos) ∧ Below w.heap.size w wr) (fun _ wr => s.size - wr.iterPos w.heap.size)
  case atStart =>
    refine ⟨0, by omega, rfl, ?_, ?_⟩
    · have := World.iter_heap w s 0
      simpa using this
    · exact (Below.refl _ w).alloc (Nat.le_refl _) _
  case round =>
    obtain ⟨pos, hpos, rfl, hit, hB⟩ := hrel
    have hsz : w.heap.size < wr.heap.size := (Array.getElem?_eq_some_iff.1 hit).1
    have hpl := plN_le s t pos
    by_cases hp : pos < s.size
    · have hp' : pos < t.size := by omega
      have ha := hj_ascii HT.out.ds hp
      have hnx : ∀ ty, (Instr.next (.pointer (some ⟨w.heap.size, 0, none⟩)) true ty).run Try.prog wr = _ := fun ty => Lib.run_next_ascii_at wr w.heap.size s pos ty hit hp ha
      have hit2 := Lib.iterAt_heap wr w.heap.size s pos (pos + 1) hit
      have hB2 := Lib.below_iterAt hB (k := w.heap.size) (by omega) s (pos + 1)
      by_cases he : (s[pos].toNat : Int) = t[pos].toNat
      · have HV := Lib.hid (plN_yes hp hp' he)
        go_wp2
        go_quiet (fail)
        go_wp2
        go_roundw
        case rel => exact ⟨pos + 1, by omega, by rw [HV.out]; go_num, hit2, bel_drewN hB2 _⟩
        case measure => rw [hj_pos hit, show (World.iterPos (World.drewN _ _) _ = _) from hj_pos hit2]; omega
      · have HV := Lib.hid (plN_no hp hp' he)
        go_wp2
        go_quiet (fail)
        go_wp2
        go_roundw
        case rel => exact ⟨pos + 1, by omega, by rw [HV.out], hit2, bel_drewN hB2 _⟩
        case measure => rw [hj_pos hit, show (World.iterPos (World.drewN _ _) _ = _) from hj_pos hit2]; omega
    · obtain rfl : pos = s.size := by omega
      have hnx : ∀ ty, (Instr.next (.pointer (some ⟨w.heap.size, 0, none⟩)) true ty).run Try.prog wr = _ := fun ty => Lib.run_next_end_at wr w.heap.size s s.size ty hit hp
      go_wp2
      clear hit hnx hsz
      have HP := Lib.hid hpl
      clear hpl
      go_loopw [7, 9] (fun c g w2 => ∃ d : Nat, d ≤ 10 ∧ g = .int .u8 ((48 + d : Nat) : Int) ∧ c = .int .i64 (cmN s t s.size d : Nat) ∧ Below w.heap.size w w2) (fun _ g _ => 58 - (intOf g).toNat)
      case atStart => exact ⟨0, by omega, rfl, rfl, hB⟩
      case round =>
        obtain ⟨d, hd, rfl, rfl, hB⟩ := hrel
        obtain ⟨w1, hw1⟩ : ∃ w1, w1 = wr := ⟨wr, rfl⟩
        subst hw1
        have hcm := cmN_le s t s.size d
        have hcm2 : s.size * d ≤ 60 := Nat.le_trans (Nat.mul_le_mul hn6 hd) (by omega)
        by_cases hd9 : d ≤ 9
        · go_wp2
          go_loopw [10, 11] (fun p q w3 => ∃ pos : Nat, pos ≤ s.size ∧ p = .int .i64 (ctN s d pos : Nat) ∧ q = .int .i64 (ctN t d pos : Nat) ∧ w3.heap[w1.heap.size]? = some (.stringIter s pos) ∧ Below w.heap.size w w3) (fun _ _ wr => s.size - wr.iterPos w1.heap.size)
          case atStart =>
            refine ⟨0, by omega, rfl, rfl, ?_, ?_⟩
            · have := World.iter_heap w1 s 0
              simpa using this
            · exact hB.alloc hB.size _
          case round =>
            have hz2 := hB.size
            clear hB
            obtain ⟨pos, hpos, rfl, rfl, hit, hB⟩ := hrel
            have c1 := ctN_le s d pos
            have c2 := ctN_le t d pos
            by_cases hp : pos < s.size
            · have hp' : pos < t.size := by omega
              have ha := hj_ascii HT.out.ds hp
              have hnx : ∀ ty, (Instr.next (.pointer (some ⟨w1.heap.size, 0, none⟩)) true ty).run Try.prog wr = _ := fun ty => Lib.run_next_ascii_at wr w1.heap.size s pos ty hit hp ha
              have hit2 := Lib.iterAt_heap wr w1.heap.size s pos (pos + 1) hit
              have hB2 := Lib.below_iterAt hB (k := w1.heap.size) hz2 s (pos + 1)
              by_cases h1 : (s[pos].toNat : Int) = 48 + d
              · have HV := Lib.hid (ctN_yes hp h1)
                by_cases h2 : (t[pos].toNat : Int) = 48 + d
                · have HW := Lib.hid (ctN_yes hp' h2)
                  go_wp2
                  go_roundw
                  case rel => exact ⟨pos + 1, by omega, by rw [HV.out]; go_num, by rw [HW.out]; go_num, hit2, hB2⟩
                  case measure => rw [hj_pos hit, hj_pos hit2]; omega
                · have HW := Lib.hid (ctN_no hp' h2)
                  go_wp2
                  go_roundw
                  case rel => exact ⟨pos + 1, by omega, by rw [HV.out]; go_num, by rw [HW.out], hit2, hB2⟩
                  case measure => rw [hj_pos hit, hj_pos hit2]; omega
              · have HV := Lib.hid (ctN_no hp h1)
                by_cases h2 : (t[pos].toNat : Int) = 48 + d
                · have HW := Lib.hid (ctN_yes hp' h2)
                  go_wp2
                  go_roundw
                  case rel => exact ⟨pos + 1, by omega, by rw [HV.out], by rw [HW.out]; go_num, hit2, hB2⟩
                  case measure => rw [hj_pos hit, hj_pos hit2]; omega
                · have HW := Lib.hid (ctN_no hp' h2)
                  go_wp2
                  go_roundw
                  case rel => exact ⟨pos + 1, by omega, by rw [HV.out], by rw [HW.out], hit2, hB2⟩
                  case measure => rw [hj_pos hit, hj_pos hit2]; omega
            · obtain rfl : pos = s.size := by omega
              have hnx : ∀ ty, (Instr.next (.pointer (some ⟨w1.heap.size, 0, none⟩)) true ty).run Try.prog wr = _ := fun ty => Lib.run_next_end_at wr w1.heap.size s s.size ty hit hp
              have HM : Hid (cmN s t s.size (d + 1) = cmN s t s.size d + min (ctN s d s.size) (ctN t d s.size)) := Lib.hid rfl
              have hl := lst_min (ctN s d s.size) (ctN t d s.size)
              have HL := Lib.hid hl
              clear hl
              have hmn : min (ctN s d s.size) (ctN t d s.size) ≤ s.size := by omega
              generalize min (ctN s d s.size) (ctN t d s.size) = mn at HM HL hmn
              go_wp2_with (go_at_call 81; refine (l1Least_any _ _ _).mono ?_; rw [HL.out]; rintro e w4 ⟨rfl, rfl⟩)
              go_roundw
              case rel => exact ⟨d + 1, by omega, by go_num, by rw [HM.out]; go_num, hB⟩
              case measure => simp [intOf]; omega
        · obtain rfl : d = 10 := by omega
          have hpl := HP.out
          go_wp2
          go_ret2
          exact ⟨rfl, hB⟩

end Go.Proofs.Ytgopaflggbgplaa
