/- Keys: texts of digits, and the pins that one key opens, as the model and the program make them. For texts of at most 2^20 bytes. -/
import Derived.Test.YtaajklkldfgppaaVo
import Derived.Deep.QuietTactic
import Derived.BigQuiet
import Derived.LoopTactic
import Derived.Lib.OthersKept
namespace Go.Proofs.Ytaajklkldfgppaa
open Go.ChangeShapes Go.WideShapes Go.ChangeAt Go.RowKit Go.Joins

/-- Digits below b alone. -/
def allK (b : Int) (s : ByteArray) : Bool := s.data.toList.all (digitB b)

/-- A key. -/
def keyB (d : Int) (s : ByteArray) : Bool := inB d 1 9 && inB (s.size : Int) 1 7 && allK d s

theorem iter_cellV {w : World} {k j o : Nat} {s : ByteArray} {pos : Nat} (h : j < k) : (w.iterAt k s pos).cell? ⟨j, o, none⟩ = w.cell? ⟨j, o, none⟩ :=
  (Lib.below_iterAt (Below.refl k w) (Nat.le_refl _) s pos).cell (p := ⟨j, o, none⟩) h

theorem iter_frozenV {w : World} {k j o : Nat} {s : ByteArray} {pos : Nat} (h : j < k) : (w.iterAt k s pos).frozen? ⟨j, o, none⟩ = w.frozen? ⟨j, o, none⟩ :=
  (Lib.below_iterAt (Below.refl k w) (Nat.le_refl _) s pos).frozen (p := ⟨j, o, none⟩) h

theorem iterPos_atV {w : World} {k pos : Nat} {s : ByteArray} (h : w.heap[k]? = some (.stringIter s pos)) : w.iterPos k = pos := by simp [World.iterPos, h]

theorem digit_asciiV {b : Int} {c : UInt8} (hb : b ≤ 10) (h : digitB b c = true) : c.toNat < 128 := by
  unfold digitB at h
  have := of_decide_eq_true h
  omega

theorem keKey_any (d : Int) (s : ByteArray) (w : World) (hs : s.size ≤ maxLen) (hd : 1 ≤ d ∧ d ≤ 9) :
    Calls Try.prog 53 #[.int .i64 d, .string s] w fun e w' => e = .returned (.bool (allK d s)) ∧ Below w.heap.size w w' := by
  obtain ⟨d1, d9⟩ := hd
  unfold maxLen at hs
  go_enter Try.func53, Try.ntmps53
  go_wp2
  go_loopw [] (fun wr => ∃ pos : Nat, pos ≤ s.size ∧ wr.heap[w.heap.size]? = some (.stringIter s pos) ∧ (s.data.toList.take pos).all (digitB d) = true ∧ Below w.heap.size w wr) (fun wr => s.size - wr.iterPos w.heap.size)
  case atStart =>
    refine ⟨0, by omega, ?_, rfl, ?_⟩
    · have := World.iter_heap w s 0
      simpa using this
    · exact (Below.refl _ w).alloc (Nat.le_refl _) _
  case round =>
    obtain ⟨pos, hpos, hit, hall, hB⟩ := hrel
    have HA := Lib.hid hall
    clear hall
    have hsz : w.heap.size < wr.heap.size := (Array.getElem?_eq_some_iff.1 hit).1
    by_cases hp : pos < s.size
    · have hu : ((s[pos]'hp).toNat : Int) ≤ 255 := by have := (s[pos]'hp).toNat_lt; omega
      have hnx : ∀ ty, (Instr.next (.pointer (some ⟨w.heap.size, 0, none⟩)) true ty).run Try.prog wr = _ := fun ty => Lib.run_next_any_at wr w.heap.size s pos ty hit hp
      have hit2 := Lib.iterAt_heap wr w.heap.size s pos (pos + (Utf8.decode s pos).2) hit
      have hB2 := Lib.below_iterAt hB (k := w.heap.size) (by omega) s (pos + (Utf8.decode s pos).2)
      by_cases hdg : digitB d s[pos] = true
      · have HD := Lib.hid hdg
        have HW : Hid ((Utf8.decode s pos).2 = 1) := Lib.hid (by rw [decode_ascii s pos hp (digit_asciiV (by omega) hdg)])
        have hin : inB ((s[pos].toNat : Int) - 48) 0 (d - 1) = true := by have := HD.out; unfold digitB at this; unfold inB; simp at this ⊢; omega
        clear hdg
        go_wp2_with (go_at_call 61; refine (l1In_any _ _ _ _).mono ?_; rw [hin]; rintro e wq ⟨rfl, hwq⟩; replace hwq := hwq.symm; subst hwq)
        go_roundw
        case rel => exact ⟨pos + 1, by omega, by rw [show pos + 1 = pos + (Utf8.decode s pos).2 by rw [HW.out]]; exact hit2, all_snoc HA.out HD.out, hB2⟩
        case measure =>
          have := HW.out
          rw [iterPos_atV hit2, iterPos_atV hit]
          omega
      · have HD := Lib.hid hdg
        have hin : inB ((s[pos].toNat : Int) - 48) 0 (d - 1) = false := by have := HD.out; unfold digitB at this; unfold inB; simp at this ⊢; omega
        clear hdg
        go_wp2_with (go_at_call 61; refine (l1In_any _ _ _ _).mono ?_; rw [hin]; rintro e wq ⟨rfl, hwq⟩; replace hwq := hwq.symm; subst hwq)
        go_ret
        refine ⟨ret_bool ?_, hB2⟩
        exact (all_not hp HD.out).symm
    · have hnx : ∀ ty, (Instr.next (.pointer (some ⟨w.heap.size, 0, none⟩)) true ty).run Try.prog wr = _ := fun ty => Lib.run_next_end_at wr w.heap.size s pos ty hit hp
      go_wp2
      go_ret
      refine ⟨ret_bool ?_, hB⟩
      have e : pos = s.size := by omega
      have := HA.out
      rw [e, List.take_of_length_le (by simp)] at this
      exact this.symm

theorem rowP_iter {w : World} {B : Nat} {v : Value} {ks : List (List Int)} (h : RowP w B v ks) {k : Nat} (hk : k < B) (s : ByteArray) (pos : Nat) : RowP (w.iterAt k s pos) B v ks := by
  have hg : w.grownBy (w.iterAt k s pos) (some k) := ⟨rfl, rfl, rfl, by rw [Lib.iterAt_size]; exact Nat.le_refl _, fun j _ hj => Lib.iterAt_other w k j s pos (fun e => hj (by rw [e]))⟩
  obtain ⟨G, vs, h1, h2, h3, h4⟩ := h.own
  refine ⟨G, vs, h1, h2.kept hg ?_, fun i hi => ?_, h4⟩
  · rcases hv : v.ownBlock with _ | g
    · exact .inl rfl
    · exact .inr (fun e => by
        injection e with e
        have := (h2.lt g hv).1
        omega)
  · obtain ⟨A, c, e, hc⟩ := h3 i hi
    exact ⟨A, c, e, hc.imp id fun ⟨a1, a2, a3, a4⟩ => ⟨a1, a2, a3, a4.keptV hg (fun e => by injection e with e; omega)⟩⟩

theorem cells_iter {w : World} {g n : Nat} {f : Nat → Value} (h : Cells w g n f) {k : Nat} (hk : g ≠ k) (s : ByteArray) (pos : Nat) : Cells (w.iterAt k s pos) g n f :=
  h.keptV (row := some k) ⟨rfl, rfl, rfl, by rw [Lib.iterAt_size]; exact Nat.le_refl _, fun j _ hj => Lib.iterAt_other w k j s pos (fun e => hj (by rw [e]))⟩ (fun e => by injection e with e; exact hk e.symm)

/-- The lists of a key's digits. -/
def kqL (ds : List Int) (n : Nat) : List (List Int) := rwL (fun i => [ds.getD i 0]) n

/-- What a key alone opens. -/
def kqD (d : Int) (s : ByteArray) : Int := if keyB d s then d else 0

def kqK (d : Int) (s : ByteArray) : List (List Int) := if keyB d s then kqL (dg s) s.size else []

theorem kq_yes {d : Int} {s : ByteArray} (h : keyB d s = true) : kqD d s = d ∧ kqK d s = kqL (dg s) s.size := by
  unfold kqD kqK
  rw [h, if_pos rfl, if_pos rfl]
  exact ⟨rfl, rfl⟩

theorem kq_no {d : Int} {s : ByteArray} (h : keyB d s = false) : kqD d s = 0 ∧ kqK d s = [] := by
  unfold kqD kqK
  rw [h]
  exact ⟨rfl, rfl⟩

theorem allK_at {d : Int} {s : ByteArray} (h : allK d s = true) {k : Nat} (hk : k < s.size) : digitB d s[k] = true := by
  have h1 : k < s.data.toList.length := by simpa using hk
  have e : s[k] = s.data.toList[k] := rfl
  rw [e]
  exact List.all_eq_true.1 h _ (List.getElem_mem _)

end Go.Proofs.Ytaajklkldfgppaa
