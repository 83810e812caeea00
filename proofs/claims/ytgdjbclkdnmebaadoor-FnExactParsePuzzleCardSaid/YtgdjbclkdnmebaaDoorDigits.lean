/- The digits of a code as a list of integers, as both programs make it. For texts whose letters are digits. -/
import Derived.Test.YtgdjbclkdnmebaaDoorZero
import Derived.Laws.OwnMore
import Derived.Deep.AppendLies
namespace Go.Proofs.YtgdjbclkdnmebaaDoor
open Go.ChangeShapes Go.WideShapes Go.ChangeAt Go.RowKit Go.Joins

def dg (s : ByteArray) : List Int := s.data.toList.map fun c => (c.toNat : Int) - 48

theorem dg_length (s : ByteArray) : (dg s).length = s.size := by simp [dg]

theorem dg_at {s : ByteArray} {k : Nat} (hk : k < s.size) : (dg s).getD k 0 = (s[k].toNat : Int) - 48 := by
  have h : k < s.data.toList.length := by simpa using hk
  have e : s[k] = s.data.toList[k] := rfl
  rw [e]
  simp [dg, List.getD, List.getElem?_eq_getElem h]

theorem digits_at {s : ByteArray} (hd : Digits (dg s)) {k : Nat} (hk : k < s.size) : 48 ≤ (s[k].toNat : Int) ∧ (s[k].toNat : Int) ≤ 57 := by
  have := hd k (by rw [dg_length]; exact hk)
  rw [dg_at hk] at this
  omega

/-- A new list of integers ds has been handed back; nothing that was there has changed. -/
def IntsOut (w : World) (ds : List Int) (n : Nat) (e : Ending) (w' : World) : Prop :=
  ∃ g c, e = .returned (.slice (some ⟨g, 0, none⟩) n c) ∧ w.heap.size ≤ g ∧ Cells w' g n (digF ds) ∧ Below w.heap.size w w'

theorem digitsOf_any (s : ByteArray) (w : World) (hd : Digits (dg s)) (hl : s.size ≤ 1000) :
    Calls Tryd.prog 38 #[.string s] w (IntsOut w (dg s) s.size) := by
  have HD := Lib.hid hd
  clear hd
  have hmk := make_ints s.size hl
  go_enter Tryd.func38, Tryd.ntmps38
  go_wp2
  have hN : Cells (w.alloc (.cells (madeCells #[.int .i64 0] s.size) 3)) w.heap.size s.size (fun _ => .int .i64 0) := Cells.made _ _ _ _
  go_loopw [10] (fun i wr => ∃ k : Nat, k ≤ s.size ∧ i = .int .i64 k ∧ Cells wr w.heap.size s.size (fun j => if j < k then digF (dg s) j else .int .i64 0) ∧ Below w.heap.size w wr) (fun i _ => s.size - (intOf i).toNat)
  case atStart => exact ⟨0, by omega, rfl, hN.congr (fun j _ => by simp), by (repeat (first | assumption | exact Below.refl _ _ | (refine Below.alloc ?_ (by first | omega | (simp; done) | (simp; omega)) _) | (refine Below.setCell ?_ (by first | omega | (simp; done) | (simp; omega)) _) | refine bel_drewN ?_ _ | refine bel_drew ?_ | (refine bel_call ?_ (by assumption))))⟩
  case round =>
    clear hN hmk
    obtain ⟨k, hk, rfl, hC, hB⟩ := hrel
    have HC := Lib.hid hC
    clear hC
    by_cases hlt : k < s.size
    · have ho : wr.cell? ⟨w.heap.size, k, none⟩ = some (.int .i64 0) := by rw [HC.out.cell hlt, if_neg (by omega)]
      have hf : wr.frozen? ⟨w.heap.size, k, none⟩ = false := HC.out.frozen hlt
      obtain ⟨b0, b9⟩ := digits_at HD.out hlt
      have HS := Lib.hid ((HC.out.set_ hlt (.int .i64 ((s[k].toNat : Int) - 48))).congr (f' := fun j => if j < k + 1 then digF (dg s) j else .int .i64 0) (fun j hj => by
        have hv : Value.int .i64 ((s[k].toNat : Int) - 48) = digF (dg s) k := by rw [digF, dg_at hlt]
        rw [hv]; exact cells_step j k (digF (dg s)) _))
      go_wp2
      go_roundw
      case rel => exact ⟨k + 1, by omega, by go_num, HS.out, hB.setCell (Nat.le_refl _) _⟩
      case measure => simp [intOf]; omega
    · go_wp2
      go_ret
      exact ⟨_, _, rfl, Nat.le_refl _, HC.out.congr (fun j hj => by rw [if_pos (by omega)]), hB⟩

/-- Integers as values. -/
def iv (ds : List Int) : List Value := ds.map (.int .i64)

theorem own_cells {w : World} {base : Nat} {t : TypeId} {v : Value} {ds : List Int} {n : Nat} (h : w.ownsRow base t 1 v n (iv ds)) (hn : 0 < n) :
    ∃ g c, v = .slice (some ⟨g, 0, none⟩) n c ∧ base ≤ g ∧ Cells w g n (digF ds) := by
  obtain ⟨g, c, rfl, hb, hlt⟩ := h.form hn
  refine ⟨g, c, rfl, hb, hlt, fun j hj => ⟨?_, h.frozenAt j⟩⟩
  rw [h.cellAt j (by omega)]
  have hl : ds.length = n := by simpa [iv] using h.1
  unfold iv; rw [List.getElem?_map, List.getElem?_eq_getElem (by omega)]
  simp [digF, List.getD, List.getElem?_eq_getElem (show j < ds.length by omega)]

theorem info_int : (Tryd.prog.info? 3).map (fun i => (i.zero, i.size, i.bytes)) = some (some (.int .i64 0), 1, 8) := by kernel_rfl

theorem whDigits_any (s : ByteArray) (w : World) (hd : Digits (dg s)) (hl : s.size ≤ 1000) (h0 : 0 < s.size) :
    Calls Tryd.prog 72 #[.string s] w (IntsOut w (dg s) s.size) := by
  have HD := Lib.hid hd
  clear hd
  obtain ⟨i0, hi, hz0, hz1, hz2⟩ := info_parts info_int
  go_enter Tryd.func72, Tryd.ntmps72
  go_wp2
  go_loopw [3, 4] (fun v i wr => ∃ k : Nat, k ≤ s.size ∧ i = .int .i64 k ∧ wr.ownsRow w.heap.size 3 1 v k (iv ((dg s).take k)) ∧ Below w.heap.size w wr) (fun _ i _ => s.size - (intOf i).toNat)
  case atStart => exact ⟨0, by omega, rfl, World.ownsRow_nil _ _ _ _, Below.refl _ _⟩
  case round =>
    obtain ⟨k, hk, rfl, hown, hB⟩ := hrel
    by_cases hlt : k < s.size
    · obtain ⟨b0, b9⟩ := digits_at HD.out hlt
      have HT : Hid (iv ((dg s).take (k + 1)) = iv ((dg s).take k) ++ [.int .i64 ((s[k].toNat : Int) - 48)]) := Lib.hid (by
        have h1 : k < (dg s).length := by rw [dg_length]; exact hlt
        unfold iv; rw [List.take_succ_eq_append_getElem h1, List.map_append, ← dg_at hlt]
        simp [List.getD, List.getElem?_eq_getElem h1])
      go_wp2_with (at_builtin; refine wpList_append_own _ rfl _ _ 58 rfl w.heap.size 3 i0 (.int .i64 0) 1 8 Tryd.underlying58 hi hz0 hz1 hz2 rfl (by decide) _ _ _ rfl (hown.alloc _) ⟨wr.heap.size, 0, none⟩ 1 1 [.int .i64 ((s[k].toNat : Int) - 48)] rfl rfl ?c1 ?c2 ?c3 ?c4 ?c5 ?_)
      case c1 =>
        intro j u hj
        match j, hj with
        | 0, hj => simp at hj; subst hj; simp [Addr.add]
      case c2 => intro u hu; simp at hu; subst hu; rfl
      case c3 => unfold maxLen; omega
      case c4 => omega
      case c5 => have := hB.size; simp; omega
      · intro v' w1 hown' hgrow _
        rw [← HT.out] at hown'
        have hB' : Below w.heap.size w w1 := (hB.alloc hB.size _).grown hgrow (by have := hB.size; simp; omega) (fun j hj => (hown.lt j hj).1)
        clear hgrow hown
        go_wp2
        go_roundw
        case rel => exact ⟨k + 1, by omega, by go_num, hown', hB'⟩
        case measure => simp [intOf]; omega
    · go_wp2
      go_ret
      obtain rfl : k = s.size := by omega
      rw [List.take_of_length_le (by rw [dg_length]; omega)] at hown
      obtain ⟨g, c, rfl, hg, hC⟩ := own_cells hown h0
      exact ⟨g, c, rfl, hg, hC, hB⟩

end Go.Proofs.YtgdjbclkdnmebaaDoor
