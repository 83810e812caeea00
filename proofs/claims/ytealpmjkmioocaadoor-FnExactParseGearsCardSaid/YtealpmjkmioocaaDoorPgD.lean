/- The numbers that the letters of any text stand for, as both programs make them. For texts of at most 2^20 bytes. -/
import Derived.Test.YtealpmjkmioocaaDoorPgT
namespace Go.Proofs.YtealpmjkmioocaaDoor
open Go.ChangeShapes Go.WideShapes Go.ChangeAt Go.RowKit Go.Joins

def dgA (s : ByteArray) : List Int := s.data.toList.map fun c => IntKind.u8.wrap ((c.toNat : Int) - 48)

theorem dgA_length (s : ByteArray) : (dgA s).length = s.size := by simp [dgA]

theorem dgA_at {s : ByteArray} {k : Nat} (hk : k < s.size) : (dgA s).getD k 0 = IntKind.u8.wrap ((s[k].toNat : Int) - 48) := by
  have h : k < s.data.toList.length := by simpa using hk
  have e : s[k] = s.data.toList[k] := rfl
  rw [e]
  simp [dgA, List.getD, List.getElem?_eq_getElem h]


theorem digitsOfA_any (s : ByteArray) (w : World) (hl : s.size ≤ 1048576) :
    Calls Tryd.prog 12 #[.string s] w (IntsOut w (dgA s) s.size) := by
  have hmk := make_intsN s.size hl
  go_enter Tryd.func12, Tryd.ntmps12
  go_wp2
  have hN : Cells (w.alloc (.cells (madeCells #[.int .i64 0] s.size) 3)) w.heap.size s.size (fun _ => .int .i64 0) := Cells.made _ _ _ _
  go_loopw [10] (fun i wr => ∃ k : Nat, k ≤ s.size ∧ i = .int .i64 k ∧ Cells wr w.heap.size s.size (fun j => if j < k then digF (dgA s) j else .int .i64 0) ∧ Below w.heap.size w wr) (fun i _ => s.size - (intOf i).toNat)
  case atStart => exact ⟨0, by omega, rfl, hN.congr (fun j _ => by simp), by (repeat (first | assumption | exact Below.refl _ _ | (refine Below.alloc ?_ (by first | omega | (simp; done) | (simp; omega)) _) | (refine Below.setCell ?_ (by first | omega | (simp; done) | (simp; omega)) _) | refine bel_drewN ?_ _ | refine bel_drew ?_ | (refine bel_call ?_ (by assumption))))⟩
  case round =>
    clear hN hmk
    obtain ⟨k, hk, rfl, hC, hB⟩ := hrel
    have HC := Lib.hid hC
    clear hC
    by_cases hlt : k < s.size
    · have ho : wr.cell? ⟨w.heap.size, k, none⟩ = some (.int .i64 0) := by rw [HC.out.cell hlt, if_neg (by omega)]
      have hf : wr.frozen? ⟨w.heap.size, k, none⟩ = false := HC.out.frozen hlt
      obtain ⟨x, hx⟩ : ∃ x, IntKind.u8.wrap ((s[k].toNat : Int) - 48) = x := ⟨_, rfl⟩
      have hx0 : 0 ≤ x ∧ x ≤ 255 := by rw [← hx, IntKind.wrap_u8]; omega
      have hxw : IntKind.i64.wrap x = x := by rw [IntKind.wrap_i64]; omega
      have hxa : (dgA s).getD k 0 = x := by rw [dgA_at hlt, hx]
      have HS := Lib.hid ((HC.out.set_ hlt (.int .i64 x)).congr (f' := fun j => if j < k + 1 then digF (dgA s) j else .int .i64 0) (fun j hj => by
        have hv : Value.int .i64 x = digF (dgA s) k := by rw [digF, hxa]
        rw [hv]; exact cells_step j k (digF (dgA s)) _))
      go_wp2
      go_roundw
      case rel => exact ⟨k + 1, by omega, by go_num, HS.out, hB.setCell (Nat.le_refl _) _⟩
      case measure => simp [intOf]; omega
    · go_wp2
      go_ret
      exact ⟨_, _, rfl, Nat.le_refl _, HC.out.congr (fun j hj => by rw [if_pos (by omega)]), hB⟩

theorem whDigitsA_any (s : ByteArray) (w : World) (hl : s.size ≤ 1048576) (h0 : 0 < s.size) :
    Calls Tryd.prog 20 #[.string s] w (IntsOut w (dgA s) s.size) := by
  obtain ⟨i0, hi, hz0, hz1, hz2⟩ := info_parts info_int
  go_enter Tryd.func20, Tryd.ntmps20
  go_wp2
  go_loopw [3, 4] (fun v i wr => ∃ k : Nat, k ≤ s.size ∧ i = .int .i64 k ∧ wr.ownsRow w.heap.size 3 1 v k (iv ((dgA s).take k)) ∧ Below w.heap.size w wr) (fun _ i _ => s.size - (intOf i).toNat)
  case atStart => exact ⟨0, by omega, rfl, World.ownsRow_nil _ _ _ _, Below.refl _ _⟩
  case round =>
    obtain ⟨k, hk, rfl, hown, hB⟩ := hrel
    by_cases hlt : k < s.size
    · obtain ⟨x, hx⟩ : ∃ x, IntKind.u8.wrap ((s[k].toNat : Int) - 48) = x := ⟨_, rfl⟩
      have hx0 : 0 ≤ x ∧ x ≤ 255 := by rw [← hx, IntKind.wrap_u8]; omega
      have hxw : IntKind.i64.wrap x = x := by rw [IntKind.wrap_i64]; omega
      have hxa : (dgA s).getD k 0 = x := by rw [dgA_at hlt, hx]
      have HT : Hid (iv ((dgA s).take (k + 1)) = iv ((dgA s).take k) ++ [.int .i64 x]) := Lib.hid (by
        have h1 : k < (dgA s).length := by rw [dgA_length]; exact hlt
        unfold iv; rw [List.take_succ_eq_append_getElem h1, List.map_append, ← hxa]
        simp [List.getD, List.getElem?_eq_getElem h1])
      go_wp2_with (at_builtin; refine wpList_append_own _ rfl _ _ 36 rfl w.heap.size 3 i0 (.int .i64 0) 1 8 Tryd.underlying36 hi hz0 hz1 hz2 rfl (by decide) _ _ _ rfl (hown.alloc _) ⟨wr.heap.size, 0, none⟩ 1 1 [.int .i64 x] rfl rfl ?c1 ?c2 ?c3 ?c4 ?c5 ?_)
      case c1 =>
        intro j u hj
        match j, hj with
        | 0, hj => simp at hj; subst hj; simp [Addr.add]
      case c2 => intro u hu; simp at hu; subst hu; rfl
      case c3 => unfold maxLen; omega
      case c4 => omega
      case c5 => have := hB.size; simp; omega
      · intro v' w1 hown' hgrow _
        rw [← HT.out] at hown'
        have hB' : Below w.heap.size w w1 := (hB.alloc hB.size _).grown hgrow (by have := hB.size; simp; omega) (fun j hj => (hown.lt j hj).1)
        clear hgrow hown
        go_wp2
        go_roundw
        case rel => exact ⟨k + 1, by omega, by go_num, hown', hB'⟩
        case measure => simp [intOf]; omega
    · go_wp2
      go_ret
      obtain rfl : k = s.size := by omega
      rw [List.take_of_length_le (by rw [dgA_length]; omega)] at hown
      obtain ⟨g, c, rfl, hg, hC⟩ := own_cells hown h0
      exact ⟨g, c, rfl, hg, hC, hB⟩

end Go.Proofs.YtealpmjkmioocaaDoor
