/- A list of texts among the arguments, opened, its size told, copied by the law. No conditions beyond those of each lemma. -/
import Derived.Test.YthfhbkfifdgokaaStrs
import Derived.Test.YthfhbkfifdgokaaOpenTurn
import Derived.SliceStrings
namespace Go.Proofs.Ythfhbkfifdgokaa
open Go.ChangeShapes Go.WideShapes Go.ChangeAt Go.RowKit Go.Joins

/-- A list of texts that came in. -/
structure ArgS (w : World) (A : Option Addr) (n : Nat) (ts : List ByteArray) : Prop where
  len : ts.length = n
  at_ : n = 0 ∨ ∃ b off, A = some ⟨b, off, none⟩ ∧ b < w.heap.size ∧ ∀ k, k < n → w.cell? ⟨b, off + k, none⟩ = some (.string (ts.getD k ByteArray.empty))
  sz : ∀ k, k < n → (ts.getD k ByteArray.empty).size ≤ maxLen

theorem ArgS.below {w w' : World} {A : Option Addr} {n : Nat} {ts : List ByteArray} (h : ArgS w A n ts) (hb : Below w.heap.size w w') : ArgS w' A n ts :=
  ⟨h.len, h.at_.imp id fun ⟨b, off, e, hb', hc⟩ => ⟨b, off, e, Nat.lt_of_lt_of_le hb' hb.size, fun k hk => by rw [hb.cell (p := ⟨b, off + k, none⟩) hb']; exact hc k hk⟩, h.sz⟩

/-- What the law tells of a list's size. -/
def SzOut (w : World) (n : Nat) (e : Ending) (w' : World) : Prop := ∃ r : Int, e = .returned (.int .i64 r) ∧ -1 ≤ r ∧ r ≤ 1048576 ∧ (0 ≤ r → n ≤ 1048576) ∧ Below w.heap.size w w'

theorem szStringS_any (A : Option Addr) (n c : Nat) (ts : List ByteArray) (w : World) (hn : n ≤ maxLen) (hA : ArgS w A n ts) :
    Calls Try.prog 18 #[.slice A n c, .int .i64 1048576] w (SzOut w n) := by
  unfold maxLen at hn
  by_cases h : n ≤ 1048576
  · rcases hA.at_ with h0 | ⟨b, off, rfl, hb, hc⟩
    · subst h0
      clear hA
      go_enter Try.func18, Try.ntmps18
      go_wp2_with fail
      go_loop [1, 5] (fun r i => i = .int .i64 0 ∧ r = .int .i64 1048576) (fun _ _ => 0)
      case atStart => exact ⟨rfl, rfl⟩
      case round =>
        obtain ⟨rfl, rfl⟩ := hrel
        go_wp2_with fail
        go_ret
        exact ⟨1048576, rfl, by omega, by omega, fun _ => h, Below.refl _ _⟩
    · have HC := Lib.hid hc
      have HZ := Lib.hid hA.sz
      clear hc hA
      go_enter Try.func18, Try.ntmps18
      go_wp2_with fail
      go_loopw [1, 5] (fun r i wr => ∃ (k : Nat) (z : Int), k ≤ n ∧ i = .int .i64 k ∧ r = .int .i64 z ∧ 0 ≤ z ∧ z ≤ 1048576 ∧ Below w.heap.size w wr) (fun _ i _ => n - (intOf i).toNat)
      case atStart => exact ⟨0, 1048576 - (n : Int), by omega, rfl, by first | rfl | (congr 1; omega), by omega, by omega, Below.refl _ _⟩
      case round =>
        obtain ⟨k, z, hk, rfl, rfl, hz0, hz1, hB⟩ := hrel
        by_cases hlt : k < n
        · have o1 : wr.cell? ⟨b, off + k, none⟩ = some (.string (ts.getD k ByteArray.empty)) := by rw [hB.cell (p := ⟨b, off + k, none⟩) hb]; exact HC.out k hlt
          have hs := HZ.out k hlt
          unfold maxLen at hs
          generalize ts.getD k ByteArray.empty = s at o1 hs
          by_cases hneg : z - (s.size : Int) < 0
          · go_wp2_with fail
            go_ret
            exact ⟨-1, rfl, by omega, by omega, fun _ => h, hB⟩
          · go_wp2_with fail
            go_roundw
            case rel => exact ⟨k + 1, z - (s.size : Int), by omega, by go_num, by first | rfl | (congr 1; omega), by omega, by omega, hB⟩
            case measure => simp [intOf]; omega
        · go_wp2_with fail
          go_ret
          exact ⟨z, rfl, by omega, by omega, fun _ => h, hB⟩
  · go_enter Try.func18, Try.ntmps18
    go_wp2_with fail
    go_ret
    exact ⟨-1, rfl, by omega, by omega, fun h => by omega, Below.refl _ _⟩

theorem make_strs (n : Nat) (hn : n ≤ 1048576) (W : World) : (Instr.makeSlice 24 (.int .i64 (n : Int)) (.int .i64 (n : Int))).run Try.prog W = .ok (.slice (some ⟨W.heap.size, 0, none⟩) n n) (W.alloc (.cells (madeCells #[.string ByteArray.empty] n) 9)) := by
  obtain ⟨i0, hi, hz0, hz1, hz2⟩ := info_parts info_string
  have := run_make_rowN (P := Try.prog) 24 9 i0 _ Try.underlying24 hi hz0 .i64 .i64 n n (Nat.le_refl _) (by rw [hz2]; omega) (by omega) W
  rw [hz1, Nat.mul_one] at this
  exact this

/-- A list of texts of the call's own. -/
theorem toStringS_any (A : Option Addr) (n c : Nat) (ts : List ByteArray) (w : World) (hn : n ≤ 1048576) (hA : ArgS w A n ts) :
    Calls Try.prog 21 #[.slice A n c] w fun e w' => e = .returned (.slice (some ⟨w.heap.size, 0, none⟩) n n) ∧ Cells w' w.heap.size n (strF ts) ∧ Below w.heap.size w w' := by
  have hmk := make_strs n hn
  have HM := Lib.hid (Cells.made w (.string ByteArray.empty) n 9)
  have hat := hA.at_
  rcases hat with h0 | ⟨b, off, rfl, hb, hc⟩
  · have h0' : n ≤ 0 := by omega
    clear h0 hA
    go_enter Try.func21, Try.ntmps21
    go_wp2_with fail
    clear hmk
    go_loopw [4] (fun i wr => i = .int .i64 ((0 : Nat) : Int) ∧ Cells wr w.heap.size n (fun _ => .string ByteArray.empty) ∧ Below w.heap.size w wr) (fun _ _ => 0)
    case atStart => exact ⟨rfl, HM.out, by (repeat (first | assumption | exact Below.refl _ _ | (refine Below.alloc ?_ (by first | omega | (simp; done) | (simp; omega)) _) | (refine Below.setCell ?_ (by first | omega | (simp; done) | (simp; omega)) _) | refine bel_drewN ?_ _ | refine bel_drew ?_ | (refine bel_call ?_ (by assumption))))⟩
    case round =>
      obtain ⟨rfl, hCr, hB⟩ := hrel
      have HR := Lib.hid hCr
      clear hCr
      go_wp2_with fail
      go_ret
      exact ⟨rfl, HR.out.congr (fun j hj => by omega), hB⟩
  · have HC := Lib.hid hc
    clear hc hA
    go_enter Try.func21, Try.ntmps21
    go_wp2_with fail
    clear hmk
    go_loopw [4] (fun i wr => ∃ k : Nat, k ≤ n ∧ i = .int .i64 k ∧ Cells wr w.heap.size n (fun j => if j < k then strF ts j else .string ByteArray.empty) ∧ Below w.heap.size w wr) (fun i _ => n - (intOf i).toNat)
    case atStart => exact ⟨0, by omega, rfl, HM.out.congr (fun j _ => by simp), by (repeat (first | assumption | exact Below.refl _ _ | (refine Below.alloc ?_ (by first | omega | (simp; done) | (simp; omega)) _) | (refine Below.setCell ?_ (by first | omega | (simp; done) | (simp; omega)) _) | refine bel_drewN ?_ _ | refine bel_drew ?_ | (refine bel_call ?_ (by assumption))))⟩
    case round =>
      obtain ⟨k, hk, rfl, hCr, hB⟩ := hrel
      have HR := Lib.hid hCr
      clear hCr
      by_cases hlt : k < n
      · have o0 : wr.cell? ⟨b, off + k, none⟩ = some (.string (ts.getD k ByteArray.empty)) := by rw [hB.cell (p := ⟨b, off + k, none⟩) hb]; exact HC.out k hlt
        have p1 := HR.out.cell hlt
        have p2 := HR.out.frozen hlt
        generalize hx : ts.getD k ByteArray.empty = x at o0
        have HX := Lib.hid hx
        clear hx
        go_wp2_with fail
        have HW : Hid (Cells (wr.setCell ⟨w.heap.size, k, none⟩ (.string x)) w.heap.size n (fun j => if j < k + 1 then strF ts j else .string ByteArray.empty)) := Lib.hid (by
          refine (HR.out.set_ hlt (.string x)).congr (fun j hj => ?_)
          by_cases e1 : j = k
          · subst e1; rw [if_pos rfl, if_pos (by omega)]; unfold strF; rw [HX.out]
          · rw [if_neg e1]
            by_cases e2 : j < k
            · rw [if_pos e2, if_pos (by omega)]
            · rw [if_neg e2, if_neg (by omega)])
        clear p1 p2
        go_roundw
        case rel => exact ⟨k + 1, by omega, by go_num, HW.out, hB.setCell (Nat.le_refl _) _⟩
        case measure => simp [intOf]; omega
      · go_wp2_with fail
        go_ret
        exact ⟨rfl, HR.out.congr (fun j hj => by rw [if_pos (by omega)]), hB⟩

theorem ownS_of {w : World} {g n : Nat} {ts : List ByteArray} (hl : ts.length = n) (hn : n ≤ 1048576) (hC : Cells w g n (strF ts)) : OwnS w 0 (some ⟨g, 0, none⟩) n ts :=
  ⟨hl, by omega, .inr ⟨g, rfl, Nat.zero_le _, hC⟩⟩

set_option maxRecDepth 100000 in
theorem open_strs {H : Type} {enc : TypeId × Value → H} {W : World} {b0 : Nat} {held : Bool} {v : Value} {d : DataW H} {p : List MemPlace}
    (hv : Value.okWide Try.prog W .any b0 24 v) (h : DataW.Trod enc Try.prog W 0 (fun _ => true) held 24 v d p) :
    ∃ (A : Option Addr) (n c : Nat) (ts : List ByteArray), v = .slice A n c ∧ ArgS W A n ts ∧ n ≤ maxLen := by
  obtain ⟨A, n, c, rfl⟩ := okWide_slice Try.underlying24 hv
  obtain ⟨fuel, hf⟩ := h
  rcases open_strings Try.underlying24 Try.underlying9 (by kernel_rfl) hf with ⟨hcs, _⟩ | ⟨a, len, cap, ss, hcs, _, hl, hm, hlen, _, hat, hsz⟩
  · simp [Value.cells] at hcs
    obtain ⟨rfl, rfl, rfl⟩ := hcs
    exact ⟨none, 0, 0, [], rfl, ⟨rfl, .inl rfl, fun k hk => by omega⟩, by unfold maxLen; omega⟩
  · simp [Value.cells] at hcs
    obtain ⟨rfl, rfl, rfl⟩ := hcs
    have hsl : n ≤ ss.length := by rw [hlen]; show n ≤ c; omega
    have hg : ∀ k, k < n → (ss.take n).getD k ByteArray.empty = ss.getD k ByteArray.empty := fun k hk => by simp only [List.getD, List.getElem?_take, if_pos hk]
    have hsz' : ∀ k, k < n → ((ss.take n).getD k ByteArray.empty).size ≤ maxLen := fun k hk => by
      rw [hg k hk]
      have : ss.getD k ByteArray.empty = ss[k]'(by omega) := by simp [List.getD, List.getElem?_eq_getElem (show k < ss.length by omega)]
      rw [this]
      exact hsz _ (List.getElem_mem _)
    refine ⟨some a, n, c, ss.take n, rfl, ⟨by simp; omega, ?_, hsz'⟩, by omega⟩
    rcases Nat.eq_zero_or_pos n with h0 | h0
    · exact .inl h0
    · obtain ⟨b, off, spot⟩ := a
      have h1 := hat 0 (by omega)
      have hs : spot = none := by simpa [Addr.add] using World.cell?_spot h1
      subst hs
      have hb := World.block_lt_of_cell? _ _ h1
      refine .inr ⟨b, off, rfl, by simpa [Addr.add] using hb, fun k hk => ?_⟩
      have ad : (⟨b, off, none⟩ : Addr).add k = ⟨b, off + k, none⟩ := by unfold Addr.add; split <;> simp_all
      rw [hg k hk, ← ad]
      exact hat k (by omega)

theorem argS_of {w : World} {g n : Nat} {ts : List ByteArray} (hl : ts.length = n) (hz : ∀ k, k < n → (ts.getD k ByteArray.empty).size ≤ maxLen) (hC : Cells w g n (strF ts)) : ArgS w (some ⟨g, 0, none⟩) n ts :=
  ⟨hl, .inr ⟨g, 0, rfl, hC.lt, fun k hk => by rw [Nat.zero_add]; exact hC.cell hk⟩, hz⟩

theorem argT_own {w : World} {g n : Nat} {us : List (Int × Int)} (hl : us.length = n) (hC : Cells w g (n * 2) (turnF us)) : ArgT w (some ⟨g, 0, none⟩) n us :=
  ⟨hl, .inr ⟨g, 0, rfl, hC.lt, fun k hk => by
    have h0 := hC.cell (show k * 2 < n * 2 by omega)
    have h1 := hC.cell (show k * 2 + 1 < n * 2 by omega)
    rw [turnF_0] at h0
    rw [turnF_1] at h1
    rw [Nat.zero_add]
    exact ⟨h0, h1⟩⟩⟩

/-- The size of a list of turns, of what is left. -/
def SzT (w : World) (n : Nat) (e : Ending) (w' : World) : Prop := ∃ r : Int, e = .returned (.int .i64 r) ∧ (0 ≤ r → n ≤ 1048576) ∧ w = w'

end Go.Proofs.Ythfhbkfifdgokaa
