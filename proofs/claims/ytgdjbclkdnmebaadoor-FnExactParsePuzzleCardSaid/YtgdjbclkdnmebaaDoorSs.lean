/- A list of texts among the arguments, opened, its size told, copied by the law. No conditions beyond those of each lemma. -/
import Derived.Test.YtgdjbclkdnmebaaDoorStrs
import Derived.Test.YtgdjbclkdnmebaaDoorOpenTurn
import Derived.SliceStrings
namespace Go.Proofs.YtgdjbclkdnmebaaDoor
open Go.ChangeShapes Go.WideShapes Go.ChangeAt Go.RowKit Go.Joins

/-- A list of texts that came in. -/
structure ArgS (w : World) (A : Option Addr) (n : Nat) (ts : List ByteArray) : Prop where
  len : ts.length = n
  at_ : n = 0 ∨ ∃ b off, A = some ⟨b, off, none⟩ ∧ b < w.heap.size ∧ ∀ k, k < n → w.cell? ⟨b, off + k, none⟩ = some (.string (ts.getD k ByteArray.empty))
  sz : ∀ k, k < n → (ts.getD k ByteArray.empty).size ≤ maxLen

theorem ArgS.below {w w' : World} {A : Option Addr} {n : Nat} {ts : List ByteArray} (h : ArgS w A n ts) (hb : Below w.heap.size w w') : ArgS w' A n ts :=
  ⟨h.len, h.at_.imp id fun ⟨b, off, e, hb', hc⟩ => ⟨b, off, e, Nat.lt_of_lt_of_le hb' hb.size, fun k hk => by rw [hb.cell (p := ⟨b, off + k, none⟩) hb']; exact hc k hk⟩, h.sz⟩

/-- What the law tells of a list's size. -/
def SzOut (w : World) (n : Nat) (e : Ending) (w' : World) : Prop := ∃ r : Int, e = .returned (.int .i64 r) ∧ -1 ≤ r ∧ r ≤ 1048576 ∧ (0 ≤ r → n ≤ 1048576) ∧ Below w.heap.size w w'

theorem make_strs (n : Nat) (hn : n ≤ 1048576) (W : World) : (Instr.makeSlice 57 (.int .i64 (n : Int)) (.int .i64 (n : Int))).run Tryd.prog W = .ok (.slice (some ⟨W.heap.size, 0, none⟩) n n) (W.alloc (.cells (madeCells #[.string ByteArray.empty] n) 9)) := by
  obtain ⟨i0, hi, hz0, hz1, hz2⟩ := info_parts info_string
  have := run_make_rowN (P := Tryd.prog) 57 9 i0 _ Tryd.underlying57 hi hz0 .i64 .i64 n n (Nat.le_refl _) (by rw [hz2]; omega) (by omega) W
  rw [hz1, Nat.mul_one] at this
  exact this

theorem ownS_of {w : World} {g n : Nat} {ts : List ByteArray} (hl : ts.length = n) (hn : n ≤ 1048576) (hC : Cells w g n (strF ts)) : OwnS w 0 (some ⟨g, 0, none⟩) n ts :=
  ⟨hl, by omega, .inr ⟨g, rfl, Nat.zero_le _, hC⟩⟩

set_option maxRecDepth 100000 in
theorem open_strs {H : Type} {enc : TypeId × Value → H} {W : World} {b0 : Nat} {held : Bool} {v : Value} {d : DataW H} {p : List MemPlace}
    (hv : Value.okWide Tryd.prog W .any b0 57 v) (h : DataW.Trod enc Tryd.prog W 0 (fun _ => true) held 57 v d p) :
    ∃ (A : Option Addr) (n c : Nat) (ts : List ByteArray), v = .slice A n c ∧ ArgS W A n ts ∧ n ≤ maxLen := by
  obtain ⟨A, n, c, rfl⟩ := okWide_slice Tryd.underlying57 hv
  obtain ⟨fuel, hf⟩ := h
  rcases open_strings Tryd.underlying57 Tryd.underlying9 (by kernel_rfl) hf with ⟨hcs, _⟩ | ⟨a, len, cap, ss, hcs, _, hl, hm, hlen, _, hat, hsz⟩
  · simp [Value.cells] at hcs
    obtain ⟨rfl, rfl, rfl⟩ := hcs
    exact ⟨none, 0, 0, [], rfl, ⟨rfl, .inl rfl, fun k hk => by omega⟩, by unfold maxLen; omega⟩
  · simp [Value.cells] at hcs
    obtain ⟨rfl, rfl, rfl⟩ := hcs
    have hsl : n ≤ ss.length := by rw [hlen]; show n ≤ c; omega
    have hg : ∀ k, k < n → (ss.take n).getD k ByteArray.empty = ss.getD k ByteArray.empty := fun k hk => by simp only [List.getD, List.getElem?_take, if_pos hk]
    have hsz' : ∀ k, k < n → ((ss.take n).getD k ByteArray.empty).size ≤ maxLen := fun k hk => by
      rw [hg k hk]
      have : ss.getD k ByteArray.empty = ss[k]'(by omega) := by simp [List.getD, List.getElem?_eq_getElem (show k < ss.length by omega)]
      rw [this]
      exact hsz _ (List.getElem_mem _)
    refine ⟨some a, n, c, ss.take n, rfl, ⟨by simp; omega, ?_, hsz'⟩, by omega⟩
    rcases Nat.eq_zero_or_pos n with h0 | h0
    · exact .inl h0
    · obtain ⟨b, off, spot⟩ := a
      have h1 := hat 0 (by omega)
      have hs : spot = none := by simpa [Addr.add] using World.cell?_spot h1
      subst hs
      have hb := World.block_lt_of_cell? _ _ h1
      refine .inr ⟨b, off, rfl, by simpa [Addr.add] using hb, fun k hk => ?_⟩
      have ad : (⟨b, off, none⟩ : Addr).add k = ⟨b, off + k, none⟩ := by unfold Addr.add; split <;> simp_all
      rw [hg k hk, ← ad]
      exact hat k (by omega)

theorem argS_of {w : World} {g n : Nat} {ts : List ByteArray} (hl : ts.length = n) (hz : ∀ k, k < n → (ts.getD k ByteArray.empty).size ≤ maxLen) (hC : Cells w g n (strF ts)) : ArgS w (some ⟨g, 0, none⟩) n ts :=
  ⟨hl, .inr ⟨g, 0, rfl, hC.lt, fun k hk => by rw [Nat.zero_add]; exact hC.cell hk⟩, hz⟩

theorem argT_own {w : World} {g n : Nat} {us : List (Int × Int)} (hl : us.length = n) (hC : Cells w g (n * 2) (turnF us)) : ArgT w (some ⟨g, 0, none⟩) n us :=
  ⟨hl, .inr ⟨g, 0, rfl, hC.lt, fun k hk => by
    have h0 := hC.cell (show k * 2 < n * 2 by omega)
    have h1 := hC.cell (show k * 2 + 1 < n * 2 by omega)
    rw [turnF_0] at h0
    rw [turnF_1] at h1
    rw [Nat.zero_add]
    exact ⟨h0, h1⟩⟩⟩

/-- The size of a list of turns, of what is left. -/
def SzT (w : World) (n : Nat) (e : Ending) (w' : World) : Prop := ∃ r : Int, e = .returned (.int .i64 r) ∧ (0 ≤ r → n ≤ 1048576) ∧ w = w'

end Go.Proofs.YtgdjbclkdnmebaaDoor
