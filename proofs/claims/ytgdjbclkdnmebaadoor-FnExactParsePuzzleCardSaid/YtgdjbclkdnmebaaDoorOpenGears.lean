/- Gears among the arguments, opened to their numbers. No conditions. -/
import Derived.Test.YtgdjbclkdnmebaaDoorGears
import Derived.Deep.Matrix
import Derived.Deep.Fields
import Derived.ChangeSame
namespace Go.Proofs.YtgdjbclkdnmebaaDoor
open Go.ChangeShapes Go.WideShapes Go.Deep Go.ChangeAt Go.RowKit Go.Joins

theorem addr_add (b off j : Nat) : (⟨b, off, none⟩ : Addr).add j = ⟨b, off + j, none⟩ := by unfold Addr.add; split <;> simp_all

theorem intsA_of {W : World} {A : Option Addr} {L : Nat} {zs : List Int} (hz : L ≤ zs.length) (hA : A = none → L = 0) (hc : ∀ a', A = some a' → ∀ c, c < L → W.cell? (a'.add c) = some (.int .i64 (zs.getD c 0))) :
    IntsA W A L (zs.take L) := by
  refine ⟨by rw [List.length_take]; omega, ?_⟩
  rcases Nat.eq_zero_or_pos L with h0 | h0
  · exact .inl h0
  · rcases A with _ | ⟨b, off, spot⟩
    · have := hA rfl; omega
    · have h1 := hc _ rfl 0 h0
      have hs : spot = none := by simpa [Addr.add] using World.cell?_spot h1
      subst hs
      have hb := World.block_lt_of_cell? _ _ h1
      refine .inr ⟨b, off, rfl, by simpa [Addr.add] using hb, fun k hk => ?_⟩
      have h2 := hc _ rfl k hk
      rw [addr_add] at h2
      rw [h2]
      congr 2
      simp only [List.getD]
      rw [List.getElem?_take, if_pos hk]

theorem knobsA_of {W : World} {a : Addr} {n cap : Nat} {A : Nat → Option Addr} {L C : Nat → Nat} {Z : Nat → List Int} (hn : n ≤ cap)
    (h : ∀ r, r < cap → W.cell? (a.add r) = some (.slice (A r) (L r) (C r)) ∧ L r ≤ C r ∧ C r ≤ maxLen ∧ (Z r).length = C r ∧ (∀ m ∈ Z r, (Lit.int .i64 m).wf = true) ∧ (A r = none → C r = 0) ∧
      ∀ a', A r = some a' → 0 ≤ a'.block ∧ ∀ c, c < C r → W.cell? (a'.add c) = some (.int .i64 ((Z r).getD c 0))) :
    KnobsA W (some a) n ((List.range n).map fun r => (Z r).take (L r)) := by
  refine ⟨by simp, ?_⟩
  rcases Nat.eq_zero_or_pos n with h0 | h0
  · exact .inl h0
  · obtain ⟨b, off, spot⟩ := a
    have h1 := (h 0 (by omega)).1
    have hs : spot = none := by simpa [Addr.add] using World.cell?_spot h1
    subst hs
    have hb := World.block_lt_of_cell? _ _ h1
    refine .inr ⟨b, off, rfl, by simpa [Addr.add] using hb, fun k hk => ?_⟩
    obtain ⟨c1, c2, c3, c4, _, c5, c6⟩ := h k (by omega)
    have e : ((List.range n).map fun r => (Z r).take (L r)).getD k [] = (Z k).take (L k) := by simp [List.getD, hk]
    have hl : ((Z k).take (L k)).length = L k := by rw [List.length_take]; omega
    rw [e, hl]
    rw [addr_add] at c1
    exact ⟨A k, C k, c1, by omega, intsA_of (by omega) (fun e => by have := c5 e; omega) (fun a' ha c hc => (c6 a' ha).2 c (by omega))⟩

theorem cellsLists : Tryd.prog.cellsOf 22 = 1 := by kernel_rfl

theorem cellsList : Tryd.prog.cellsOf 58 = 1 := by kernel_rfl

theorem cellsInt : Tryd.prog.cellsOf 3 = 1 := by kernel_rfl

set_option maxRecDepth 100000 in
theorem open_intsA {H : Type} {enc : TypeId × Value → H} {W : World} {b0 : Nat} {held : Bool} {v : Value} {d : DataW H} {p : List MemPlace}
    (hv : Value.okWide Tryd.prog W .any b0 58 v) (h : DataW.Trod enc Tryd.prog W 0 (fun _ => true) held 58 v d p) :
    ∃ (A : Option Addr) (n c : Nat) (xs : List Int), v = .slice A n c ∧ IntsA W A n xs ∧ n ≤ maxLen := by
  obtain ⟨A, n, c, rfl⟩ := okWide_slice Tryd.underlying58 hv
  obtain ⟨fuel, hf⟩ := h
  rcases open_ints Tryd.underlying58 Tryd.underlying3 cellsInt hf with ⟨hcs, _⟩ | ⟨a, len, cap, zs, hcs, _, hl, hm, hz, _, hc, _⟩
  · simp [Value.cells] at hcs
    obtain ⟨rfl, rfl, rfl⟩ := hcs
    exact ⟨none, 0, 0, [], rfl, ⟨rfl, .inl rfl⟩, by unfold maxLen; omega⟩
  · simp [Value.cells] at hcs
    obtain ⟨rfl, rfl, rfl⟩ := hcs
    simp only [if_true] at hz
    refine ⟨some a, n, c, zs.take n, rfl, intsA_of (by omega) (fun e => by cases e) (fun a' ha k hk => ?_), by omega⟩
    cases ha
    exact hc k (by omega)

end Go.Proofs.YtgdjbclkdnmebaaDoor
