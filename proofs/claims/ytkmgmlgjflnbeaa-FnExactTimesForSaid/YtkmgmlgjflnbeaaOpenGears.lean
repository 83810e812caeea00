/- Gears among the arguments, opened to their numbers. No conditions. -/
import Derived.Test.YtkmgmlgjflnbeaaGears
import Derived.Deep.Matrix
import Derived.Deep.Fields
import Derived.ChangeSame
namespace Go.Proofs.Ytkmgmlgjflnbeaa
open Go.ChangeShapes Go.WideShapes Go.Deep Go.ChangeAt Go.RowKit Go.Joins

theorem addr_add (b off j : Nat) : (⟨b, off, none⟩ : Addr).add j = ⟨b, off + j, none⟩ := by unfold Addr.add; split <;> simp_all

theorem intsA_of {W : World} {A : Option Addr} {L : Nat} {zs : List Int} (hz : L ≤ zs.length) (hA : A = none → L = 0) (hc : ∀ a', A = some a' → ∀ c, c < L → W.cell? (a'.add c) = some (.int .i64 (zs.getD c 0))) :
    IntsA W A L (zs.take L) := by
  refine ⟨by rw [List.length_take]; omega, ?_⟩
  rcases Nat.eq_zero_or_pos L with h0 | h0
  · exact .inl h0
  · rcases A with _ | ⟨b, off, spot⟩
    · have := hA rfl; omega
    · have h1 := hc _ rfl 0 h0
      have hs : spot = none := by simpa [Addr.add] using World.cell?_spot h1
      subst hs
      have hb := World.block_lt_of_cell? _ _ h1
      refine .inr ⟨b, off, rfl, by simpa [Addr.add] using hb, fun k hk => ?_⟩
      have h2 := hc _ rfl k hk
      rw [addr_add] at h2
      rw [h2]
      congr 2
      simp only [List.getD]
      rw [List.getElem?_take, if_pos hk]

theorem knobsA_of {W : World} {a : Addr} {n cap : Nat} {A : Nat → Option Addr} {L C : Nat → Nat} {Z : Nat → List Int} (hn : n ≤ cap)
    (h : ∀ r, r < cap → W.cell? (a.add r) = some (.slice (A r) (L r) (C r)) ∧ L r ≤ C r ∧ C r ≤ maxLen ∧ (Z r).length = C r ∧ (∀ m ∈ Z r, (Lit.int .i64 m).wf = true) ∧ (A r = none → C r = 0) ∧
      ∀ a', A r = some a' → 0 ≤ a'.block ∧ ∀ c, c < C r → W.cell? (a'.add c) = some (.int .i64 ((Z r).getD c 0))) :
    KnobsA W (some a) n ((List.range n).map fun r => (Z r).take (L r)) := by
  refine ⟨by simp, ?_⟩
  rcases Nat.eq_zero_or_pos n with h0 | h0
  · exact .inl h0
  · obtain ⟨b, off, spot⟩ := a
    have h1 := (h 0 (by omega)).1
    have hs : spot = none := by simpa [Addr.add] using World.cell?_spot h1
    subst hs
    have hb := World.block_lt_of_cell? _ _ h1
    refine .inr ⟨b, off, rfl, by simpa [Addr.add] using hb, fun k hk => ?_⟩
    obtain ⟨c1, c2, c3, c4, _, c5, c6⟩ := h k (by omega)
    have e : ((List.range n).map fun r => (Z r).take (L r)).getD k [] = (Z k).take (L k) := by simp [List.getD, hk]
    have hl : ((Z k).take (L k)).length = L k := by rw [List.length_take]; omega
    rw [e, hl]
    rw [addr_add] at c1
    exact ⟨A k, C k, c1, by omega, intsA_of (by omega) (fun e => by have := c5 e; omega) (fun a' ha c hc => (c6 a' ha).2 c (by omega))⟩

theorem cellsLists : Try.prog.cellsOf 24 = 1 := by kernel_rfl

theorem cellsList : Try.prog.cellsOf 28 = 1 := by kernel_rfl

theorem cellsInt : Try.prog.cellsOf 3 = 1 := by kernel_rfl

theorem cellsLawGears : Try.prog.cellsOf 26 = 3 := by kernel_rfl

set_option maxRecDepth 100000 in
theorem open_gears {H : Type} {enc : TypeId × Value → H} {W : World} {b0 : Nat} {held : Bool} {v : Value} {d : DataW H} {p : List MemPlace}
    (hv : Value.okWide Try.prog W .any b0 26 v) (h : DataW.Trod enc Try.prog W 0 (fun _ => true) held 26 v d p) :
    ∃ (a b : Int) (A : Option Addr) (n c : Nat) (ks : List (List Int)), v = .agg #[.int .i64 a, .int .i64 b, .slice A n c] ∧ (Lit.int .i64 a).wf = true ∧ (Lit.int .i64 b).wf = true ∧ KnobsA W A n ks ∧ n ≤ maxLen := by
  obtain ⟨cs, rfl, hsz⟩ := okWide_struct Try.underlying26 hv
  obtain ⟨c0, c1, c2, rfl⟩ := array3 (hsz.trans cellsLawGears)
  obtain ⟨fuel, hf⟩ := h
  obtain ⟨xs, m, _, hx, hcl, hxl, hfs⟩ := DataW.trod_struct Try.underlying26 hf
  obtain ⟨x0, x1, rfl⟩ : ∃ x0 x1, xs = [x0, x1] := by
    match xs, hxl with
    | [x0, x1], _ => exact ⟨x0, x1, rfl⟩
  have e0 : DataW.trod enc Try.prog W 0 (fun _ => true) held m 23 [c0, c1] = some x0 := by simpa [Try.cellsLawLock, Value.cells] using hfs 0 _ rfl
  have e1 : DataW.trod enc Try.prog W 0 (fun _ => true) held m 24 [c2] = some x1 := by simpa [cellsLists, Value.cells] using hfs 1 _ rfl
  obtain ⟨y0, y1, k, _, _, f0, f1⟩ := trod_struct2 Try.underlying23 e0
  have f0' : DataW.trod enc Try.prog W 0 (fun _ => true) held k 3 [c0] = some y0 := by simpa [cellsInt] using f0
  have f1' : DataW.trod enc Try.prog W 0 (fun _ => true) held k 3 [c1] = some y1 := by simpa [cellsInt] using f1
  obtain ⟨a, ea, _, wa⟩ := DataW.trod_int Try.underlying3 f0'
  obtain ⟨b, eb, _, wb⟩ := DataW.trod_int Try.underlying3 f1'
  simp at ea eb
  subst ea eb
  rcases open_int_rows Try.underlying24 Try.underlying28 Try.underlying3 cellsList cellsInt e1 with ⟨hc, _⟩ | ⟨ad, n, cap, A, L, C, Z, hc, _, hn, hm, _, hr⟩
  · simp at hc
    subst hc
    exact ⟨a, b, none, 0, 0, [], rfl, wa, wb, ⟨rfl, .inl rfl⟩, by unfold maxLen; omega⟩
  · simp at hc
    subst hc
    exact ⟨a, b, some ad, n, cap, _, rfl, wa, wb, knobsA_of hn hr, by omega⟩

set_option maxRecDepth 100000 in
theorem open_intsA {H : Type} {enc : TypeId × Value → H} {W : World} {b0 : Nat} {held : Bool} {v : Value} {d : DataW H} {p : List MemPlace}
    (hv : Value.okWide Try.prog W .any b0 28 v) (h : DataW.Trod enc Try.prog W 0 (fun _ => true) held 28 v d p) :
    ∃ (A : Option Addr) (n c : Nat) (xs : List Int), v = .slice A n c ∧ IntsA W A n xs ∧ n ≤ maxLen := by
  obtain ⟨A, n, c, rfl⟩ := okWide_slice Try.underlying28 hv
  obtain ⟨fuel, hf⟩ := h
  rcases open_ints Try.underlying28 Try.underlying3 cellsInt hf with ⟨hcs, _⟩ | ⟨a, len, cap, zs, hcs, _, hl, hm, hz, _, hc, _⟩
  · simp [Value.cells] at hcs
    obtain ⟨rfl, rfl, rfl⟩ := hcs
    exact ⟨none, 0, 0, [], rfl, ⟨rfl, .inl rfl⟩, by unfold maxLen; omega⟩
  · simp [Value.cells] at hcs
    obtain ⟨rfl, rfl, rfl⟩ := hcs
    simp only [if_true] at hz
    refine ⟨some a, n, c, zs.take n, rfl, intsA_of (by omega) (fun e => by cases e) (fun a' ha k hk => ?_), by omega⟩
    cases ha
    exact hc k (by omega)

end Go.Proofs.Ytkmgmlgjflnbeaa
