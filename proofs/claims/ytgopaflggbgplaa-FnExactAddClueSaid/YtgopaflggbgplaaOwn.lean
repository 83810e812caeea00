/- A list of numbers copied by the model. For at most 1048576 numbers. -/
import Derived.Test.YtgopaflggbgplaaGears2
import Derived.Test.YtgopaflggbgplaaDigits
namespace Go.Proofs.Ytgopaflggbgplaa
open Go.ChangeShapes Go.WideShapes Go.ChangeAt Go.RowKit Go.Joins

theorem iv_news {w : World} {b off n : Nat} {xs : List Int} (hl : xs.length = n) (h : ∀ k, k < n → w.cell? ⟨b, off + k, none⟩ = some (.int .i64 (xs.getD k 0))) : ∀ j u, (iv xs)[j]? = some u → w.cell? ((⟨b, off, none⟩ : Addr).add j) = some u := by
  intro j u hu
  have hj : j < n := by
    have := (List.getElem?_eq_some_iff.1 hu).1
    simp [iv] at this; omega
  have ha : (⟨b, off, none⟩ : Addr).add j = ⟨b, off + j, none⟩ := by unfold Addr.add; split <;> simp_all
  rw [ha, h j hj, ← hu]
  simp [iv, List.getD, List.getElem?_eq_getElem (show j < xs.length by omega)]

theorem iv_one (xs : List Int) : ∀ u ∈ iv xs, u.oneCell' = true := by
  intro u hu
  obtain ⟨x, _, rfl⟩ := List.mem_map.1 hu
  rfl

theorem own_ints {w : World} {base : Nat} {t : TypeId} {v : Value} {xs : List Int} {n : Nat} (h : w.ownsRow base t 1 v n (iv xs)) (hv : v ≠ .slice none 0 0) :
    ∃ g c, v = .slice (some ⟨g, 0, none⟩) n c ∧ base ≤ g ∧ Cells w g n (digF xs) := by
  have hl : xs.length = n := by simpa [iv] using h.1
  rcases h.2 with ⟨e, _⟩ | ⟨g, cap, cur, rfl, hb, hg, _, _, _, _⟩
  · exact absurd e hv
  · refine ⟨g, cap, rfl, hb, (Array.getElem?_eq_some_iff.1 hg).1, fun j hj => ⟨?_, h.frozenAt j⟩⟩
    rw [h.cellAt j (by omega)]
    simp [iv, digF, List.getD, List.getElem?_eq_getElem (show j < xs.length by omega)]

end Go.Proofs.Ytgopaflggbgplaa
