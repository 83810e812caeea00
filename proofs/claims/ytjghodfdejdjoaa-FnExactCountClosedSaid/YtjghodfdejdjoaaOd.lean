/- The forth and back order: the code with a rank, as both programs make it. No conditions. -/
import Derived.Test.YtjghodfdejdjoaaOc
import Derived.Deep.RegionLaw
namespace Go.Proofs.Ytjghodfdejdjoaa
open Go.ChangeShapes Go.WideShapes Go.ChangeAt Go.RowKit Go.Joins

theorem orL_digits {f : Int → Int → Int} {b x : Int} {n : Nat} (hb : b ≤ 10) (h : ∀ q, 0 ≤ f b q ∧ f b q < b) : Digits (orL f b x n) := fun j hj => by
  rw [orL_length] at hj
  rw [orL_at hj]
  have := h (x / pw b (n - 1 - j))
  omega

theorem iv_snoc {ds : List Int} {k : Nat} (hk : k < ds.length) : iv (ds.take (k + 1)) = iv (ds.take k) ++ [.int .i64 (ds.getD k 0)] := by
  unfold iv; rw [List.take_succ_eq_append_getElem hk, List.map_append]
  simp [List.getD, List.getElem?_eq_getElem hk]

theorem news_one {W : World} {v : Value} {t : TypeId} {g : Nat} (hg : g = W.heap.size) : ∀ j u, ([v] : List Value)[j]? = some u → (W.alloc (.cells #[v] t)).cell? ((⟨g, 0, none⟩ : Addr).add j) = some u := by
  intro j u hj
  subst hg
  match j, hj with
  | 0, hj => simp at hj; subst hj; simp [Addr.add]

/-- One wheel of it, as the model reckons it. -/
theorem fo_round {b x : Int} {n k : Nat} (h2 : 2 ≤ b) (hk : k < n) :
    (orL foI b x n).getD k 0 = (if (x / pw b (n - k)) % 2 = 1 then b - 1 - (digL b x n).getD k 0 else (digL b x n).getD k 0) ∧
    x / pw b (n - (k + 1)) = (x / pw b (n - k)) * b + (digL b x n).getD k 0 := by
  rw [orL_at hk, digL_at hk, show n - k = (n - (k + 1)) + 1 by omega, show n - 1 - k = n - (k + 1) by omega, div_pw h2]
  refine ⟨rfl, ?_⟩
  have := Int.mul_ediv_add_emod (x / pw b (n - (k + 1))) b
  rw [Int.mul_comm] at this
  exact this.symm

end Go.Proofs.Ytjghodfdejdjoaa
