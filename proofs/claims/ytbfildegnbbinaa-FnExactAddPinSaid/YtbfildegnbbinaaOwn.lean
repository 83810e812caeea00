/- A list of numbers copied by the model. For at most 1048576 numbers. -/
import Derived.Test.YtbfildegnbbinaaGears2
import Derived.Test.YtbfildegnbbinaaDigits
namespace Go.Proofs.Ytbfildegnbbinaa
open Go.ChangeShapes Go.WideShapes Go.ChangeAt Go.RowKit Go.Joins

theorem iv_news {w : World} {b off n : Nat} {xs : List Int} (hl : xs.length = n) (h : ∀ k, k < n → w.cell? ⟨b, off + k, none⟩ = some (.int .i64 (xs.getD k 0))) : ∀ j u, (iv xs)[j]? = some u → w.cell? ((⟨b, off, none⟩ : Addr).add j) = some u := by
  intro j u hu
  have hj : j < n := by
    have := (List.getElem?_eq_some_iff.1 hu).1
    simp [iv] at this; omega
  have ha : (⟨b, off, none⟩ : Addr).add j = ⟨b, off + j, none⟩ := by unfold Addr.add; split <;> simp_all
  rw [ha, h j hj, ← hu]
  simp [iv, List.getD, List.getElem?_eq_getElem (show j < xs.length by omega)]

theorem iv_one (xs : List Int) : ∀ u ∈ iv xs, u.oneCell' = true := by
  intro u hu
  obtain ⟨x, _, rfl⟩ := List.mem_map.1 hu
  rfl

theorem own_ints {w : World} {base : Nat} {t : TypeId} {v : Value} {xs : List Int} {n : Nat} (h : w.ownsRow base t 1 v n (iv xs)) (hv : v ≠ .slice none 0 0) :
    ∃ g c, v = .slice (some ⟨g, 0, none⟩) n c ∧ base ≤ g ∧ Cells w g n (digF xs) := by
  have hl : xs.length = n := by simpa [iv] using h.1
  rcases h.2 with ⟨e, _⟩ | ⟨g, cap, cur, rfl, hb, hg, _, _, _, _⟩
  · exact absurd e hv
  · refine ⟨g, cap, rfl, hb, (Array.getElem?_eq_some_iff.1 hg).1, fun j hj => ⟨?_, h.frozenAt j⟩⟩
    rw [h.cellAt j (by omega)]
    simp [iv, digF, List.getD, List.getElem?_eq_getElem (show j < xs.length by omega)]

theorem l1Own_any (A : Option Addr) (n c : Nat) (xs : List Int) (w : World) (hn : n ≤ 1048576) (hA : IntsA w A n xs) :
    Calls Try.prog 67 #[.slice A n c] w fun e w' => ∃ g c', e = .returned (.slice (some ⟨g, 0, none⟩) n c') ∧ w.heap.size ≤ g ∧ Cells w' g n (digF xs) ∧ Below w.heap.size w w' := by
  obtain ⟨i0, hi, hy0, hy1, hy2⟩ := info_parts info_int
  have HL := Lib.hid hA.len
  have HO := Lib.hid (World.ownsRow_made (base := w.heap.size) (e := 3) (size := 1) w #[] 0 (Nat.le_refl _) (by unfold maxLen; omega) rfl)
  have HB0 := Lib.hid ((Below.refl w.heap.size w).alloc (Nat.le_refl _) (.cells #[] 3))
  rcases A with _ | ad
  · have h0 : n = 0 := by
      rcases hA.at_ with h | ⟨_, _, e, _⟩
      · exact h
      · cases e
    subst h0
    clear hA
    go_enter Try.func67, Try.ntmps67
    go_wp2_with fail
    go_ret
    exact ⟨w.heap.size, 0, rfl, Nat.le_refl _, ⟨by simp, fun j hj => by omega⟩, HB0.out⟩
  · have HN : Hid (∀ j u, (iv xs)[j]? = some u → (w.alloc (.cells #[] 3)).cell? (ad.add j) = some u) := Lib.hid (by
      rcases hA.at_ with h0 | ⟨b, off, e, hb, hc⟩
      · intro j u hu
        have : xs = [] := List.eq_nil_of_length_eq_zero (by rw [hA.len, h0])
        subst this
        simp [iv] at hu
      · cases e
        exact iv_news hA.len (fun k hk => by rw [World.cell?_alloc_lt _ _ _ hb]; exact hc k hk))
    clear hA
    go_enter Try.func67, Try.ntmps67
    go_wp2_with (at_builtin; refine wpList_append_own _ rfl _ _ 54 rfl w.heap.size 3 i0 (.int .i64 0) 1 8 Try.underlying54 hi hy0 hy1 hy2 rfl (by decide) _ _ _ rfl HO.out ad n c (iv xs) rfl (by simp [iv]; have := HL.out; omega) HN.out (iv_one _) (by unfold maxLen; omega) (by omega) (by simp) ?_; intro v' w1 hown' hgrow hiff)
    have hv : v' ≠ .slice none 0 0 := fun e => by have := (hiff.1 e).1; cases this
    have HB1 := Lib.hid (HB0.out.grown hgrow HB0.out.size (fun j hj => (HO.out.lt j hj).1))
    obtain ⟨g, c', rfl, hg, hC⟩ := own_ints (xs := xs) (n := n) (by simpa using hown') hv
    go_ret
    exact ⟨g, c', rfl, hg, hC, HB1.out⟩

end Go.Proofs.Ytbfildegnbbinaa
