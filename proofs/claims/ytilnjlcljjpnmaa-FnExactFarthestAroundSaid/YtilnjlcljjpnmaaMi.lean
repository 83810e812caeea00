/- The least of some codes as texts, as the library finds it. For a list that is not empty. -/
import Derived.Test.YtilnjlcljjpnmaaCn
import Derived.Lib.MinMaxS
namespace Go.Proofs.Ytilnjlcljjpnmaa
open Go.ChangeShapes Go.WideShapes Go.ChangeAt Go.RowKit Go.Joins

theorem minS_code {a b : Int} {x y : ByteArray} (hx : askB a b x = true) (hy : askB a b y = true) : (Lib.minS x y = x ∧ nuN a b x ≤ nuN a b y) ∨ (Lib.minS x y = y ∧ nuN a b y ≤ nuN a b x) := by
  have e := less_nu hx hy
  rw [ByteArray.toList_eq, ByteArray.toList_eq, bytesLess_eq, decide_eq_decide] at e
  unfold Lib.minS
  by_cases h : x.data.toList < y.data.toList
  · rw [if_pos (.inl h)]
    have := e.1 h
    exact .inl ⟨rfl, by omega⟩
  · by_cases h2 : x.data.toList = y.data.toList
    · rw [if_pos (.inr h2)]
      have : x = y := bytesJ h2
      subst this
      exact .inl ⟨rfl, Nat.le_refl _⟩
    · rw [if_neg (fun h3 => h3.elim h h2)]
      have := mt e.2 h
      exact .inr ⟨rfl, by omega⟩

set_option maxRecDepth 100000 in
set_option maxHeartbeats 1000000 in
theorem min_any (a b : Int) (g n c : Nat) (ks : List ByteArray) (w : World) (hl : ks.length = n) (hn : 0 < n) (hn2 : n ≤ 1000) (hC : Cells w g n (strF ks)) (hk : ∀ t, t ∈ ks → askB a b t = true) :
    Calls Try.prog 81 #[.slice (some ⟨g, 0, none⟩) n c] w fun e w' => (∃ m, e = .returned (.string m) ∧ m ∈ ks ∧ ∀ t, t ∈ ks → nuN a b m ≤ nuN a b t) ∧ w = w' := by
  have HL := Lib.hid hl
  have HC := Lib.hid hC
  have HK := Lib.hid hk
  have o0 : w.cell? ⟨g, 0, none⟩ = some (.string (ks.getD 0 ByteArray.empty)) := HC.out.cell hn
  have HM0 : Hid (ks.getD 0 ByteArray.empty ∈ ks.take 1 ∧ ∀ t, t ∈ ks.take 1 → nuN a b (ks.getD 0 ByteArray.empty) ≤ nuN a b t) := Lib.hid (by
    rw [getD_eq (by omega)]
    have e : ks.take 1 = [ks[0]'(by omega)] := by
      rw [List.take_succ_eq_append_getElem (show 0 < ks.length by omega), List.take_zero]; rfl
    rw [e]
    exact ⟨List.mem_singleton.2 rfl, fun t ht => by rw [List.mem_singleton.1 ht]; exact Nat.le_refl _⟩)
  clear hl hC hk
  generalize ks.getD 0 ByteArray.empty = x0 at o0 HM0
  go_enter Try.func81, Try.ntmps81
  go_wp2_with fail
  go_loop [3, 4] (fun v i => ∃ (k : Nat) (m : ByteArray), 1 ≤ k ∧ k ≤ n ∧ i = .int .i64 k ∧ v = .string m ∧ m ∈ ks.take k ∧ ∀ t, t ∈ ks.take k → nuN a b m ≤ nuN a b t) (fun _ i => n - (intOf i).toNat)
  case atStart => exact ⟨1, x0, by omega, by omega, rfl, rfl, HM0.out.1, HM0.out.2⟩
  case round =>
    obtain ⟨k, m, hk1, hk, rfl, rfl, hm, hall⟩ := hrel
    have HM := Lib.hid hm
    have HALL := Lib.hid hall
    clear hm hall
    by_cases hlt : k < n
    · have o1 : w.cell? ⟨g, k, none⟩ = some (.string (ks.getD k ByteArray.empty)) := HC.out.cell hlt
      have HT : Hid (ks.take (k + 1) = ks.take k ++ [ks.getD k ByteArray.empty]) := Lib.hid (by rw [List.take_succ_eq_append_getElem (by rw [HL.out]; exact hlt), ← getD_eq (by rw [HL.out]; exact hlt)])
      have HX : Hid (ks.getD k ByteArray.empty ∈ ks) := Lib.hid (by rw [getD_eq (by rw [HL.out]; exact hlt)]; exact List.getElem_mem _)
      generalize ks.getD k ByteArray.empty = x at o1 HT HX
      have hmx := @Lib.run_min_strs Try.prog
      have HMN := Lib.hid (minS_code (HK.out m (List.mem_of_mem_take HM.out)) (HK.out x HX.out))
      have HN : Hid (Lib.minS m x ∈ ks.take (k + 1) ∧ ∀ t, t ∈ ks.take (k + 1) → nuN a b (Lib.minS m x) ≤ nuN a b t) := Lib.hid (by
        rw [HT.out]
        rcases HMN.out with ⟨e, h⟩ | ⟨e, h⟩
        · rw [e]
          refine ⟨List.mem_append_left _ HM.out, fun t ht => ?_⟩
          rcases List.mem_append.1 ht with h1 | h1
          · exact HALL.out t h1
          · rw [List.mem_singleton.1 h1]; exact h
        · rw [e]
          refine ⟨List.mem_append_right _ (List.mem_singleton.2 rfl), fun t ht => ?_⟩
          rcases List.mem_append.1 ht with h1 | h1
          · exact Nat.le_trans h (HALL.out t h1)
          · rw [List.mem_singleton.1 h1]; exact Nat.le_refl _)
      clear HMN
      generalize hmn : Lib.minS m x = mn at HN
      go_wp2_with fail
      go_round
      case rel => exact ⟨k + 1, mn, by omega, by omega, by go_num, rfl, HN.out.1, HN.out.2⟩
      case measure => simp [intOf]; omega
    · obtain rfl : k = n := by omega
      go_wp2_with fail
      go_ret
      have h1 := HM.out
      have h2 := HALL.out
      rw [← HL.out, List.take_length] at h1 h2
      exact ⟨⟨m, rfl, h1, h2⟩, rfl⟩

end Go.Proofs.Ytilnjlcljjpnmaa
