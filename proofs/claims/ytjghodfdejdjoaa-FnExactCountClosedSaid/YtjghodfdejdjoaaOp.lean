/- Small contracts of the model: a list of texts of the call's own, and whether a text is in a list. For lists that can be. -/
import Derived.Test.YtjghodfdejdjoaaDead
import Derived.Test.YtjghodfdejdjoaaMpS
import Derived.Deep.RegionLaw
import Derived.Deep.AppendSrc
namespace Go.Proofs.Ytjghodfdejdjoaa
open Go.ChangeShapes Go.WideShapes Go.ChangeAt Go.RowKit Go.Joins

def inS (ts : List ByteArray) (s : ByteArray) : Bool := ts.any fun t => decide (t = s)

theorem inS_iff {ts : List ByteArray} {s : ByteArray} : inS ts s = true ↔ s ∈ ts := by
  unfold inS
  rw [List.any_eq_true]
  constructor
  · rintro ⟨t, ht, h⟩
    rw [decide_eq_true_iff] at h
    rwa [← h]
  · exact fun h => ⟨s, h, decide_eq_true rfl⟩

theorem inS_yes {ts : List ByteArray} {s : ByteArray} (h : s ∈ ts) : inS ts s = true := inS_iff.2 h

theorem inS_no {ts : List ByteArray} {s : ByteArray} (h : s ∉ ts) : inS ts s = false := by
  rw [Bool.eq_false_iff]
  exact fun h2 => h (inS_iff.1 h2)

theorem bytesI {b c : ByteArray} (h : b.data.toList = c.data.toList) : b = c := by
  have := Array.toList_inj.1 h
  cases b; cases c; simp at this; rw [this]

theorem bytesN {x y : ByteArray} (h : x ≠ y) : (x.toList == y.toList) = false := by
  rw [ByteArray.toList_eq, ByteArray.toList_eq]
  have : x.data.toList ≠ y.data.toList := fun e => h (bytesI e)
  simpa using this

theorem getD_eq {ts : List ByteArray} {k : Nat} (h : k < ts.length) : ts.getD k ByteArray.empty = ts[k] := by simp [List.getD, List.getElem?_eq_getElem h]

theorem notin_snoc {ts : List ByteArray} {s : ByteArray} {k : Nat} (hk : k < ts.length) (h : s ∉ ts.take k) (hne : ts.getD k ByteArray.empty ≠ s) : s ∉ ts.take (k + 1) := by
  rw [List.take_succ_eq_append_getElem hk, ← getD_eq hk]
  intro hc
  rw [List.mem_append, List.mem_singleton] at hc
  rcases hc with hc | hc
  · exact h hc
  · exact hne hc.symm

theorem l1HasS_any (A : Option Addr) (n c : Nat) (ts : List ByteArray) (s : ByteArray) (w : World) (hn : n ≤ maxLen) (hA : ArgS w A n ts) :
    Calls Try.prog 27 #[.slice A n c, .string s] w fun e w' => e = .returned (.bool (inS ts s)) ∧ w = w' := by
  unfold maxLen at hn
  have HL := Lib.hid hA.len
  rcases hA.at_ with h0 | ⟨B, off, rfl, hb, hc⟩
  · subst h0
    have HV : Hid (inS ts s = false) := Lib.hid (by rw [List.length_eq_zero_iff.1 HL.out]; exact inS_no (by simp))
    clear hA
    go_enter Try.func27, Try.ntmps27
    go_wp2_with fail
    go_loop [9] (fun i => i = .int .i64 0) (fun _ => 0)
    case atStart => rfl
    case round =>
      obtain rfl := hrel
      go_wp2_with fail
      go_ret
      exact ⟨ret_bool HV.out.symm, rfl⟩
  · have HC := Lib.hid hc
    clear hc hA
    go_enter Try.func27, Try.ntmps27
    go_wp2_with fail
    go_loop [9] (fun i => ∃ k : Nat, k ≤ n ∧ i = .int .i64 k ∧ s ∉ ts.take k) (fun i => n - (intOf i).toNat)
    case atStart => exact ⟨0, by omega, rfl, by simp⟩
    case round =>
      obtain ⟨k, hk, rfl, hall⟩ := hrel
      have HAL := Lib.hid hall
      clear hall
      by_cases hlt : k < n
      · have o1 := HC.out k hlt
        have HM : Hid (ts.getD k ByteArray.empty ∈ ts) := Lib.hid (by rw [getD_eq (by rw [HL.out]; exact hlt)]; exact List.getElem_mem _)
        have HS : Hid (ts.getD k ByteArray.empty ≠ s → s ∉ ts.take (k + 1)) := Lib.hid (notin_snoc (by rw [HL.out]; exact hlt) HAL.out)
        generalize ts.getD k ByteArray.empty = x at o1 HM HS
        by_cases he : x = s
        · subst he
          have HV : Hid (inS ts x = true) := Lib.hid (inS_yes HM.out)
          go_wp2_with fail
          go_ret
          exact ⟨ret_bool HV.out.symm, rfl⟩
        · have hne := bytesN he
          have HN := Lib.hid (HS.out he)
          clear he
          go_wp2_with fail
          go_round
          case rel => exact ⟨k + 1, by omega, by go_num, HN.out⟩
          case measure => simp [intOf]; omega
      · obtain rfl : k = n := by omega
        go_wp2_with fail
        go_ret
        have h := HAL.out
        rw [← HL.out, List.take_length] at h
        exact ⟨ret_bool (inS_no h).symm, rfl⟩

theorem inS_hsS (ts : List ByteArray) (s : ByteArray) : inS ts s = hsS ts s := rfl

theorem sv_news {w : World} {b off n : Nat} {ts : List ByteArray} (hl : ts.length = n) (h : ∀ k, k < n → w.cell? ⟨b, off + k, none⟩ = some (.string (ts.getD k ByteArray.empty))) : ∀ j u, (sv ts)[j]? = some u → w.cell? ((⟨b, off, none⟩ : Addr).add j) = some u := by
  intro j u hu
  have hj : j < n := by
    have := (List.getElem?_eq_some_iff.1 hu).1
    simp [sv] at this; omega
  have ha : (⟨b, off, none⟩ : Addr).add j = ⟨b, off + j, none⟩ := by unfold Addr.add; split <;> simp_all
  rw [ha, h j hj, ← hu]
  simp [sv, List.getD, List.getElem?_eq_getElem (show j < ts.length by omega)]

theorem svOne (ts : List ByteArray) : ∀ u ∈ sv ts, u.oneCell' = true := by
  intro u hu
  obtain ⟨t, _, rfl⟩ := List.mem_map.1 hu
  rfl

theorem rowForm {w : World} {base : Nat} {e : TypeId} {v : Value} {n : Nat} {xs : List Value} (h : w.ownsRow base e 1 v n xs) (hv : v ≠ .slice none 0 0) : ∃ g c, v = .slice (some ⟨g, 0, none⟩) n c ∧ n ≤ c := by
  rcases h.2 with ⟨h0, _⟩ | ⟨g, cap, cur, rfl, _, _, hc, _⟩
  · exact absurd h0 hv
  · exact ⟨g, cap, rfl, hc⟩

theorem l1OwnS_any (A : Option Addr) (n c : Nat) (ts : List ByteArray) (w : World) (hn : n ≤ 1048576) (hA : ArgS w A n ts) :
    Calls Try.prog 25 #[.slice A n c] w fun e w' => ∃ g c', e = .returned (.slice (some ⟨g, 0, none⟩) n c') ∧ n ≤ c' ∧ w'.ownsRow w.heap.size 9 1 (.slice (some ⟨g, 0, none⟩) n c') n (sv ts) ∧ Below w.heap.size w w' := by
  obtain ⟨i0, hi, hy0, hy1, hy2⟩ := info_parts info_string
  have HL := Lib.hid hA.len
  have HO := Lib.hid (World.ownsRow_made (base := w.heap.size) (e := 9) (size := 1) w #[] 0 (Nat.le_refl _) (by unfold maxLen; omega) rfl)
  have HB0 := Lib.hid ((Below.refl w.heap.size w).alloc (Nat.le_refl _) (.cells #[] 9))
  rcases A with _ | ad
  · have h0 : n = 0 := by
      rcases hA.at_ with h | ⟨_, _, e, _⟩
      · exact h
      · cases e
    subst h0
    obtain rfl : ts = [] := List.eq_nil_of_length_eq_zero HL.out
    clear hA
    go_enter Try.func25, Try.ntmps25
    go_wp2_with fail
    go_ret
    exact ⟨w.heap.size, 0, rfl, Nat.le_refl _, HO.out, HB0.out⟩
  · have HN : Hid (∀ j u, (sv ts)[j]? = some u → (w.alloc (.cells #[] 9)).cell? (ad.add j) = some u) := Lib.hid (by
      rcases hA.at_ with h0 | ⟨b, off, e, hb, hc⟩
      · intro j u hu
        have : ts = [] := List.eq_nil_of_length_eq_zero (by rw [hA.len, h0])
        subst this
        simp [sv] at hu
      · cases e
        exact sv_news hA.len (fun k hk => by rw [World.cell?_alloc_lt _ _ _ hb]; exact hc k hk))
    clear hA
    go_enter Try.func25, Try.ntmps25
    go_wp2_with (at_builtin; refine wpList_append_own _ rfl _ _ 24 rfl w.heap.size 9 i0 (.string ByteArray.empty) 1 16 Try.underlying24 hi hy0 hy1 hy2 rfl (by decide) _ _ _ rfl HO.out ad n c (sv ts) rfl (by simp [sv]; have := HL.out; omega) HN.out (svOne _) (by unfold maxLen; omega) (by omega) (by simp) ?_; intro v' w1 hown' hgrow hiff)
    have hv : v' ≠ .slice none 0 0 := fun e => by have := (hiff.1 e).1; cases this
    have HB1 := Lib.hid (HB0.out.grown hgrow HB0.out.size (fun j hj => (HO.out.lt j hj).1))
    obtain ⟨g, c', rfl, hc⟩ := rowForm hown' hv
    go_ret
    refine ⟨g, c', by rw [Nat.zero_add]; rfl, by omega, ?_, HB1.out⟩
    rw [Nat.zero_add] at hown'
    simpa using hown'

end Go.Proofs.Ytjghodfdejdjoaa
