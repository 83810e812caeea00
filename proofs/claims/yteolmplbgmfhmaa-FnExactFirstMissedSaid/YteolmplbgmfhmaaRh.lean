/- The codes that are not met in a text, and whether a text is a ring, as the program asks it. Whatever the library's own variable holds. -/
import Derived.Test.YteolmplbgmfhmaaRs
import Derived.Test.YteolmplbgmfhmaaIx
namespace Go.Proofs.Yteolmplbgmfhmaa
open Go.ChangeShapes Go.WideShapes Go.ChangeAt Go.RowKit Go.Joins

/-- The library's own variable holds some integer. -/
def Mx (w : World) : Prop := ∃ m, w.cell? ⟨0, 0, none⟩ = some (.int .i64 m)

theorem cell_lt {w : World} {p : Addr} {v : Value} (h : w.cell? p = some v) : p.block < w.heap.size := by
  unfold World.cell? at h
  by_cases e : p.block < w.heap.size
  · exact e
  · rw [Array.getElem?_eq_none (by omega)] at h
    simp at h

theorem Mx.lt {w : World} (h : Mx w) : 0 < w.heap.size := by
  obtain ⟨m, hm⟩ := h
  exact cell_lt hm

theorem Mx.below {B : Nat} {w w' : World} (h : Mx w) (hb : Below B w w') (hB : 0 < B) : Mx w' := by
  obtain ⟨m, hm⟩ := h
  exact ⟨m, by rw [hb.cell (p := ⟨0, 0, none⟩) hB]; exact hm⟩

theorem Mx.call {w w' : World} (h : Mx w) (hb : Below w.heap.size w w') : Mx w' := h.below hb h.lt

theorem contains_mx (s t : ByteArray) (w : World) (hs : s.size ≤ 2000) (hm : Mx w) :
    Calls Try.prog 73 #[.string s, .string t] w fun e w' => e = .returned (.bool (Lib.contains s.data.toList t.data.toList)) ∧ w' = w := by
  obtain ⟨m, hm⟩ := hm
  exact Try.strings_Contains s t m w (by omega) hm

theorem index_mx (s t : ByteArray) (w : World) (hs : s.size ≤ 2000) (hm : Mx w) :
    Calls Try.prog 64 #[.string s, .string t] w fun e w' => e = .returned (.int .i64 (Lib.index s.data.toList t.data.toList)) ∧ w' = w := by
  obtain ⟨m, hm⟩ := hm
  exact Try.strings_Index s t m w (by omega) hm

theorem around_any (n : Nat) (b : Int) (s : ByteArray) (w : World) (hg : goodB n b = true) (hs : s.size ≤ 1500) (hn : n ≤ s.size + 1) :
    Calls Try.prog 42 #[.agg #[.int .i64 n, .int .i64 b], .string s] w fun e w' => e = .returned (.string (arT n s)) ∧ Below w.heap.size w w' := by
  obtain ⟨h1, h6, h2, h10⟩ := good_yes hg
  obtain ⟨k, HK⟩ : ∃ k : Nat, Hid (n - 1 = k) := ⟨_, Lib.hid rfl⟩
  have hk : (n : Int) - 1 = (k : Int) := by have := HK.out; omega
  have hk1 : k ≤ s.size := by have := HK.out; omega
  have hadd : ∀ W : World, (Op.stringOp .add s (s.extract 0 k)).run Try.prog W = .ok (.string (arT n s)) W := fun W => by
    rw [run_string_add_sum _ _ _ (by rw [ByteArray.size_extract]; omega)]
    unfold arT
    rw [HK.out]
  go_enter Try.func42, Try.ntmps42
  go_wp2
  go_ret
  refine ⟨rfl, ?_⟩
  (repeat (first | assumption | exact Below.refl _ _ | (refine Below.alloc ?_ (by first | omega | (simp; done) | (simp; omega)) _) | (refine Below.setCell ?_ (by first | omega | (simp; done) | (simp; omega)) _) | refine bel_drewN ?_ _ | refine bel_drew ?_ | (refine bel_call ?_ (by assumption))))

theorem miss_snoc (a b : Int) (s : ByteArray) (k : Nat) : (List.range (k + 1)).filter (fun i => !metB a b s i) = (List.range k).filter (fun i => !metB a b s i) ++ if metB a b s k = true then [] else [k] := by
  rw [List.range_succ, List.filter_append]
  congr 1
  cases h : metB a b s k <;> simp [h]

theorem cd_ofZ {n : Nat} {b : Int} {i : Nat} (hg : goodB n b = true) (hi : i < cnN n b) : ofZ n b (i : Int) = cdN n b i := by
  have hcc := cnN_cast hg
  rw [Int.toNat_natCast] at hcc
  rw [ofZ_yes (by unfold hasNum inB; rw [hg, countZ_yes hg]; simp; omega)]
  rfl

theorem own_cap {w : World} {base : Nat} {e : TypeId} {size : Nat} {v : Value} {n : Nat} {xs : List Value} (h : w.ownsRow base e size v n xs) (A : Option Addr) (m c : Nat) (hv : v = .slice A m c) : n ≤ c := by
  rcases h.2 with ⟨e1, e2⟩ | ⟨g, cap, cur, e1, _, _, hle, _⟩
  · omega
  · rw [e1] at hv
    injection hv with _ _ h3
    omega

set_option maxRecDepth 100000 in
set_option maxHeartbeats 4000000 in
theorem missedIn_any (n : Nat) (b : Int) (s : ByteArray) (w : World) (h : riB n b = true) (hs : s.size ≤ 2000) (hm : Mx w) :
    Calls Try.prog 60 #[.agg #[.int .i64 n, .int .i64 b], .string s] w fun e w' => ∃ A c, e = .returned (.slice A (missL n b s).length c) ∧ OwnS w' w.heap.size A (missL n b s).length (missT n b s) ∧ (missL n b s).length ≤ c ∧ Below w.heap.size w w' := by
  obtain ⟨i0, hi, hz0, hz1, hz2⟩ := info_parts info_string
  have HG := Lib.hid (riB_good h)
  obtain ⟨h1, h6, h2, h10⟩ := good_yes (riB_good h)
  have hcn := cn_le h
  have hcc := cnN_cast (riB_good h)
  rw [Int.toNat_natCast] at hcc
  have HX : Hid (∀ i, i < cnN n b → ofZ n b (i : Int) = cdN n b i) := Lib.hid (fun i hi => cd_ofZ (riB_good h) hi)
  obtain ⟨C, hC⟩ : ∃ C, cnN n b = C := ⟨_, rfl⟩
  rw [hC] at hcn hcc HX
  have HC := Lib.hid hC
  have HCC := Lib.hid hcc
  have hml := hm.lt
  have HM := Lib.hid hm
  have HL : Hid (missL n b s = (List.range C).filter (fun i => !metB n b s i)) := Lib.hid (by unfold missL; rw [hC])
  clear h hC hcc hm
  go_enter Try.func60, Try.ntmps60
  go_wp2_with (go_at_call 59; refine (count_any _ _ _).mono ?_; rw [HG.out, countZ_yes HG.out, ← HCC.out]; rintro e w1 ⟨rfl, hb⟩; have z1 : w.heap.size < w1.heap.size := (by have := hb.size; simp at this; omega); have m0 : w1.cell? ⟨w.heap.size, 0, none⟩ = some (.int .i64 n) := (by rw [hb.cell (p := ⟨w.heap.size, 0, none⟩) (by simp)]; simp); have m1 : w1.cell? ⟨w.heap.size, 1, none⟩ = some (.int .i64 b) := (by rw [hb.cell (p := ⟨w.heap.size, 1, none⟩) (by simp)]; simp); have HB := Lib.hid (show Below w.heap.size w w1 from bel_call ((Below.refl _ _).alloc (Nat.le_refl _) _) hb); clear hb)
  go_loopw [7, 8, 17] (fun v u i wr => ∃ k : Nat, ∃ L : List Nat, k ≤ C ∧ i = .int .i64 k ∧ L = (List.range k).filter (fun i => !metB n b s i) ∧ wr.ownsRow (w.heap.size + 1) 9 1 v L.length (sv (L.map (cdN n b))) ∧ wr.cell? ⟨w.heap.size, 0, none⟩ = some (.int .i64 n) ∧ wr.cell? ⟨w.heap.size, 1, none⟩ = some (.int .i64 b) ∧ Below w.heap.size w wr ∧ w.heap.size < wr.heap.size) (fun _ _ i _ => C - (intOf i).toNat)
  case atStart => exact ⟨0, [], by omega, rfl, rfl, World.ownsRow_nil _ _ _ _, m0, m1, HB.out, z1⟩
  case round =>
    clear m0 m1 z1
    obtain ⟨k, L, hk, rfl, hL, hown, c0, c1, hB, hz⟩ := hrel
    have HLL := Lib.hid hL
    have hLC : L.length ≤ C := by
      rw [hL]
      have := List.length_filter_le (fun i => !metB n b s i) (List.range k)
      rw [List.length_range] at this
      omega
    have HOWN := Lib.hid hown
    clear hL hown
    by_cases hlt : k < C
    · have HXK := Lib.hid (HX.out k hlt)
      have HSN := Lib.hid (miss_snoc n b s k)
      have HMET : Hid (Lib.contains s.data.toList (cdN n b k).data.toList = metB n b s k) := Lib.hid rfl
      by_cases hmet : metB n b s k = true
      · have HME := Lib.hid hmet
        clear hmet
        have HNX : Hid (L = (List.range (k + 1)).filter (fun i => !metB n b s i)) := Lib.hid (by rw [HSN.out, if_pos HME.out, List.append_nil]; exact HLL.out)
        go_wp2_with (first | (go_at_call 72; refine (ofNumber_any _ _ _ _).mono ?_; rw [HXK.out]; rintro e w2 ⟨rfl, hb2⟩; have HB2 := Lib.hid (bel_call hB hb2); have HO2 := Lib.hid (own_keeps HOWN.out hb2); have p0 : w2.cell? ⟨w.heap.size, 0, none⟩ = some (.int .i64 n) := (by rw [hb2.cell (p := ⟨w.heap.size, 0, none⟩) hz]; exact c0); have p1 : w2.cell? ⟨w.heap.size, 1, none⟩ = some (.int .i64 b) := (by rw [hb2.cell (p := ⟨w.heap.size, 1, none⟩) hz]; exact c1); have z2 : w.heap.size < w2.heap.size := (by have := hb2.size; omega); clear hb2) | (go_at_call 73; refine (contains_mx _ _ _ hs (HM.out.below HB2.out hml)).mono ?_; rw [HMET.out, HME.out]; rintro e w3 ⟨rfl, rfl⟩))
        go_roundw
        case rel => exact ⟨k + 1, L, by omega, by go_num, HNX.out, HO2.out, p0, p1, HB2.out, z2⟩
        case measure => simp [intOf]; omega
      · have HME := Lib.hid (Bool.eq_false_iff.2 hmet)
        have HNX : Hid (L ++ [k] = (List.range (k + 1)).filter (fun i => !metB n b s i)) := Lib.hid (by rw [HSN.out, if_neg (by rw [HME.out]; decide), HLL.out])
        clear hmet
        go_wp2_with (first | (go_at_call 72; refine (ofNumber_any _ _ _ _).mono ?_; rw [HXK.out]; rintro e w2 ⟨rfl, hb2⟩; have HB2 := Lib.hid (bel_call hB hb2); have HO2 := Lib.hid (own_keeps HOWN.out hb2); have p0 : w2.cell? ⟨w.heap.size, 0, none⟩ = some (.int .i64 n) := (by rw [hb2.cell (p := ⟨w.heap.size, 0, none⟩) hz]; exact c0); have p1 : w2.cell? ⟨w.heap.size, 1, none⟩ = some (.int .i64 b) := (by rw [hb2.cell (p := ⟨w.heap.size, 1, none⟩) hz]; exact c1); have z2 : w.heap.size < w2.heap.size := (by have := hb2.size; omega); clear hb2) | (go_at_call 73; refine (contains_mx _ _ _ hs (HM.out.below HB2.out hml)).mono ?_; rw [HMET.out, HME.out]; rintro e w3 ⟨rfl, rfl⟩) | (at_builtin; refine wpList_append_own _ rfl _ _ 29 rfl (w.heap.size + 1) 9 i0 (.string ByteArray.empty) 1 16 Try.underlying29 hi hz0 hz1 hz2 rfl (by decide) _ _ _ rfl (HO2.out.alloc _) ⟨w3.heap.size, 0, none⟩ 1 1 [.string (cdN n b k)] rfl rfl (news_of rfl) (by simp [Value.oneCell']) (by unfold maxLen; omega) (by omega) (by simp; omega) ?_))
        intro v' w1 hown' hgrow _
        have e0 : (w3.alloc (.cells #[.string (cdN n b k)] 9)).cell? ⟨w.heap.size, 0, none⟩ = some (.int .i64 n) := by rw [World.cell?_alloc_lt _ _ _ z2]; exact p0
        have e1 : (w3.alloc (.cells #[.string (cdN n b k)] 9)).cell? ⟨w.heap.size, 1, none⟩ = some (.int .i64 b) := by rw [World.cell?_alloc_lt _ _ _ z2]; exact p1
        have hlo := HO2.out.lt
        have hB' : Below w.heap.size w w1 := (HB2.out.alloc HB2.out.size _).grown hgrow (by simp; omega) (fun j hj => by have := (hlo j hj).1; omega)
        have f0 : w1.cell? ⟨w.heap.size, 0, none⟩ = some (.int .i64 n) := hgrow.cell e0 (fun e => by have h' : w.heap.size + 1 ≤ w.heap.size := (hlo _ e.symm).1; omega)
        have f1 : w1.cell? ⟨w.heap.size, 1, none⟩ = some (.int .i64 b) := hgrow.cell e1 (fun e => by have h' : w.heap.size + 1 ≤ w.heap.size := (hlo _ e.symm).1; omega)
        have hz' : w.heap.size < w1.heap.size := by have := hgrow.size; simp at this; omega
        have HON : Hid (w1.ownsRow (w.heap.size + 1) 9 1 v' (L ++ [k]).length (sv ((L ++ [k]).map (cdN n b)))) := Lib.hid (by
          rw [List.length_append, List.map_append]
          show w1.ownsRow _ _ _ _ (L.length + 1) (sv (L.map (cdN n b) ++ [cdN n b k]))
          rw [sv_snoc]
          exact hown')
        clear hgrow hown' p0 p1 z2 e0 e1 hlo
        go_wp2
        go_roundw
        case rel => exact ⟨k + 1, L ++ [k], by omega, by go_num, HNX.out, HON.out, f0, f1, hB', hz'⟩
        case measure => simp [intOf]; omega
    · obtain rfl : k = C := by omega
      have HLE : Hid (missL n b s = L) := Lib.hid (by rw [HL.out, HLL.out])
      go_wp2
      go_ret
      have hown := HOWN.out
      have HCAP := Lib.hid (own_cap hown)
      obtain ⟨A, c, rfl, hO⟩ := own_strs (ts := L.map (cdN n b)) hown (by omega)
      have hcap := HCAP.out _ _ _ rfl
      unfold missT
      rw [HLE.out]
      first | exact ⟨A, c, rfl, hO.base (by omega), hcap, hB⟩ | exact ⟨A, ⟨c, rfl⟩, hO.base (by omega), hcap, hB⟩

end Go.Proofs.Yteolmplbgmfhmaa
