/- The least ring and the text that opens all codes: both programs' answers. No conditions. -/
import Derived.Test.YteolmplbgmfhmaaDoorRx
namespace Go.Proofs.YteolmplbgmfhmaaDoor
open Go.ChangeShapes Go.WideShapes Go.ChangeAt Go.RowKit Go.Joins

set_option maxHeartbeats 1000000 in
theorem specLeastWords_any (a b : Int) (w : World) :
    Calls Tryd.prog 18 #[.agg #[.int .i64 a, .int .i64 b]] w fun e w' => ∃ A c, e = .returned (.tuple #[.slice A (lwL a b).length c, .bool (riB a b)]) ∧ OwnS w' w.heap.size A (lwL a b).length (lwL a b) ∧ Below w.heap.size w w' := by
  by_cases hg : riB a b = true
  · have HG := Lib.hid hg
    obtain ⟨n, rfl⟩ : ∃ n : Nat, a = n := ⟨a.toNat, by have := good_yes (riB_good hg); omega⟩
    clear hg
    go_enter Tryd.func18, Tryd.ntmps18
    go_wp2_with (first | (go_at_call 25; refine (riGood_any _ _ _).mono ?_; rw [HG.out]; rintro e w1 ⟨rfl, hb⟩; obtain ⟨hc, hf, hz⟩ := bcell hb; have hz0 : w.heap.size < w1.heap.size := by (try simp at hz); omega) | (go_at_call 39; refine (riWords_any _ _ _ HG.out).mono ?_; rintro e w2 ⟨A, c, rfl, hO, hb2⟩))
    go_ret2
    rw [HG.out]
    refine ⟨A, c, rfl, hO.base (by omega), ?_⟩
    (repeat (first | assumption | exact Below.refl _ _ | (refine Below.alloc ?_ (by first | omega | (simp; done) | (simp; omega)) _) | (refine Below.setCell ?_ (by first | omega | (simp; done) | (simp; omega)) _) | refine bel_drewN ?_ _ | refine bel_drew ?_ | (refine bel_call ?_ (by assumption))))
  · have HG := Lib.hid (Bool.eq_false_iff.2 hg)
    clear hg
    go_enter Tryd.func18, Tryd.ntmps18
    go_wp2_with (go_at_call 25; refine (riGood_any _ _ _).mono ?_; rw [HG.out]; rintro e w1 ⟨rfl, hb⟩; obtain ⟨hc, hf, hz⟩ := bcell hb; have hz0 : w.heap.size < w1.heap.size := by (try simp at hz); omega)
    go_ret2
    rw [HG.out, lwL_no HG.out]
    refine ⟨none, 0, rfl, ⟨rfl, by decide, .inl rfl⟩, ?_⟩
    (repeat (first | assumption | exact Below.refl _ _ | (refine Below.alloc ?_ (by first | omega | (simp; done) | (simp; omega)) _) | (refine Below.setCell ?_ (by first | omega | (simp; done) | (simp; omega)) _) | refine bel_drewN ?_ _ | refine bel_drew ?_ | (refine bel_call ?_ (by assumption))))

theorem leastWordsR_any (a b : Int) (w : World) :
    Calls Tryd.prog 19 #[.agg #[.int .i64 a, .int .i64 b]] w fun e w' => ∃ A c, e = .returned (.tuple #[.slice A (lwL a b).length c, .bool (riB a b)]) ∧ OwnS w' w.heap.size A (lwL a b).length (lwL a b) ∧ Below w.heap.size w w' :=
  (leastWords_any a b w).mono fun _ _ ⟨A, c, he, hO, _, hb⟩ => ⟨A, c, he, hO, hb⟩

/-- The least ring, as a text. -/
def lrT (a b : Int) : ByteArray := if riB a b then textOf (ringW b a.toNat) else ⟨#[]⟩

theorem lrT_yes {n : Nat} {b : Int} (h : riB n b = true) : lrT n b = textOf (ringW b n) := by unfold lrT; rw [h]; rfl

theorem lrT_no {a b : Int} (h : riB a b = false) : lrT a b = ⟨#[]⟩ := by unfold lrT; rw [h]; rfl

theorem lw_at {n : Nat} {b : Int} {k : Nat} (hk : k < (keepW b n).length) : ((keepW b n).map textOf).getD k ByteArray.empty = textOf ((keepW b n).getD k []) := by
  simp [List.getD, List.getElem?_eq_getElem hk]

theorem flat_snoc {L : List (List Int)} {k : Nat} (hk : k < L.length) : (L.take (k + 1)).flatten = (L.take k).flatten ++ L.getD k [] := by
  rw [List.take_succ_eq_append_getElem hk, List.flatten_append]
  simp [List.getD, List.getElem?_eq_getElem hk]

theorem flat_take_le (L : List (List Int)) (k : Nat) : (L.take k).flatten.length ≤ L.flatten.length := by
  have h : (L.take k).flatten ++ (L.drop k).flatten = L.flatten := by rw [← List.flatten_append, List.take_append_drop]
  rw [← h, List.length_append]
  omega

set_option maxHeartbeats 2000000 in
theorem riLeast_any (n : Nat) (b : Int) (w : World) (h : riB n b = true) :
    Calls Tryd.prog 26 #[.agg #[.int .i64 n, .int .i64 b]] w fun e w' => e = .returned (.string (textOf (ringW b n))) ∧ Below w.heap.size w w' := by
  have HH := Lib.hid h
  have HL := Lib.hid (lwL_yes h)
  have HRL := Lib.hid (ringW_length h)
  have hp := riB_pw h
  have hkl := keep_length h
  obtain ⟨N, hN⟩ : ∃ N, (lwL n b).length = N := ⟨_, rfl⟩
  have hNk : N = (keepW b n).length := by rw [← hN, HL.out, List.length_map]
  have HN := Lib.hid hN
  have HNK := Lib.hid hNk
  have hN9 : N ≤ 1000 := by omega
  clear h hN hNk
  go_enter Tryd.func26, Tryd.ntmps26
  go_wp2_with (go_at_call 39; refine (riWords_any _ _ _ HH.out).mono ?_; rw [HN.out]; rintro e w1 ⟨A, c, rfl, hO, hb⟩; have HO := Lib.hid hO; have HB := Lib.hid (show Below w.heap.size w w1 from by (repeat (first | assumption | exact Below.refl _ _ | (refine Below.alloc ?_ (by first | omega | (simp; done) | (simp; omega)) _) | (refine Below.setCell ?_ (by first | omega | (simp; done) | (simp; omega)) _) | refine bel_drewN ?_ _ | refine bel_drew ?_ | (refine bel_call ?_ (by assumption))))); clear hO hb)
  go_loopw [3, 12] (fun v i wr => ∃ k : Nat, k ≤ N ∧ i = .int .i64 k ∧ v = .string (textOf ((keepW b n).take k).flatten) ∧ OwnS wr 0 A N (lwL n b) ∧ Below w.heap.size w wr) (fun _ i _ => N - (intOf i).toNat)
  case atStart => exact ⟨0, by omega, rfl, rfl, HO.out.base (Nat.zero_le _), HB.out⟩
  case round =>
    obtain ⟨k, hk, rfl, rfl, hO, hB⟩ := hrel
    have HO2 := Lib.hid hO
    clear hO
    by_cases hlt : k < N
    · obtain ⟨g, rfl, _, hC⟩ := HO2.out.lt hlt
      have hc := hC.cell hlt
      have hlk : k < (keepW b n).length := by have := HNK.out; omega
      unfold strF at hc
      rw [HL.out, lw_at hlk] at hc
      have hadd : ∀ W : World, (Op.stringOp .add (textOf ((keepW b n).take k).flatten) (textOf ((keepW b n).getD k []))).run Tryd.prog W = .ok (.string (textOf ((keepW b n).take (k + 1)).flatten)) W := fun W => by
        have h1 := flat_take_le (keepW b n) (k + 1)
        rw [flat_snoc hlk, List.length_append] at h1
        have h2 := HRL.out
        unfold ringW at h2
        rw [run_string_add_sum _ _ _ (by rw [textOf_size, textOf_size]; omega), ← textOf_append, ← flat_snoc hlk]
      generalize (keepW b n).getD k [] = y at hc hadd
      clear hC hlk
      go_wp2
      go_roundw
      case rel => exact ⟨k + 1, by omega, by go_num, rfl, HO2.out, hB⟩
      case measure => simp [intOf]; omega
    · have HF : Hid (textOf ((keepW b n).take k).flatten = textOf (ringW b n)) := Lib.hid (by
        rw [List.take_of_length_le (by have := HNK.out; omega)]
        rfl)
      go_wp2
      go_ret
      exact ⟨ret_str HF.out, hB⟩

theorem specLeastRing_any (a b : Int) (w : World) :
    Calls Tryd.prog 9 #[.agg #[.int .i64 a, .int .i64 b]] w fun e w' => e = .returned (.tuple #[.string (lrT a b), .bool (riB a b)]) ∧ Below w.heap.size w w' := by
  by_cases hg : riB a b = true
  · have HG := Lib.hid hg
    obtain ⟨n, rfl⟩ : ∃ n : Nat, a = n := ⟨a.toNat, by have := good_yes (riB_good hg); omega⟩
    clear hg
    go_enter Tryd.func9, Tryd.ntmps9
    go_wp2_with (first | (go_at_call 25; refine (riGood_any _ _ _).mono ?_; rw [HG.out]; rintro e w1 ⟨rfl, hb⟩; obtain ⟨hc, hf, hz⟩ := bcell hb; have hz0 : w.heap.size < w1.heap.size := by (try simp at hz); omega) | (go_at_call 26; refine (riLeast_any _ _ _ HG.out).mono ?_; rintro e w1 ⟨rfl, hb⟩; obtain ⟨hc, hf, hz⟩ := bcell hb; have hz0 : w.heap.size < w1.heap.size := by (try simp at hz); omega))
    go_ret2
    refine ⟨by rw [HG.out, lrT_yes HG.out]; rfl, ?_⟩
    (repeat (first | assumption | exact Below.refl _ _ | (refine Below.alloc ?_ (by first | omega | (simp; done) | (simp; omega)) _) | (refine Below.setCell ?_ (by first | omega | (simp; done) | (simp; omega)) _) | refine bel_drewN ?_ _ | refine bel_drew ?_ | (refine bel_call ?_ (by assumption))))
  · have HG := Lib.hid (Bool.eq_false_iff.2 hg)
    clear hg
    go_enter Tryd.func9, Tryd.ntmps9
    go_wp2_with (go_at_call 25; refine (riGood_any _ _ _).mono ?_; rw [HG.out]; rintro e w1 ⟨rfl, hb⟩; obtain ⟨hc, hf, hz⟩ := bcell hb; have hz0 : w.heap.size < w1.heap.size := by (try simp at hz); omega)
    go_ret2
    refine ⟨by rw [HG.out, lrT_no HG.out]; rfl, ?_⟩
    (repeat (first | assumption | exact Below.refl _ _ | (refine Below.alloc ?_ (by first | omega | (simp; done) | (simp; omega)) _) | (refine Below.setCell ?_ (by first | omega | (simp; done) | (simp; omega)) _) | refine bel_drewN ?_ _ | refine bel_drew ?_ | (refine bel_call ?_ (by assumption))))

theorem join_flat (L : List (List Int)) : (⟨(Lib.join ((L.map textOf).map (·.data.toList)) []).toArray⟩ : ByteArray) = textOf L.flatten := by
  refine bytes_ext ?_
  rw [textOf_list]
  show Lib.join _ _ = _
  rw [List.map_map]
  cases L with
  | nil => rfl
  | cons x L =>
    rw [List.map_cons, Lib.join_cons]
    unfold Lib.joinTail
    rw [List.flatten_cons, List.map_append, List.map_flatten, List.map_map]
    congr 1
    · exact textOf_list x
    · congr 1
      refine List.map_congr_left fun y _ => ?_
      show [] ++ (textOf y).data.toList = _
      rw [List.nil_append, textOf_list]

theorem keep_ne {n : Nat} {b : Int} (h : riB n b = true) : 0 < (keepW b n).length := by
  have h1 := ringW_length h
  have h2 := cn_ge (riB_good h)
  unfold cnN at h2
  rw [Int.toNat_natCast] at h2
  unfold ringW at h1
  cases hk : keepW b n with
  | nil => rw [hk] at h1; simp at h1; omega
  | cons x L => simp

set_option maxHeartbeats 2000000 in
theorem leastRing_any (a b : Int) (w : World) :
    Calls Tryd.prog 11 #[.agg #[.int .i64 a, .int .i64 b]] w fun e w' => e = .returned (.tuple #[.string (lrT a b), .bool (riB a b)]) ∧ Below w.heap.size w w' := by
  by_cases hg : riB a b = true
  · have HG := Lib.hid hg
    obtain ⟨n, rfl⟩ : ∃ n : Nat, a = n := ⟨a.toNat, by have := good_yes (riB_good hg); omega⟩
    have HL := Lib.hid (lwL_yes hg)
    have HLR := Lib.hid (lrT_yes hg)
    have hkl := keep_length hg
    have hk0 := keep_ne hg
    have HRL := Lib.hid (ringW_length hg)
    have HPW := Lib.hid (riB_pw hg)
    have HJ := Lib.hid (join_flat (keepW b n))
    have HLN : Hid ((lwL n b).length = (keepW b n).length) := Lib.hid (by rw [HL.out, List.length_map])
    have HJL : Hid ((Lib.join (((keepW b n).map textOf).map (·.data.toList)) (⟨#[]⟩ : ByteArray).data.toList).length ≤ 140737488355328) := Lib.hid (by
      have h1 := congrArg ByteArray.size (join_flat (keepW b n))
      rw [textOf_size] at h1
      have h2 := HRL.out
      unfold ringW at h2
      have h3 : (Lib.join (((keepW b n).map textOf).map (·.data.toList)) []).toArray.size = (keepW b n).flatten.length := h1
      rw [List.size_toArray] at h3
      have := HPW.out
      show (Lib.join (((keepW b n).map textOf).map (·.data.toList)) []).length ≤ _
      omega)
    clear hg
    go_enter Tryd.func11, Tryd.ntmps11
    go_wp2_with (first | (go_at_call 19; refine (leastWords_any _ _ _).mono ?_; intro e w1 hLW; obtain ⟨A, c, rfl, hO, hcap, hb⟩ := hLW; rw [HL.out, List.length_map] at hO; rw [HLN.out] at hcap; rw [HLN.out, HG.out]; obtain ⟨g, rfl, _, hC⟩ := hO.lt hk0; have HC := Lib.hid hC; have HB := Lib.hid (show Below w.heap.size w w1 from by (repeat (first | assumption | exact Below.refl _ _ | (refine Below.alloc ?_ (by first | omega | (simp; done) | (simp; omega)) _) | (refine Below.setCell ?_ (by first | omega | (simp; done) | (simp; omega)) _) | refine bel_drewN ?_ _ | refine bel_drew ?_ | (refine bel_call ?_ (by assumption))))); have hgl := hC.lt; clear hO hC hb) | (go_at_call 27; refine (show Calls Tryd.prog 27 #[.slice (some ⟨g, 0, none⟩) (keepW b n).length c, .string ⟨#[]⟩] w1 fun e w' => e = .returned (.string (textOf (ringW b n))) ∧ Below w1.heap.size w1 w' from (by have h := Tryd.strings_Join g 0 c ((keepW b n).map textOf) ⟨#[]⟩ w1 (fun j x hx => by rw [Nat.zero_add]; obtain ⟨hj, ex⟩ := List.getElem?_eq_some_iff.1 hx; have hj' : j < (keepW b n).length := (by rw [List.length_map] at hj; exact hj); rw [HC.out.cell hj']; unfold strF; rw [List.getD, hx]; rfl) hgl (by rw [List.length_map]; omega) (by rw [List.length_map]; exact hcap) HJL.out; rw [List.length_map] at h; have hj : (⟨(Lib.join (((keepW b n).map textOf).map (·.data.toList)) (⟨#[]⟩ : ByteArray).data.toList).toArray⟩ : ByteArray) = textOf (ringW b n) := HJ.out; rw [hj] at h; exact h)).mono ?_; rintro e w2 ⟨rfl, hb2⟩; have HB2 := Lib.hid (bel_call HB.out hb2)))
    go_ret2
    exact ⟨by rw [HG.out, HLR.out]; rfl, HB2.out⟩
  · have HG := Lib.hid (Bool.eq_false_iff.2 hg)
    have HL := Lib.hid (lwL_no HG.out)
    clear hg
    go_enter Tryd.func11, Tryd.ntmps11
    go_wp2_with (first | (go_at_call 19; refine (leastWords_any _ _ _).mono ?_; intro e w1 hLW; obtain ⟨A, c, rfl, _, _, hb⟩ := hLW; rw [HL.out, HG.out]; have HB := Lib.hid (show Below w.heap.size w w1 from by (repeat (first | assumption | exact Below.refl _ _ | (refine Below.alloc ?_ (by first | omega | (simp; done) | (simp; omega)) _) | (refine Below.setCell ?_ (by first | omega | (simp; done) | (simp; omega)) _) | refine bel_drewN ?_ _ | refine bel_drew ?_ | (refine bel_call ?_ (by assumption))))); clear hb) | (go_at_call 27; refine (Tryd.strings_Join_none A c ⟨#[]⟩ _).mono ?_; rintro e w2 ⟨rfl, rfl⟩))
    go_ret2
    exact ⟨by rw [HG.out, lrT_no HG.out]; rfl, HB.out⟩

end Go.Proofs.YteolmplbgmfhmaaDoor
