/- Which gears a text names. No conditions. -/
import Derived.Test.YtealpmjkmioocaaDoorPgG
namespace Go.Proofs.YtealpmjkmioocaaDoor

/-- The part ahead of the first colon, the parts behind it, and the knobs that they write. -/
def pgH (s : ByteArray) : ByteArray := (spA 58 s).headD ByteArray.empty
def pgP (s : ByteArray) : List ByteArray := (spA 58 s).tail
def pgK (s : ByteArray) : List (List Int) := (pgP s).map dgA

/-- Whether a text is the text of gears. -/
def pgB (s : ByteArray) : Bool := lkS (pgH s) && gearsB (lkW (pgH s)) (lkD (pgH s)) (pgK s)

theorem spA_cons (s : ByteArray) : spA 58 s = pgH s :: pgP s := by
  unfold pgH pgP
  have : spA 58 s ≠ [] := by unfold spA; simp
  cases h : spA 58 s with
  | nil => exact absurd h this
  | cons p ps => rfl

theorem bytes_ext {x y : ByteArray} (h : x.data.toList = y.data.toList) : x = y := by
  cases x; cases y; simp only [ByteArray.mk.injEq]; exact Array.toList_inj.1 h

theorem map_ext : ∀ (xs ys : List ByteArray), xs.map (fun p => p.data.toList) = ys.map (fun p => p.data.toList) → xs = ys
  | [], [], _ => rfl
  | [], _ :: _, h => by simp at h
  | _ :: _, [], h => by simp at h
  | x :: xs, y :: ys, h => by
    rw [List.map_cons, List.map_cons] at h
    obtain ⟨h1, h2⟩ := List.cons.inj h
    rw [bytes_ext h1, map_ext xs ys h2]

theorem pgB_yes {s : ByteArray} (h : pgB s = true) : lkS (pgH s) = true ∧ gearsB (lkW (pgH s)) (lkD (pgH s)) (pgK s) = true := by
  unfold pgB at h
  rw [Bool.and_eq_true] at h
  exact h

theorem knobs_digits {a b : Int} {ks : List (List Int)} (h : gearsB a b ks = true) : ∀ y ∈ ks, Digits y := by
  intro y hy
  have hg := good_yes (gearsB_yes h).1
  obtain ⟨j, hj, rfl⟩ := List.getElem_of_mem hy
  have h1 := (gearsB_yes h).2.2.2.2 j hj
  rw [List.getD, List.getElem?_eq_getElem hj] at h1
  exact knob_dg h1 hg.2.2.2

/-- The text is put together again out of what was read. -/
theorem pg_text {s : ByteArray} (h : pgB s = true) : gtU (lkW (pgH s)) (lkD (pgH s)) (pgK s) (pgK s).length = s := by
  obtain ⟨h1, h2⟩ := pgB_yes h
  have hd := knobs_digits h2
  apply bytes_ext
  rw [gtU_jn _ _ _ _ (Nat.le_refl _)]
  have e : gtP (lkW (pgH s)) (lkD (pgH s)) (pgK s) (pgK s).length = (spA 58 s).map (fun p => p.data.toList) := by
    unfold gtP
    rw [(lkS_yes h1).2, List.take_length, spA_cons, List.map_cons]
    congr 1
    unfold pgK
    rw [List.map_map]
    refine List.map_congr_left fun p hp => ?_
    have h3 : Digits (dgA p) := hd _ (List.mem_map_of_mem hp)
    show (textOf (dgA p)).data.toList = p.data.toList
    rw [textOf_dgA h3]
  rw [e, spA_spl, jn_spl]

theorem digit_no {ds : List Int} (h : Digits ds) : (58 : UInt8) ∉ (textOf ds).data.toList := by
  intro hm
  unfold textOf at hm
  rw [strOfNums_data, List.map_map] at hm
  obtain ⟨d, hd, he⟩ := List.mem_map.1 hm
  obtain ⟨j, hj, rfl⟩ := List.getElem_of_mem hd
  have h1 := h j hj
  simp only [List.getD, List.getElem?_eq_getElem hj, Option.getD_some] at h1
  have h2 : (UInt8.ofNat (48 + ds[j]).toNat).toNat = 58 := by
    have := congrArg UInt8.toNat he
    exact this
  rw [UInt8.toNat_ofNat'] at h2
  omega

theorem dgA_text {ds : List Int} (h : Digits ds) : dgA (textOf ds) = ds := by
  unfold dgA textOf
  rw [strOfNums_data, List.map_map, List.map_map]
  refine (List.map_congr_left (fun d hd => ?_)).trans (List.map_id ds)
  obtain ⟨j, hj, rfl⟩ := List.getElem_of_mem hd
  have := h j hj
  simp only [List.getD, List.getElem?_eq_getElem hj, Option.getD_some] at this
  show IntKind.u8.wrap (((UInt8.ofNat (48 + ds[j]).toNat).toNat : Int) - 48) = ds[j]
  rw [UInt8.toNat_ofNat', IntKind.wrap_u8]
  omega

theorem numB_no {n : Int} (h0 : 0 ≤ n) (h10 : n ≤ 10) (c : UInt8) (hc : 58 ≤ c.toNat) : c ∉ (numB n).data.toList := by
  intro hm
  obtain ⟨j, hj, he⟩ := List.getElem_of_mem hm
  have h1 := (numB_is h0 h10 rfl).2.2.2.1 j hj
  rw [List.getD, List.getElem?_eq_getElem hj] at h1
  rw [show ((some (numB n).data.toList[j]).getD 0) = c from he] at h1
  omega

theorem lkB_no {a b : Int} (h : goodB a b = true) : (58 : UInt8) ∉ (lkB a b).data.toList := by
  have hg := good_yes h
  rw [lkB_list]
  intro hm
  rcases List.mem_append.1 hm with hm | hm
  · exact numB_no (by omega) (by omega) 58 (by decide) hm
  · rcases List.mem_cons.1 hm with hm | hm
    · exact absurd hm (by decide)
    · exact numB_no (by omega) (by omega) 58 (by decide) hm

/-- The text of gears names these gears. -/
theorem pg_of {a b : Int} {ks : List (List Int)} {s : ByteArray} (hg : gearsB a b ks = true) (hs : gtU a b ks ks.length = s) :
    pgB s = true ∧ lkW (pgH s) = a ∧ lkD (pgH s) = b ∧ pgK s = ks := by
  have hgd := (gearsB_yes hg).1
  have hd := knobs_digits hg
  have e : (spA 58 s).map (fun p => p.data.toList) = gtP a b ks ks.length := by
    rw [spA_spl, ← hs, gtU_jn _ _ _ _ (Nat.le_refl _)]
    refine spl_jn 58 _ (by unfold gtP; simp) fun p hp => ?_
    unfold gtP at hp
    rcases List.mem_cons.1 hp with rfl | hp
    · exact lkB_no hgd
    · rw [List.take_length] at hp
      obtain ⟨y, hy, rfl⟩ := List.mem_map.1 hp
      exact digit_no (hd y hy)
  rw [spA_cons, List.map_cons] at e
  unfold gtP at e
  rw [List.take_length] at e
  obtain ⟨e1, e2⟩ := List.cons.inj e
  have hH : pgH s = lkB a b := bytes_ext e1
  have hP : pgP s = ks.map textOf := by
    refine map_ext _ _ ?_
    show (pgP s).map (fun p => p.data.toList) = (ks.map textOf).map (fun p => p.data.toList)
    rw [e2, List.map_map]
    rfl
  have hK : pgK s = ks := by
    unfold pgK
    rw [hP, List.map_map]
    refine (List.map_congr_left (fun y hy => ?_)).trans (List.map_id ks)
    exact dgA_text (hd y hy)
  obtain ⟨l1, l2⟩ := lk_of hgd
  rw [← hH] at l1 l2
  refine ⟨?_, l1, l2, hK⟩
  unfold pgB
  rw [l1, l2, hK, hg, hH, lkS_of hgd]
  rfl

end Go.Proofs.YtealpmjkmioocaaDoor
