/- How many numbers the parts of a text give. No conditions. -/
import Derived.Test.YtealpmjkmioocaaDoorPgB
import Derived.Test.YtealpmjkmioocaaDoorPgV
namespace Go.Proofs.YtealpmjkmioocaaDoor

theorem jn_len (b : UInt8) : ∀ (ps : List (List UInt8)) (p : List UInt8), (jn b (p :: ps)).length = p.length + (ps.map fun q => q.length + 1).sum
  | [], p => by simp [jn]
  | q :: ps, p => by
    have ih := jn_len b ps q
    show (p ++ b :: jn b (q :: ps)).length = _
    rw [List.length_append, List.length_cons, ih, List.map_cons, List.sum_cons]
    omega

theorem dgs_len : ∀ ps : List ByteArray, (ps.map dgA).length + lensAt (ps.map dgA) (ps.map dgA).length = ((ps.map fun p => p.data.toList).map fun q => q.length + 1).sum
  | [] => rfl
  | p :: ps => by
    have ih := dgs_len ps
    have hp : p.data.toList.length = p.size := rfl
    rw [List.map_cons, List.length_cons, lensAt_cons, dgA_length, List.map_cons, List.map_cons, List.sum_cons, ← ih, hp]
    omega

theorem pgK_size (s : ByteArray) : (pgK s).length + lensAt (pgK s) (pgK s).length ≤ s.size := by
  have h1 := congrArg List.length (jn_spl 58 s.data.toList)
  rw [← spA_spl, spA_cons, List.map_cons, jn_len] at h1
  have h2 := dgs_len (pgP s)
  have h3 : s.data.toList.length = s.size := rfl
  show ((pgP s).map dgA).length + lensAt ((pgP s).map dgA) ((pgP s).map dgA).length ≤ _
  omega

theorem pgK_length (s : ByteArray) : (pgK s).length + 1 = (spA 58 s).length := by
  rw [spA_cons, List.length_cons]
  unfold pgK
  rw [List.length_map]

theorem pgH_size (s : ByteArray) : (pgH s).size ≤ s.size := by
  have h1 := congrArg List.length (jn_spl 58 s.data.toList)
  rw [← spA_spl, spA_cons, List.map_cons, jn_len] at h1
  have h2 : (pgH s).data.toList.length = (pgH s).size := rfl
  have h3 : s.data.toList.length = s.size := rfl
  omega

theorem pgP_size (s : ByteArray) (k : Nat) (hk : k < (pgK s).length) : ((pgP s).getD k ByteArray.empty).size ≤ s.size ∧ (pgK s).getD k [] = dgA ((pgP s).getD k ByteArray.empty) := by
  have hl : k < (pgP s).length := by unfold pgK at hk; rwa [List.length_map] at hk
  have e : (pgK s).getD k [] = dgA ((pgP s).getD k ByteArray.empty) := by
    unfold pgK
    simp [List.getD, hl]
  have h1 := lensAt_one (ks := pgK s) hk
  have h2 := pgK_size s
  rw [e, dgA_length] at h1
  exact ⟨by omega, e⟩

theorem spA_at (s : ByteArray) (k : Nat) : (spA 58 s).getD (1 + k) ByteArray.empty = (pgP s).getD k ByteArray.empty := by
  rw [spA_cons, Nat.add_comm]
  rfl

theorem spA_zero (s : ByteArray) : (spA 58 s).getD 0 ByteArray.empty = pgH s := by
  rw [spA_cons]
  rfl

/-- The gears' lists are not empty. -/
theorem gears_pos {a b : Int} {ks : List (List Int)} (h : gearsB a b ks = true) : ∀ i, i < ks.length → 0 < (ks.getD i []).length := by
  intro i hi
  have hg := good_yes (gearsB_yes h).1
  have h1 := (knobB_yes ((gearsB_yes h).2.2.2.2 i hi)).1
  omega

end Go.Proofs.YtealpmjkmioocaaDoor
