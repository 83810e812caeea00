/- How many codes are reached, and how many classes there are, as both programs tell it. For texts that are no longer than any may be. -/
import Derived.Test.YtkmgmlgjflnbeaaArr
import Derived.Test.YtkmgmlgjflnbeaaAreI
namespace Go.Proofs.Ytkmgmlgjflnbeaa
open Go.ChangeShapes Go.WideShapes Go.ChangeAt Go.RowKit Go.Joins

theorem gears_knobs {a b : Int} {ks : List (List Int)} (h : gearsB a b ks = true) : KnobsB a b ks := fun k hk => (gearsB_yes h).2.2.2.2 k hk

theorem gears_cnt {a b : Int} {ks : List (List Int)} (h : gearsB a b ks = true) : cntN a b ≤ 1000 ∧ (cntN a b : Int) = pw b a.toNat := by
  have h1 := gearsB_yes h
  have h2 := good_yes h1.1
  have h3 := pw_bd6 h2.2.2.1 h2.2.2.2 (k := a.toNat) (by omega)
  unfold cntN
  have := h1.2.1
  omega

/-- The map of all that is reached. -/
def AllOut (w : World) (a b : Int) (ks : List (List Int)) (s : ByteArray) (e : Ending) (w' : World) : Prop :=
  ∃ B, e = .returned (.map (some B)) ∧ w.heap.size ≤ B ∧ MapS w' B (allL a b ks s) ∧ Below w.heap.size w w'

theorem allArrivals_any (a b : Int) (s : ByteArray) (A : Option Addr) (n c : Nat) (ks : List (List Int)) (w : World) (hn : n ≤ 1000) (hA : KnobsC w A n ks) (hs : askB a b s = true) (hk : KnobsB a b ks) (hM : cntN a b ≤ 1000) :
    Calls Try.prog 19 #[.agg #[.int .i64 a, .int .i64 b, .slice A n c], .string s] w (AllOut w a b ks s) := by
  have HA := Lib.hid hA
  have HS := Lib.hid hs
  have HK := Lib.hid hk
  have HB0 := Lib.hid (show Below w.heap.size w (w.alloc (.cells #[.int .i64 a, .int .i64 b, .slice A n c] 33)) from (Below.refl _ _).alloc (Nat.le_refl _) _)
  clear hA hs hk
  go_enter Try.func19, Try.ntmps19
  go_wp2_with (go_at_call 33; refine (arrivals_any _ _ _ _ _ _ _ ks _ hn (HA.out.below HB0.out) HS.out HK.out hM).mono ?_; rintro e w1 ⟨B, L, rfl, hB, hm, hp, hl, hb1⟩)
  go_ret
  have hL : L = allL a b ks s := by
    rcases hl with h | h
    · exact h
    · exfalso
      have h2 : (⟨#[]⟩ : ByteArray) ∈ keysE (allL a b ks s) := by
        obtain ⟨e, he, hc⟩ := mem_keysE.1 h
        exact mem_keysE.2 ⟨e, hp.subset he, hc⟩
      obtain ⟨e, he, hc⟩ := mem_keysE.1 h2
      have := (asked (allL_ask HK.out HS.out e he)).n1
      rw [hc] at this
      exact absurd this (by decide)
  subst hL
  exact ⟨B, rfl, by rw [World.size_alloc] at hB; omega, hm, bel_call HB0.out hb1⟩

/-- How many numbers are at least 0. -/
def cntF (f : Nat → Int) (n : Nat) : Nat := ((List.range n).filter fun i => decide (0 ≤ f i)).length

theorem cntF_succ (f : Nat → Int) (n : Nat) : cntF f (n + 1) = cntF f n + if 0 ≤ f n then 1 else 0 := by
  unfold cntF
  rw [List.range_succ, List.filter_append, List.length_append]
  congr 1
  by_cases h : 0 ≤ f n
  · rw [if_pos h]; simp [h]
  · rw [if_neg h]; simp [h]

theorem cntF_le (f : Nat → Int) (n : Nat) : cntF f n ≤ n := by
  unfold cntF
  exact Nat.le_trans (List.length_filter_le _ _) (by simp)

theorem cntF_all {a b : Int} {L : List (Ent ByteArray)} (hn : (keysE L).Nodup) (ha : AskL a b L) : cntF (farV a b L) (cntN a b) = L.length := by
  have h1 : (L.map fun e => nmN a b e.code).Nodup := by
    unfold keysE at hn
    rw [List.Nodup, List.pairwise_map] at hn ⊢
    exact List.Pairwise.imp_of_mem (fun {x y} hx hy hne e => hne (nmN_inj (ha x hx) (ha y hy) e)) hn
  have h2 : ((List.range (cntN a b)).filter fun i => decide (0 ≤ farV a b L i)).Nodup := List.nodup_range.filter _
  have h3 := (List.perm_ext_iff_of_nodup h2 h1).2 fun i => by
    simp only [List.mem_filter, List.mem_range, decide_eq_true_eq, List.mem_map]
    constructor
    · rintro ⟨_, h⟩
      unfold farV at h
      rcases hf : L.find? (fun e => nmN a b e.code == i) with _ | e
      · rw [hf] at h; simp at h
      · have := List.find?_some hf
        exact ⟨e, List.mem_of_find?_eq_some hf, by simpa using this⟩
    · rintro ⟨e, he, rfl⟩
      exact ⟨nmN_lt (ha e he), by rw [farV_mem hn ha he]; omega⟩
  unfold cntF
  rw [h3.length_eq, List.length_map]

theorem cntF_allL {a b : Int} {ks : List (List Int)} {s : ByteArray} (hk : KnobsB a b ks) (hs : askB a b s = true) : cntF (farV a b (allL a b ks s)) (cntN a b) = (allL a b ks s).length :=
  cntF_all (allL_all hk hs).nodup (allL_ask hk hs)

def ckZ (a b : Int) (ks : List (List Int)) (s : ByteArray) : Int := if gcB a b ks s then ((allL a b ks s).length : Int) else 0

end Go.Proofs.Ytkmgmlgjflnbeaa
