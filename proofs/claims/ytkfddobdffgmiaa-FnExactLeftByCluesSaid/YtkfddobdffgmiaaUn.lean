/- Clues cut out of a list, and the clue that alone the fewest codes fit, as both programs find it. No conditions. -/
import Derived.Test.YtkfddobdffgmiaaUl
import Derived.IntWalk
namespace Go.Proofs.Ytkfddobdffgmiaa
open Go.ChangeShapes Go.WideShapes Go.ChangeAt Go.RowKit Go.Joins

theorem sub_at {cs : List Clu} {k m j : Nat} (hj : j < m) : ((cs.drop k).take m).getD j cu0 = cs.getD (k + j) cu0 := by
  simp only [List.getD, List.getElem?_take, List.getElem?_drop, if_pos hj]

theorem argC_sub {w : World} {b off n k m : Nat} {cs : List Clu} (h : ArgC w (some ⟨b, off, none⟩) n cs) (hk : k + m ≤ n) : ArgC w (some ⟨b, off + k * 3, none⟩) m ((cs.drop k).take m) := by
  refine ⟨by rw [List.length_take, List.length_drop, h.len]; omega, ?_⟩
  rcases h.at_ with h0 | ⟨b', off', e, hb, hc⟩
  · exact .inl (by omega)
  · cases e
    refine .inr ⟨b, off + k * 3, rfl, hb, fun j hj => ?_⟩
    obtain ⟨c0, c1, c2⟩ := hc (k + j) (by omega)
    rw [sub_at hj]
    rw [show off + k * 3 + j * 3 = off + (k + j) * 3 by omega]
    exact ⟨c0, c1, c2⟩

theorem argC_nil (w : World) (A : Option Addr) : ArgC w A 0 [] := ⟨rfl, .inl rfl⟩

theorem cut_some (b off n c k m : Nat) (w : World) (hc : n ≤ c) (hcm : c ≤ 9223372036854775807) (hk : k + m ≤ n) (hm : 0 < m) :
    Calls Try.prog 83 #[.slice (some ⟨b, off, none⟩) n c, .int .i64 (k : Int), .int .i64 (m : Int)] w fun e w' => e = .returned (.slice (some ⟨b, off + k * 3, none⟩) m m) ∧ w' = w := by
  go_enter Try.func83, Try.ntmps83
  go_wp2_with fail
  rw [show k + m - k = m by omega]
  go_ret
  exact ⟨rfl, rfl⟩

theorem cut_zero (A : Option Addr) (n c : Nat) (w : World) :
    Calls Try.prog 83 #[.slice A n c, .int .i64 0, .int .i64 0] w fun e w' => e = .returned (.slice A 0 0) ∧ w' = w := by
  go_enter Try.func83, Try.ntmps83
  go_wp2_with fail
  go_ret
  exact ⟨rfl, rfl⟩

/-- How many codes fit one clue alone. -/
def bcF (a b : Int) (cs : List Clu) (k : Nat) : Nat := (solL a b [cs.getD k cu0]).length

/-- The best one of the first k clues, and how many fit it. -/
def bcP (a b : Int) (cs : List Clu) : Nat → Nat × Nat
  | 0 => (0, 126)
  | k + 1 => if bcF a b cs k < (bcP a b cs k).2 then (k, bcF a b cs k) else bcP a b cs k

def bcB (a b : Int) (cs : List Clu) : Bool := pzB a b cs && decide (0 < cs.length)
def bcN (a b : Int) (cs : List Clu) : Int := if bcB a b cs then ((bcP a b cs cs.length).1 : Int) else 0

theorem bcP_yes {a b : Int} {cs : List Clu} {k : Nat} (h : bcF a b cs k < (bcP a b cs k).2) : bcP a b cs (k + 1) = (k, bcF a b cs k) := by rw [bcP, if_pos h]

theorem bcP_no {a b : Int} {cs : List Clu} {k : Nat} (h : ¬ bcF a b cs k < (bcP a b cs k).2) : bcP a b cs (k + 1) = bcP a b cs k := by rw [bcP, if_neg h]

theorem bcF_le {a b : Int} {cs : List Clu} (hp : puzB a b = true) (k : Nat) : bcF a b cs k ≤ 125 := solL_length _ hp

theorem bcP_le {a b : Int} {cs : List Clu} (hp : puzB a b = true) (k : Nat) : (bcP a b cs k).2 ≤ 126 ∧ (bcP a b cs k).1 ≤ k ∧ (0 < k → (bcP a b cs k).2 ≤ 125) := by
  induction k with
  | zero => exact ⟨Nat.le_refl _, Nat.le_refl _, fun h => absurd h (Nat.lt_irrefl _)⟩
  | succ k ih =>
    have h1 := bcF_le (cs := cs) hp k
    by_cases h : bcF a b cs k < (bcP a b cs k).2
    · rw [bcP_yes h]
      exact ⟨by omega, by omega, fun _ => h1⟩
    · rw [bcP_no h]
      exact ⟨ih.1, by omega, fun _ => by
        rcases Nat.eq_zero_or_pos k with h0 | h0
        · subst h0
          exact absurd (show bcF a b cs 0 < 126 by omega) h
        · exact ih.2.2 h0⟩

/-- What the model holds for the fewest: at first nothing. -/
def bcQ (a b : Int) (cs : List Clu) (k : Nat) : Nat := if k = 0 then 0 else (bcP a b cs k).2

theorem bcB_parts {a b : Int} {cs : List Clu} {n : Nat} (hl : cs.length = n) (h : bcB a b cs = true) : pzB a b cs = true ∧ 0 < n := by
  unfold bcB at h
  rw [Bool.and_eq_true, decide_eq_true_eq, hl] at h
  exact h

theorem one_all {a b : Int} {cs : List Clu} (h : cs.all (cluB a b) = true) {k : Nat} (hk : k < cs.length) : [cs.getD k cu0].all (cluB a b) = true := by
  rw [List.all_cons, all_at h hk]; rfl

theorem sub_one {cs : List Clu} {k : Nat} (hk : k < cs.length) : (cs.drop k).take 1 = [cs.getD k cu0] := by
  rw [List.drop_eq_getElem_cons hk]
  show [cs[k]] = [cs.getD k cu0]
  simp [List.getD, List.getElem?_eq_getElem hk]

/-- Texts handed back, of which the number alone is asked. -/
theorem call_PBS {K : FuncId} {args : Array Value} {ts : List ByteArray} {w W : World} {a b : Int} {v : Value} (h : PB w a b v W) (c : Calls Try.prog K args W (StrsOut W ts)) :
    Calls Try.prog K args W fun e w' => (∃ A c, e = .returned (.slice A ts.length c)) ∧ PB w a b v w' :=
  c.mono fun _ _ ⟨A, c, he, _, hb⟩ => ⟨⟨A, c, he⟩, h.below hb⟩

set_option maxRecDepth 100000 in
theorem slice_one (bk off n c k : Nat) (h : k < c) (W : World) : (Instr.slice 37 (.slice (some ⟨bk, off, none⟩) n c) (some (.int .i64 (k : Int))) (some (.int .i64 ((k : Int) + 1))) none).run Try.prog W = .ok (.slice (some ⟨bk, off + k * 3, none⟩) 1 (c - k)) W := by
  have h1 : ¬ c = k := by omega
  have h2 : ((k : Int) + 1).toNat = k + 1 := by omega
  rw [run_slice_lh (P := Try.prog) W 37 (some ⟨bk, off, none⟩) n c Try.underlying37 .i64 .i64 (k : Int) ((k : Int) + 1) (by omega) (by omega) (by omega)]
  simp [go_sem, h1, h2, sliced, addr_add]

theorem PB.bel {w W : World} {a b : Int} {v : Value} (h : PB w a b v W) : Below w.heap.size w W := h.2.2.2.1

theorem PB.drawn {w W : World} {a b : Int} {v : Value} (h : PB w a b v W) : PB w a b v W.drew := ⟨h.1, h.2.1, h.2.2.1, bel_drew h.2.2.2.1, h.2.2.2.2⟩

theorem bcQ_pos {a b : Int} {cs : List Clu} {k : Nat} (h : 0 < k) : bcQ a b cs k = (bcP a b cs k).2 := by unfold bcQ; rw [if_neg (by omega)]

theorem call_PBQ {K : FuncId} {args : Array Value} {u : Value} {w W : World} {a b : Int} {v : Value} (h : PB w a b v W) (c : Calls Try.prog K args W fun e w' => e = .returned u ∧ w' = W) :
    Calls Try.prog K args W fun e w' => e = .returned u ∧ PB w a b v w' :=
  c.mono fun _ _ ⟨he, hw⟩ => ⟨he, by rw [hw]; exact h⟩

set_option maxRecDepth 100000 in
set_option maxHeartbeats 4000000 in
theorem specBestClue_any (a b : Int) (A : Option Addr) (n c : Nat) (cs : List Clu) (w : World) (hn : n ≤ maxLen) (hA : ArgC w A n cs) (hc : n ≤ c) (_ : c ≤ maxLen) :
    Calls Try.prog 55 #[.agg #[.int .i64 a, .int .i64 b, .slice A n c]] w fun e w' => e = .returned (.tuple #[.int .i64 (bcN a b cs), .bool (bcB a b cs)]) ∧ Below w.heap.size w w' := by
  have H0 : Hid (PB w a b (.slice A n c) (w.alloc (.cells #[.int .i64 a, .int .i64 b, .slice A n c] 39))) := Lib.hid (PB_new ..)
  have HN := Lib.hid hn
  have HA := Lib.hid hA
  have HL := Lib.hid hA.len
  have hAt := hA.at_
  clear hn hA
  by_cases hp : pzB a b cs = true
  · have HP := Lib.hid hp
    obtain ⟨hp1, hp2, hp3⟩ := pzB_yes hp
    have HP1 := Lib.hid hp1
    have HP3 := Lib.hid hp3
    have h6 : n ≤ 6 := by rw [← HL.out]; exact hp2
    by_cases h0 : n = 0
    · have HV : Hid (bcB a b cs = false) := Lib.hid (by unfold bcB; rw [HL.out, h0]; simp)
      have HV0 : Hid (bcN a b cs = 0) := Lib.hid (by unfold bcN; rw [HV.out]; rfl)
      clear hp hp1 hp2 hp3
      subst h0
      go_enter Try.func55, Try.ntmps55
      go_wp2_with (go_at_call 64; refine (call_PB H0.out (pzGood_any _ _ _ _ _ cs _ HN.out (HA.out.below H0.out.2.2.2.1))).mono ?_; rw [HP.out]; rintro e w1 ⟨rfl, hS1⟩; have H1 := Lib.hid hS1; obtain ⟨p1, q1, s1, _, z1⟩ := hS1)
      go_ret2
      exact ⟨by rw [HV.out, HV0.out]; rfl, H1.out.2.2.2.1⟩
    · have hpos : 0 < n := by omega
      have hn0 : ((n : Int) == 0) = false := by simp; omega
      have HV : Hid (bcB a b cs = true) := Lib.hid (by unfold bcB; rw [hp, HL.out, decide_eq_true hpos]; rfl)
      have HVN : Hid (bcN a b cs = ((bcP a b cs n).1 : Int)) := Lib.hid (by unfold bcN; rw [HV.out, HL.out]; rfl)
      obtain ⟨bk, off, e, _, _⟩ := hAt.resolve_left h0
      subst e
      clear hp hp1 hp2 hp3 h0
      go_enter Try.func55, Try.ntmps55
      go_wp2_with (go_at_call 64; refine (call_PB H0.out (pzGood_any _ _ _ _ _ cs _ HN.out (HA.out.below H0.out.2.2.2.1))).mono ?_; rw [HP.out]; rintro e w1 ⟨rfl, hS1⟩; have H1 := Lib.hid hS1; obtain ⟨p1, q1, s1, _, z1⟩ := hS1)
      go_loopw [4, 5, 20] (fun u v i wr => ∃ k : Nat, k ≤ n ∧ i = .int .i64 k ∧ u = .int .i64 ((bcP a b cs k).1 : Int) ∧ v = .int .i64 (bcQ a b cs k : Int) ∧ PB w a b (.slice (some ⟨bk, off, none⟩) n c) wr) (fun _ _ i _ => n - (intOf i).toNat)
      case atStart => exact ⟨0, by omega, rfl, rfl, rfl, H1.out⟩
      case round =>
        clear p1 q1 s1 z1
        obtain ⟨k, hk, rfl, rfl, rfl, hS⟩ := hrel
        have HS := Lib.hid hS
        obtain ⟨p2, q2, s2, _, z2⟩ := hS
        by_cases hlt : k < n
        · have hw1 : IntKind.i64.wrap ((k : Int) + 1) = (k : Int) + 1 := IntWalk.i64_in _ (by omega)
          have hw2 : 0 ≤ (k : Int) + 1 := by omega
          have hw3 : ((k : Int) + 1).toNat = k + 1 := by omega
          have hsl := slice_one bk off n c k (show k < c by omega)
          have HONE := Lib.hid (one_all HP3.out (k := k) (by rw [HL.out]; exact hlt))
          have HSUB : Hid (∀ W, Below w.heap.size w W → ArgC W (some ⟨bk, off + k * 3, none⟩) 1 [cs.getD k cu0]) := Lib.hid (fun W hW => by
            rw [← sub_one (show k < cs.length by rw [HL.out]; exact hlt)]
            exact argC_sub (HA.out.below hW) (by omega))
          have HF : Hid ((solL a b [cs.getD k cu0]).length = bcF a b cs k) := Lib.hid rfl
          have HPY : Hid (bcF a b cs k < (bcP a b cs k).2 → bcP a b cs (k + 1) = (k, bcF a b cs k)) := Lib.hid bcP_yes
          have HPN : Hid (¬ bcF a b cs k < (bcP a b cs k).2 → bcP a b cs (k + 1) = bcP a b cs k) := Lib.hid bcP_no
          have hf := bcF_le (cs := cs) HP1.out k
          obtain ⟨hq1, hq2, hq3⟩ := bcP_le (cs := cs) HP1.out k
          have HQ0 : Hid (0 < k → bcQ a b cs k = (bcP a b cs k).2) := Lib.hid bcQ_pos
          have HQ1 : Hid (bcQ a b cs (k + 1) = (bcP a b cs (k + 1)).2) := Lib.hid (bcQ_pos (by omega))
          have HP0 : Hid (k = 0 → (bcP a b cs k).2 = 126) := Lib.hid (fun e => by rw [e]; rfl)
          obtain ⟨f, hff⟩ : ∃ f, bcF a b cs k = f := ⟨_, rfl⟩
          obtain ⟨u, hu⟩ : ∃ u, (bcP a b cs k).1 = u := ⟨_, rfl⟩
          obtain ⟨v, hv⟩ : ∃ v, (bcP a b cs k).2 = v := ⟨_, rfl⟩
          obtain ⟨q, hq⟩ : ∃ q, bcQ a b cs k = q := ⟨_, rfl⟩
          have HPP : Hid (bcP a b cs k = (u, v)) := Lib.hid (by rw [← hu, ← hv])
          rw [hff] at HF HPY HPN hf
          rw [hv] at HPY HPN hq1 hq3 HQ0 HP0
          rw [hu] at hq2 ⊢
          rw [hq] at HQ0 ⊢
          have HZ := Lib.hid hq3
          clear hff hu hv hq hq3
          go_wp2_with fail
          go_region_held3 (PB w a b (.slice (some ⟨bk, off, none⟩) n c)) (first | assumption | exact HS.out.drawn | go_keep)
            ((go_at_call 74; refine (call_PBS (by assumption) (pzAll_any _ _ _ _ _ [cs.getD k cu0] _ (by omega) (HSUB.out _ (PB.bel (by assumption))) HP1.out HONE.out)).mono ?_; rintro e w3 ⟨⟨A9, c9, rfl⟩, hS3⟩; rw [HF.out]))
          clear hw1 hw2 hw3 hsl
          have HS3 := Lib.hid hS3
          clear hS3 p2 q2 s2 z2
          rcases Nat.eq_zero_or_pos k with h0 | h0
          · subst h0
            have HE := Lib.hid (HPY.out (by have := HP0.out rfl; omega))
            go_wp2_with fail
            go_roundw
            case rel => exact ⟨1, by omega, rfl, (by rw [HE.out]), (by rw [HQ1.out, HE.out]), HS3.out⟩
            case measure => simp [intOf]; omega
          · have hz : ((k : Int) == 0) = false := by simp; omega
            have hqv := HQ0.out h0
            subst hqv
            by_cases hfv : f < q
            · have HE := Lib.hid (HPY.out hfv)
              clear h0
              go_wp2_with fail
              go_roundw
              case rel => exact ⟨k + 1, by omega, (by go_num), (by rw [HE.out]), (by rw [HQ1.out, HE.out]), HS3.out⟩
              case measure => simp [intOf]; omega
            · have HE := Lib.hid (HPN.out hfv)
              have HEE : Hid (bcQ a b cs (k + 1) = q) := Lib.hid (by rw [HQ1.out, HE.out, HPP.out])
              clear h0
              go_wp2_with fail
              go_roundw
              case rel => exact ⟨k + 1, by omega, (by go_num), (by rw [HE.out, HPP.out]), (by rw [HEE.out]), HS3.out⟩
              case measure => simp [intOf]; omega
        · obtain rfl : k = n := by omega
          go_wp2_with fail
          go_ret2
          exact ⟨by rw [HV.out, HVN.out]; rfl, HS.out.2.2.2.1⟩
  · have HP := Lib.hid (Bool.eq_false_iff.2 hp)
    have HV : Hid (bcB a b cs = false) := Lib.hid (by unfold bcB; rw [HP.out]; rfl)
    have HV0 : Hid (bcN a b cs = 0) := Lib.hid (by unfold bcN; rw [HV.out]; rfl)
    clear hp
    go_enter Try.func55, Try.ntmps55
    go_wp2_with (go_at_call 64; refine (call_PB H0.out (pzGood_any _ _ _ _ _ cs _ HN.out (HA.out.below H0.out.2.2.2.1))).mono ?_; rw [HP.out]; rintro e w1 ⟨rfl, hS1⟩; have H1 := Lib.hid hS1; obtain ⟨p1, q1, s1, _, z1⟩ := hS1)
    go_ret2
    exact ⟨by rw [HV.out, HV0.out]; rfl, H1.out.2.2.2.1⟩

set_option maxRecDepth 100000 in
set_option maxHeartbeats 4000000 in
theorem bestClue_any (a b : Int) (A : Option Addr) (n c : Nat) (cs : List Clu) (w : World) (hn : n ≤ maxLen) (hA : ArgC w A n cs) (hc : n ≤ c) (hcm : c ≤ maxLen) :
    Calls Try.prog 56 #[.agg #[.int .i64 a, .int .i64 b, .slice A n c]] w fun e w' => e = .returned (.tuple #[.int .i64 (bcN a b cs), .bool (bcB a b cs)]) ∧ Below w.heap.size w w' := by
  have H0 : Hid (PB w a b (.slice A n c) (w.alloc (.cells #[.int .i64 a, .int .i64 b, .slice A n c] 39))) := Lib.hid (PB_new ..)
  have HN := Lib.hid hn
  have HA := Lib.hid hA
  have HL := Lib.hid hA.len
  have hAt := hA.at_
  unfold maxLen at hcm
  clear hn hA
  by_cases hp : pzB a b cs = true
  · have HP := Lib.hid hp
    obtain ⟨hp1, hp2, hp3⟩ := pzB_yes hp
    have HP1 := Lib.hid hp1
    have HP3 := Lib.hid hp3
    have h6 : n ≤ 6 := by rw [← HL.out]; exact hp2
    by_cases h0 : n = 0
    · have HV : Hid (bcB a b cs = false) := Lib.hid (by unfold bcB; rw [HL.out, h0]; simp)
      have HV0 : Hid (bcN a b cs = 0) := Lib.hid (by unfold bcN; rw [HV.out]; rfl)
      clear hp hp1 hp2 hp3
      subst h0
      go_enter Try.func56, Try.ntmps56
      go_wp2_with (go_at_call 25; refine (call_PB H0.out (isPuzzle_any _ _ _ _ _ cs _ HN.out (HA.out.below H0.out.2.2.2.1))).mono ?_; rw [HP.out]; rintro e w1 ⟨rfl, hS1⟩; have H1 := Lib.hid hS1; obtain ⟨p1, q1, s1, _, z1⟩ := hS1)
      go_ret2
      exact ⟨by rw [HV.out, HV0.out]; rfl, H1.out.2.2.2.1⟩
    · have hpos : 0 < n := by omega
      have hn0 : ((n : Int) == 0) = false := by simp; omega
      have HV : Hid (bcB a b cs = true) := Lib.hid (by unfold bcB; rw [hp, HL.out, decide_eq_true hpos]; rfl)
      have HVN : Hid (bcN a b cs = ((bcP a b cs n).1 : Int)) := Lib.hid (by unfold bcN; rw [HV.out, HL.out]; rfl)
      obtain ⟨bk, off, e, _, _⟩ := hAt.resolve_left h0
      subst e
      clear hp hp1 hp2 hp3 h0
      go_enter Try.func56, Try.ntmps56
      go_wp2_with (go_at_call 25; refine (call_PB H0.out (isPuzzle_any _ _ _ _ _ cs _ HN.out (HA.out.below H0.out.2.2.2.1))).mono ?_; rw [HP.out]; rintro e w1 ⟨rfl, hS1⟩; have H1 := Lib.hid hS1; obtain ⟨p1, q1, s1, _, z1⟩ := hS1)
      go_loopw [4, 5, 20] (fun u v i wr => ∃ k : Nat, k ≤ n ∧ i = .int .i64 k ∧ u = .int .i64 ((bcP a b cs k).1 : Int) ∧ v = .int .i64 ((bcP a b cs k).2 : Int) ∧ PB w a b (.slice (some ⟨bk, off, none⟩) n c) wr) (fun _ _ i _ => n - (intOf i).toNat)
      case atStart => exact ⟨0, by omega, rfl, rfl, rfl, H1.out⟩
      case round =>
        clear p1 q1 s1 z1
        obtain ⟨k, hk, rfl, rfl, rfl, hS⟩ := hrel
        have HS := Lib.hid hS
        obtain ⟨p2, q2, s2, _, z2⟩ := hS
        by_cases hlt : k < n
        · have hkc : k < c := by omega
          have HONE := Lib.hid (one_all HP3.out (k := k) (by rw [HL.out]; exact hlt))
          have HSUB : Hid (∀ W, Below w.heap.size w W → ArgC W (some ⟨bk, off + k * 3, none⟩) 1 [cs.getD k cu0]) := Lib.hid (fun W hW => by
            rw [← sub_one (show k < cs.length by rw [HL.out]; exact hlt)]
            exact argC_sub (HA.out.below hW) (by omega))
          have HF : Hid ((solL a b [cs.getD k cu0]).length = bcF a b cs k) := Lib.hid rfl
          have HPY : Hid (bcF a b cs k < (bcP a b cs k).2 → bcP a b cs (k + 1) = (k, bcF a b cs k)) := Lib.hid bcP_yes
          have HPN : Hid (¬ bcF a b cs k < (bcP a b cs k).2 → bcP a b cs (k + 1) = bcP a b cs k) := Lib.hid bcP_no
          have hf := bcF_le (cs := cs) HP1.out k
          obtain ⟨hq1, hq2, hq3⟩ := bcP_le (cs := cs) HP1.out k
          obtain ⟨f, hff⟩ : ∃ f, bcF a b cs k = f := ⟨_, rfl⟩
          obtain ⟨u, hu⟩ : ∃ u, (bcP a b cs k).1 = u := ⟨_, rfl⟩
          obtain ⟨v, hv⟩ : ∃ v, (bcP a b cs k).2 = v := ⟨_, rfl⟩
          have HPP : Hid (bcP a b cs k = (u, v)) := Lib.hid (by rw [← hu, ← hv])
          rw [hff] at HF HPY HPN hf
          rw [hv] at HPY HPN hq1 hq3 ⊢
          rw [hu] at hq2 ⊢
          clear hff hu hv hq3
          go_wp2_with fail
          go_region_held3 (PB w a b (.slice (some ⟨bk, off, none⟩) n c)) (first | assumption | exact HS.out.drawn | go_keep)
            (first | ((go_at_call 83; refine (call_PBQ (by assumption) (cut_some _ _ _ _ _ 1 _ hc (by omega) (by omega) (by omega))).mono ?_; rintro e w2 ⟨rfl, hS2⟩)) | ((go_at_call 75; refine (call_PBS (by assumption) (codesWith_any _ _ _ _ _ [cs.getD k cu0] _ (by omega) (HSUB.out _ (PB.bel (by assumption))) HP1.out HONE.out)).mono ?_; rintro e w3 ⟨⟨A9, c9, rfl⟩, hS3⟩; rw [HF.out])))
          have HS3 := Lib.hid hS3
          clear hS3 p2 q2 s2 z2
          by_cases hfv : f < v
          · have HE := Lib.hid (HPY.out hfv)
            go_wp2_with fail
            go_roundw
            case rel => exact ⟨k + 1, by omega, (by go_num), (by rw [HE.out]), (by rw [HE.out]), HS3.out⟩
            case measure => simp [intOf]; omega
          · have HE := Lib.hid (HPN.out hfv)
            go_wp2_with fail
            go_roundw
            case rel => exact ⟨k + 1, by omega, (by go_num), (by rw [HE.out, HPP.out]), (by rw [HE.out, HPP.out]), HS3.out⟩
            case measure => simp [intOf]; omega
        · obtain rfl : k = n := by omega
          go_wp2_with fail
          go_ret2
          exact ⟨by rw [HV.out, HVN.out]; rfl, HS.out.2.2.2.1⟩
  · have HP := Lib.hid (Bool.eq_false_iff.2 hp)
    have HV : Hid (bcB a b cs = false) := Lib.hid (by unfold bcB; rw [HP.out]; rfl)
    have HV0 : Hid (bcN a b cs = 0) := Lib.hid (by unfold bcN; rw [HV.out]; rfl)
    clear hp
    go_enter Try.func56, Try.ntmps56
    go_wp2_with (go_at_call 25; refine (call_PB H0.out (isPuzzle_any _ _ _ _ _ cs _ HN.out (HA.out.below H0.out.2.2.2.1))).mono ?_; rw [HP.out]; rintro e w1 ⟨rfl, hS1⟩; have H1 := Lib.hid hS1; obtain ⟨p1, q1, s1, _, z1⟩ := hS1)
    go_ret2
    exact ⟨by rw [HV.out, HV0.out]; rfl, H1.out.2.2.2.1⟩

end Go.Proofs.Ytkfddobdffgmiaa
