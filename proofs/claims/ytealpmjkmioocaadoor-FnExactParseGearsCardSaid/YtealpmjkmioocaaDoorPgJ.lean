/- Gears read from a text, as the model reads them. For texts of at most 2^20 bytes. -/
import Derived.Test.YtealpmjkmioocaaDoorPgI
import Derived.Deep.DeepCutAuto
namespace Go.Proofs.YtealpmjkmioocaaDoor
set_option maxRecDepth 100000
open Go.ChangeShapes Go.WideShapes Go.ChangeAt Go.RowKit Go.Joins

theorem l1SplitC_any (s : ByteArray) (b : UInt8) (v : Int) (hv : (b.toNat : Int) = v) (hl : s.size ≤ 1048576) (w : World) :
    Calls Tryd.prog 18 #[.string s, .int .u8 v] w fun e w' => ∃ g c, e = .returned (.slice (some ⟨g, 0, none⟩) (spA b s).length c) ∧ w.heap.size ≤ g ∧ Cells w' g (spA b s).length (strF (spA b s)) ∧ (spA b s).length ≤ c ∧ Below w.heap.size w w' := by
  subst hv
  refine (l1Split_any s b hl w).mono ?_
  rintro e w' ⟨A, c, rfl, hO, hc, hb⟩
  have h0 : 0 < (spA b s).length := by unfold spA; simp
  obtain ⟨g, rfl, hg, hC⟩ := hO.lt h0
  exact ⟨g, c, rfl, hg, hC, hc, hb⟩

theorem whDigitsZ_any (s : ByteArray) (w : World) (hz : s.size = 0) :
    Calls Tryd.prog 20 #[.string s] w fun e w' => e = .returned (.slice none 0 0) ∧ Below w.heap.size w w' := by
  go_enter Tryd.func20, Tryd.ntmps20
  go_wp2
  go_loopw [3, 4] (fun v i wr => v = .slice none 0 0 ∧ i = .int .i64 0 ∧ Below w.heap.size w wr) (fun _ _ _ => 0)
  case atStart => exact ⟨rfl, rfl, Below.refl _ _⟩
  case round =>
    obtain ⟨rfl, rfl, hB⟩ := hrel
    go_wp2
    go_ret
    exact ⟨rfl, hB⟩

/-- What a text of gears has. -/
theorem pg_parts {s : ByteArray} (h : pgB s = true) : s.size ≤ 60 ∧ spA 120 (pgH s) = [numB (lkW (pgH s)), numB (lkD (pgH s))] := by
  obtain ⟨h1, h2⟩ := pgB_yes h
  have h3 := gt_short h2
  rw [pg_text h] at h3
  have h4 := lk_sides (lkS_yes h1).1
  rw [(lkS_yes h1).2] at h4
  exact ⟨by omega, h4⟩

/-- What the model sees: the lock read out of the sides, the knobs, the text put together again. -/
theorem pg_seen {s x y : ByteArray} {a b : Int} (hs : spA 120 (pgH s) = [x, y]) (ha : ∀ n, 0 ≤ n → n ≤ 10 → x = numB n → a = n) (hb : ∀ n, 0 ≤ n → n ≤ 10 → y = numB n → b = n) :
    pgB s = (gearsB a b (pgK s) && decide (gtU a b (pgK s) (pgK s).length = s)) ∧ (pgB s = true → a = lkW (pgH s) ∧ b = lkD (pgH s)) := by
  have hyes : pgB s = true → a = lkW (pgH s) ∧ b = lkD (pgH s) := fun h => by
    have h1 := (pg_parts h).2
    rw [hs] at h1
    have hg := good_yes (lkS_yes (pgB_yes h).1).1
    injection h1 with e1 e2
    injection e2 with e2 _
    exact ⟨ha _ (by omega) (by omega) e1, hb _ (by omega) (by omega) e2⟩
  refine ⟨?_, hyes⟩
  cases h : pgB s with
  | true =>
    obtain ⟨rfl, rfl⟩ := hyes h
    rw [(pgB_yes h).2, pg_text h]
    simp
  | false =>
    cases hg : gearsB a b (pgK s) with
    | false => rfl
    | true =>
      by_cases he : gtU a b (pgK s) (pgK s).length = s
      · have := (pg_of hg he).1
        rw [h] at this
        cases this
      · rw [decide_eq_false he]
        rfl

/-- What reading hands back. -/
def JoP (w : World) (s : ByteArray) (e : Ending) (w' : World) : Prop :=
  ∃ a b A m c, e = .returned (.tuple #[.agg #[.int .i64 a, .int .i64 b, .slice A m c], .bool (pgB s)]) ∧ (pgB s = true → a = lkW (pgH s) ∧ b = lkD (pgH s) ∧ ∃ B G Cp, w.heap.size ≤ B ∧ RowG w' B (.slice A m c) (pgK s) G Cp) ∧ Below w.heap.size w w'

set_option maxHeartbeats 4000000 in
theorem joParseN_any (s : ByteArray) (hs : s.size ≤ 1048576) (w : World) (hno : 60 < s.size ∨ (spA 120 (pgH s)).length ≠ 2) :
    Calls Tryd.prog 9 #[.string s] w (JoP w s) := by
  have HD : Hid (pgB s = false) := Lib.hid (by
    cases h : pgB s with
    | false => rfl
    | true =>
      have h1 := pg_parts h
      rw [h1.2] at hno
      rcases hno with h2 | h2
      · omega
      · exact absurd rfl h2)
  have hh : (pgH s).size ≤ 1048576 := by have := pgH_size s; omega
  have HQ := Lib.hid (show Cells (w.alloc (.cells #[.int .i64 0, .int .i64 0, .slice none 0 0] 26)) w.heap.size 3 (gF 0 0 (.slice none 0 0)) from Cells.new (n := 3) rfl rfl)
  have HB0 := Lib.hid (show Below w.heap.size w (w.alloc (.cells #[.int .i64 0, .int .i64 0, .slice none 0 0] 26)) from (Below.refl _ _).alloc (Nat.le_refl _) _)
  have HS0 : Hid (strF (spA 58 s) 0 = .string (pgH s)) := Lib.hid (by unfold strF; rw [spA_zero])
  have HN0 : Hid (0 < (spA 58 s).length) := Lib.hid (by rw [spA_cons]; simp)
  obtain ⟨N, hN⟩ : ∃ N, (spA 58 s).length = N := ⟨_, rfl⟩
  have HN := Lib.hid hN
  have hpos := HN0.out
  rw [hN] at hpos
  obtain ⟨M, hM⟩ : ∃ M, (spA 120 (pgH s)).length = M := ⟨_, rfl⟩
  have HM := Lib.hid hM
  rw [hM] at hno
  obtain ⟨H, hH⟩ : ∃ H, pgH s = H := ⟨_, rfl⟩
  rw [hH] at hh HS0 HM
  clear hN hM hH
  by_cases h60 : 60 < s.size
  · clear hno
    go_enter Tryd.func9, Tryd.ntmps9
    go_wp2_with (first
      | ((fail_if_success (have := o1)); go_at_call 18; refine (l1SplitC_any s 58 58 (by decide) hs _).mono ?_; rw [HN.out]; rintro e w1 ⟨g1, c1, rfl, hg1, hC1, hc1, hb1⟩
         have E1 := Lib.hid (HQ.out.call hb1)
         have B1 := Lib.hid (bel_call HB0.out hb1)
         have o1 : w1.cell? ⟨g1, 0, none⟩ = some (.string H) := by rw [hC1.cell hpos, HS0.out]
         clear hC1 hb1)
      | (go_at_call 18; refine (l1SplitC_any H 120 120 (by decide) hh _).mono ?_; rw [HM.out]; rintro e w2 ⟨g2, c2, rfl, hg2, hC2, hc2, hb2⟩
         have E2 := Lib.hid (E1.out.call hb2)
         have B2 := Lib.hid (bel_call B1.out hb2)
         have q0 := E2.out.cell (show 0 < 3 by omega)
         have q1 := E2.out.cell (show 1 < 3 by omega)
         have q2 := E2.out.cell (show 2 < 3 by omega)
         have f0 := E2.out.frozen (show 0 < 3 by omega)
         have f1 := E2.out.frozen (show 1 < 3 by omega)
         have f2 := E2.out.frozen (show 2 < 3 by omega)
         clear hC2 hb2))
    refine bodyPost_ret (v := .tuple #[.agg #[.int .i64 0, .int .i64 0, .slice none 0 0], .bool false]) (by simp [results, Tryd.results9, go_sem, q0, q1, q2]) rfl ?_
    exact ⟨0, 0, none, 0, 0, by rw [HD.out], (fun h => by rw [HD.out] at h; cases h), ((B2.out.setCell (p := ⟨w.heap.size, 0, none⟩) (Nat.le_refl _) _).setCell (p := ⟨w.heap.size, 1, none⟩) (Nat.le_refl _) _).setCell (p := ⟨w.heap.size, 2, none⟩) (Nat.le_refl _) _⟩
  · have hM2 : M ≠ 2 := hno.resolve_left h60
    have hM2' : ((M : Int) != 2) = true := by simpa using (show ¬ (M : Int) = 2 by omega)
    clear hno
    go_enter Tryd.func9, Tryd.ntmps9
    go_wp2_with (first
      | ((fail_if_success (have := o1)); go_at_call 18; refine (l1SplitC_any s 58 58 (by decide) hs _).mono ?_; rw [HN.out]; rintro e w1 ⟨g1, c1, rfl, hg1, hC1, hc1, hb1⟩
         have E1 := Lib.hid (HQ.out.call hb1)
         have B1 := Lib.hid (bel_call HB0.out hb1)
         have o1 : w1.cell? ⟨g1, 0, none⟩ = some (.string H) := by rw [hC1.cell hpos, HS0.out]
         clear hC1 hb1)
      | (go_at_call 18; refine (l1SplitC_any H 120 120 (by decide) hh _).mono ?_; rw [HM.out]; rintro e w2 ⟨g2, c2, rfl, hg2, hC2, hc2, hb2⟩
         have E2 := Lib.hid (E1.out.call hb2)
         have B2 := Lib.hid (bel_call B1.out hb2)
         have q0 := E2.out.cell (show 0 < 3 by omega)
         have q1 := E2.out.cell (show 1 < 3 by omega)
         have q2 := E2.out.cell (show 2 < 3 by omega)
         have f0 := E2.out.frozen (show 0 < 3 by omega)
         have f1 := E2.out.frozen (show 1 < 3 by omega)
         have f2 := E2.out.frozen (show 2 < 3 by omega)
         clear hC2 hb2))
    refine bodyPost_ret (v := .tuple #[.agg #[.int .i64 0, .int .i64 0, .slice none 0 0], .bool false]) (by simp [results, Tryd.results9, go_sem, q0, q1, q2]) rfl ?_
    exact ⟨0, 0, none, 0, 0, by rw [HD.out], (fun h => by rw [HD.out] at h; cases h), ((B2.out.setCell (p := ⟨w.heap.size, 0, none⟩) (Nat.le_refl _) _).setCell (p := ⟨w.heap.size, 1, none⟩) (Nat.le_refl _) _).setCell (p := ⟨w.heap.size, 2, none⟩) (Nat.le_refl _) _⟩

theorem oneE_none {xs : List Int} (h : xs.length = 0) (g c : Nat) : oneE xs g c = .slice none 0 0 := by unfold oneE; rw [if_pos h]
theorem oneE_some {xs : List Int} {m : Nat} (h : xs.length = m) (h0 : 0 < m) (g c : Nat) : oneE xs g c = .slice (some ⟨g, 0, none⟩) m c := by unfold oneE; rw [if_neg (by omega), h]

theorem drop_at2 {A c : Nat} {a1 : Addr} {k n : Nat} (hlt : k < n) (hc : n + 1 ≤ c) (ha : (if c = 1 then some (⟨A, 0, none⟩ : Addr) else some ⟨A, 1, none⟩) = some a1) : a1 = ⟨A, 1, none⟩ := by
  rw [if_neg (by omega)] at ha
  injection ha with ha
  exact ha.symm

theorem gF_store {w : World} {L : Nat} {f : Nat → Value} (h : Cells w L 3 f) (a b : Int) (v : Value) : Cells (((w.setCell ⟨L, 0, none⟩ (.int .i64 a)).setCell ⟨L, 1, none⟩ (.int .i64 b)).setCell ⟨L, 2, none⟩ v) L 3 (gF a b v) :=
  (((h.set_ (k := 0) (by omega) _).set_ (k := 1) (by omega) _).set_ (k := 2) (by omega) _).congr fun j hj => by
    have : j = 0 ∨ j = 1 ∨ j = 2 := by omega
    rcases this with rfl | rfl | rfl <;> rfl

theorem far3 {w : World} {L g n : Nat} {f : Nat → Value} (h : Cells w g n f) (hne : L ≠ g) (a b v : Value) : Cells (((w.setCell ⟨L, 0, none⟩ a).setCell ⟨L, 1, none⟩ b).setCell ⟨L, 2, none⟩ v) g n f :=
  ((h.far (p := ⟨L, 0, none⟩) hne _).far (p := ⟨L, 1, none⟩) hne _).far (p := ⟨L, 2, none⟩) hne _

theorem bel3 {w W : World} {B L : Nat} (h : Below B W w) (hL : B ≤ L) (a b v : Value) : Below B W (((w.setCell ⟨L, 0, none⟩ a).setCell ⟨L, 1, none⟩ b).setCell ⟨L, 2, none⟩ v) :=
  ((h.setCell (p := ⟨L, 0, none⟩) hL _).setCell (p := ⟨L, 1, none⟩) hL _).setCell (p := ⟨L, 2, none⟩) hL _

set_option maxHeartbeats 8000000 in
theorem joParseY_any (s : ByteArray) (hs : s.size ≤ 60) (x y : ByteArray) (hxy : spA 120 (pgH s) = [x, y]) (w : World) :
    Calls Tryd.prog 9 #[.string s] w (JoP w s) := by
  have hh : (pgH s).size ≤ 60 := by have := pgH_size s; omega
  have HQ := Lib.hid (show Cells (w.alloc (.cells #[.int .i64 0, .int .i64 0, .slice none 0 0] 26)) w.heap.size 3 (gF 0 0 (.slice none 0 0)) from Cells.new (n := 3) rfl rfl)
  have HB0 := Lib.hid (show Below w.heap.size w (w.alloc (.cells #[.int .i64 0, .int .i64 0, .slice none 0 0] 26)) from (Below.refl _ _).alloc (Nat.le_refl _) _)
  have HZ0 : Hid ((w.alloc (.cells #[.int .i64 0, .int .i64 0, .slice none 0 0] 26)).heap.size = w.heap.size + 1) := Lib.hid (by simp)
  obtain ⟨n, hn⟩ : ∃ n, (pgK s).length = n := ⟨_, rfl⟩
  have HNS : Hid ((spA 58 s).length = n + 1) := Lib.hid (by rw [← pgK_length, hn])
  have HM : Hid (n + lensAt (pgK s) n ≤ 1048576) := Lib.hid (by have := pgK_size s; rw [hn] at this; omega)
  have HP : Hid (∀ k, k < n → ((pgP s).getD k ByteArray.empty).size ≤ 1048576 ∧ (pgK s).getD k [] = dgA ((pgP s).getD k ByteArray.empty)) := Lib.hid (fun k hk => by have := pgP_size s k (by omega); exact ⟨by omega, this.2⟩)
  have HS1 : Hid (∀ k, strF (spA 58 s) (1 + k) = .string ((pgP s).getD k ByteArray.empty)) := Lib.hid (fun k => by unfold strF; rw [spA_at])
  have HS0 : Hid (strF (spA 58 s) 0 = .string (pgH s)) := Lib.hid (by unfold strF; rw [spA_zero])
  have hnm : n ≤ 60 := by have := pgK_size s; rw [hn] at this; omega
  have hxz : x.size ≤ 1048576 ∧ y.size ≤ 1048576 := by
    have h1 := congrArg List.length (jn_spl 120 (pgH s).data.toList)
    rw [← spA_spl, hxy, List.map_cons, jn_len] at h1
    have h2 : (pgH s).data.toList.length = (pgH s).size := rfl
    have h3 : x.data.toList.length = x.size := rfl
    have h4 : y.data.toList.length = y.size := rfl
    simp at h1
    simp at h2 h3 h4
    omega
  obtain ⟨hx, hy⟩ := hxz
  have HSN : Hid (∀ a b : Int, (∀ n, 0 ≤ n → n ≤ 10 → x = numB n → a = n) → (∀ n, 0 ≤ n → n ≤ 10 → y = numB n → b = n) → pgB s = (gearsB a b (pgK s) && decide (gtU a b (pgK s) n = s)) ∧ (pgB s = true → a = lkW (pgH s) ∧ b = lkD (pgH s))) := Lib.hid (fun a b ha hb => by have := pg_seen hxy ha hb; rw [hn] at this; exact this)
  have HN := Lib.hid hn
  have HXY : Hid ((spA 120 (pgH s)).length = 2 ∧ strF (spA 120 (pgH s)) = strF [x, y]) := Lib.hid (by rw [hxy]; exact ⟨rfl, rfl⟩)
  clear hn hxy
  have h60 : ¬ 60 < s.size := by omega
  obtain ⟨H, hH⟩ : ∃ H, pgH s = H := ⟨_, rfl⟩
  have HHH := Lib.hid hH
  rw [hH] at hh HS0 HXY
  obtain ⟨K, hK⟩ : ∃ K, pgK s = K := ⟨_, rfl⟩
  have HKK := Lib.hid hK
  rw [hK] at HM HP HSN HN
  clear hH hK
  obtain ⟨i0, hi, hy0, hy1, hy2⟩ := info_parts info_list
  have hs' : s.size ≤ 1048576 := by omega
  have hh' : H.size ≤ 1048576 := by omega
  go_enter Tryd.func9, Tryd.ntmps9
  go_wp2_with (first
    | ((fail_if_success (have := o1)); go_at_call 18; refine (l1SplitC_any s 58 58 (by decide) hs' _).mono ?_; rw [HNS.out, HZ0.out]; rintro e w1 ⟨g1, c1, rfl, hg1, hC1, hc1, hb1⟩
       have HC1 := Lib.hid hC1
       have E1 := Lib.hid (HQ.out.call (hb1.mono (by rw [HZ0.out]; exact Nat.le_refl _)))
       have B1 := Lib.hid (bel_call HB0.out (hb1.mono (by rw [HZ0.out]; exact Nat.le_refl _)))
       have o1 : w1.cell? ⟨g1, 0, none⟩ = some (.string H) := by rw [HC1.out.cell (show 0 < n + 1 by omega), HS0.out]
       clear hC1 hb1)
    | (go_at_call 18; refine (l1SplitC_any H 120 120 (by decide) hh' _).mono ?_; rw [HXY.out.1, HXY.out.2]; rintro e w2 ⟨g2, c2, rfl, hg2, hC2, hc2, hb2⟩
       have D2 := Lib.hid (HC1.out.call hb2)
       have E2 := Lib.hid (E1.out.call hb2)
       have B2 := Lib.hid (bel_call B1.out hb2)
       have HS2 := Lib.hid hC2
       have l0 : w2.cell? ⟨g2, 0, none⟩ = some (.string x) := HS2.out.cell (show 0 < 2 by omega)
       have l1 : w2.cell? ⟨g2, 1, none⟩ = some (.string y) := HS2.out.cell (show 1 < 2 by omega)
       clear hC2 hb2 o1
       obtain ⟨a1, ha1⟩ : ∃ a1 : Addr, (if c1 = 1 then some (⟨g1, 0, none⟩ : Addr) else some ⟨g1, 1, none⟩) = some a1 := by split <;> exact ⟨_, rfl⟩
       have HA1 := Lib.hid ha1
       have Y2 : w.heap.size < w2.heap.size := E2.out.lt
       have Y3 : g1 < w2.heap.size := D2.out.lt))
  go_cut [6] from 24 to 34 (fun v6 wx => ∃ (L : Nat) (a b : Int), v6 = .pointer (some ⟨L, 0, none⟩) ∧ (∀ n, 0 ≤ n → n ≤ 10 → x = numB n → a = n) ∧ (∀ n, 0 ≤ n → n ≤ 10 → y = numB n → b = n) ∧ w2.heap.size ≤ L ∧ Cells wx L 3 (gF a b (.slice none 0 0)) ∧ Cells wx g1 (n + 1) (strF (spA 58 s)) ∧ Cells wx w.heap.size 3 (gF 0 0 (.slice none 0 0)) ∧ Below w.heap.size w wx)
  case first =>
    clear ha1
    have k0 : ((w2.alloc (.cells #[.int .i64 0, .int .i64 0, .slice none 0 0] 26)).drew).cell? ⟨g2, 0, none⟩ = some (.string x) := ((HS2.out.alloc _).drew).cell (show 0 < 2 by omega)
    have k1 : ((w2.alloc (.cells #[.int .i64 0, .int .i64 0, .slice none 0 0] 26)).drew).cell? ⟨g2, 1, none⟩ = some (.string y) := ((HS2.out.alloc _).drew).cell (show 1 < 2 by omega)
    go_region_law (first
      | ((fail_if_success (have := hr)); go_simp; go_at_call 19; refine (l1Read_any x hx _).mono ?_; rintro e w3 ⟨a, rfl, hr, hb3⟩
         have HB3 : Hid (Below w2.heap.size w2 w3) := by first | exact Lib.hid (below_undrew hb3) | exact Lib.hid (bel_call (bel_drew ((Below.refl _ _).alloc (Nat.le_refl _) _)) hb3) | exact Lib.hid (bel_call ((bel_drew (Below.refl _ _)).alloc (by simp) _) hb3)
         have m0 : w3.cell? ⟨g2, 0, none⟩ = some (.string x) := (HS2.out.call HB3.out).cell (show 0 < 2 by omega)
         have m1 : w3.cell? ⟨g2, 1, none⟩ = some (.string y) := (HS2.out.call HB3.out).cell (show 1 < 2 by omega)
         have n1 : (w3.alloc (.cells #[.int .i64 0, .int .i64 0, .slice none 0 0] 26)).cell? ⟨g2, 1, none⟩ = some (.string y) := ((HS2.out.call HB3.out).alloc _).cell (show 1 < 2 by omega)
         have n0 : (w3.alloc (.cells #[.int .i64 0, .int .i64 0, .slice none 0 0] 26)).cell? ⟨g2, 0, none⟩ = some (.string x) := ((HS2.out.call HB3.out).alloc _).cell (show 0 < 2 by omega)
         have HRA := Lib.hid hr
         first
           | (have T3 : Hid (Cells w3 w2.heap.size 3 (gF 0 0 (.slice none 0 0))) := by first | exact Lib.hid ((Cells.new (W := w2.drew) (g := w2.heap.size) (n := 3) (by simp) rfl).call hb3) | exact Lib.hid (((Cells.new (W := w2) (n := 3) rfl rfl).drew).call hb3))
           | skip
         clear hb3)
      | (go_simp; go_at_call 19; refine (l1Read_any y hy _).mono ?_; rintro e w4 ⟨b, rfl, hq, hb4⟩
         have HB4 : Hid (Below w3.heap.size w3 w4) := by first | exact Lib.hid hb4 | exact Lib.hid (bel_call ((Below.refl _ _).alloc (Nat.le_refl _) _) hb4)
         have HRB := Lib.hid hq
         first
           | (have T4 : Hid (Cells w4 w2.heap.size 3 (gF 0 0 (.slice none 0 0))) := Lib.hid (T3.out.call HB4.out)
              have c0 := T4.out.cell (show 0 < 3 by omega)
              have c1' := T4.out.cell (show 1 < 3 by omega)
              have c2' := T4.out.cell (show 2 < 3 by omega)
              have f0 := T4.out.frozen (show 0 < 3 by omega)
              have f1 := T4.out.frozen (show 1 < 3 by omega)
              have f2 := T4.out.frozen (show 2 < 3 by omega))
           | (have T5 : Hid (Cells w4 w3.heap.size 3 (gF 0 0 (.slice none 0 0))) := Lib.hid ((Cells.new (W := w3) (n := 3) rfl rfl).call hb4)
              have c0 := T5.out.cell (show 0 < 3 by omega)
              have c1' := T5.out.cell (show 1 < 3 by omega)
              have c2' := T5.out.cell (show 2 < 3 by omega)
              have f0 := T5.out.frozen (show 0 < 3 by omega)
              have f1 := T5.out.frozen (show 1 < 3 by omega)
              have f2 := T5.out.frozen (show 2 < 3 by omega))
           | skip
         clear hb4))
    all_goals
      go_wp2_with fail
      try go_simp
      have Z3 := HB3.out.size
      have Z4 := HB4.out.size
      have D4 := (D2.out.call HB3.out).call HB4.out
      have E4 := (E2.out.call HB3.out).call HB4.out
      have B4 := bel_call (bel_call B2.out HB3.out) HB4.out
      go_meet
      first
        | exact ⟨w2.heap.size, a, b, rfl, HRA.out, HRB.out, Nat.le_refl _, gF_store T4.out _ _ _, far3 D4 (by omega) _ _ _, far3 E4 (by omega) _ _ _, bel3 B4 (by omega) _ _ _⟩
        | exact ⟨w3.heap.size, a, b, rfl, HRA.out, HRB.out, Z3, gF_store T5.out _ _ _, far3 D4 (by omega) _ _ _, far3 E4 (by omega) _ _ _, bel3 B4 (by omega) _ _ _⟩
        | exact ⟨w4.heap.size, a, b, rfl, HRA.out, HRB.out, by omega, Cells.new (n := 3) rfl rfl, D4.alloc _, E4.alloc _, B4.alloc B4.size _⟩
  case rest =>
    obtain ⟨L, a, b, rfl, ha, hb, hL, CT, CU, CQ, hB0⟩ := hcut
    have hz0 : L + 1 ≤ _ := CT.lt
    have HSE := Lib.hid (HSN.out a b ha hb)
    clear HSN ha hb
    obtain ⟨U, HU⟩ : ∃ U, Hid (gearsB a b K = U) := ⟨_, Lib.hid rfl⟩
    have hq1 : w.heap.size < L := by omega
    have hq2 : g1 < L := by omega
    clear E1 B1 D2 E2 B2 HS2 HC1 Y2 Y3 l0 l1 hL
    go_wp2_with fail
    go_loopw [37] (fun i wr => ∃ (k : Nat) (v : Value) (G Cp : Nat → Nat), k ≤ n ∧ i = .int .i64 k ∧ RowE wr (L + 1) v (K.take k) G Cp ∧ Cells wr g1 (n + 1) (strF (spA 58 s)) ∧ Cells wr w.heap.size 3 (gF 0 0 (.slice none 0 0)) ∧ Cells wr L 3 (gF a b v) ∧ L + 1 ≤ wr.heap.size ∧ Below w.heap.size w wr) (fun i _ => n - (intOf i).toNat)
    case atStart => exact ⟨0, .slice none 0 0, fun _ => 0, fun _ => 0, by omega, rfl, rowE_nil _ _, CU, CQ, CT, hz0, hB0⟩
    case round =>
      clear CU CQ CT hB0 hz0
      obtain ⟨k, v, G, Cp, hk, rfl, hR, hU, hQ, hT, hz, hB⟩ := hrel
      have HR := Lib.hid hR
      have HU4 := Lib.hid hU
      have HQ := Lib.hid hQ
      have HT := Lib.hid hT
      clear hR hU hQ hT
      by_cases hlt : k < n
      · obtain rfl := drop_at2 hlt hc1 HA1.out
        obtain ⟨hts, hkd⟩ := HP.out k hlt
        have o1 : wr.cell? ⟨g1, 1 + k, none⟩ = some (.string ((pgP s).getD k ByteArray.empty)) := by rw [HU4.out.cell (show 1 + k < n + 1 by omega), HS1.out]
        have hwl : (K.take k).length ≤ k := by rw [List.length_take]; omega
        have HWO : Hid (K.take (k + 1) = K.take k ++ [dgA ((pgP s).getD k ByteArray.empty)]) := Lib.hid (by rw [take_snocP (by rw [HN.out]; exact hlt), hkd])
        generalize (pgP s).getD k ByteArray.empty = t at hts o1 HWO
        generalize K.take k = K0 at HR hwl HWO
        clear hkd
        have m2 : wr.cell? ⟨L, 2, none⟩ = some v := HT.out.cell (show 2 < 3 by omega)
        by_cases ht0 : t.size = 0
        · have HT0 := Lib.hid ht0
          clear ht0
          go_wp2_with fail
          go_region_law (first
            | (go_simp; go_at_call 20; refine (whDigitsZ_any t _ HT0.out).mono ?_; rintro e w2 ⟨rfl, hb2⟩
               have HB2 := Lib.hid (below_undrew hb2)
               have HT2 := Lib.hid (HT.out.call HB2.out)
               have m3 : w2.cell? ⟨L, 2, none⟩ = some v := HT2.out.cell (show 2 < 3 by omega)
               have m4 : (w2.alloc (.cells #[.slice none 0 0] 36)).cell? ⟨L, 2, none⟩ = some v := (HT2.out.alloc _).cell (show 2 < 3 by omega)
               have HO2 := Lib.hid ((own_kept HR.out.own HB2.out).alloc (.cells #[.slice none 0 0] 36))
               have HZ2 := Lib.hid (Nat.le_trans hz HB2.out.size)
               clear hb2)
            | (refine step_append_at rfl (.tmp 42) (.tmp 45) 24 rfl (L + 1) 36 i0 (.slice none 0 0) 1 24 Tryd.underlying24 hi hy0 hy1 hy2 rfl (by decide) v K0.length (rowE K0 G Cp) rfl HO2.out ⟨w2.heap.size, 0, none⟩ 1 1 [.slice none 0 0] rfl rfl (news_one rfl) (by simp [Value.oneCell']) (by unfold maxLen; omega) (by omega) (by have := HZ2.out; simp; omega) ?_; intro v' w4 hown' hgrow hblk
               have HR4 := Lib.hid (HR.out.snoc (xs := dgA t) (g := 0) (c' := 0) HB2.out hz (fun h => by rw [dgA_length, HT0.out] at h; omega) (by rw [oneE_none (by rw [dgA_length]; exact HT0.out)]; exact hown') hgrow hblk)
               have hlt2 := HO2.out.lt
               have HT4 := Lib.hid ((HT2.out.alloc (.cells #[.slice none 0 0] 36)).kept hgrow (fun e => by have := (hlt2 _ e).1; omega))
               have HV4 := Lib.hid (((HU4.out.call HB2.out).alloc (.cells #[.slice none 0 0] 36)).kept hgrow (fun e => by have := (hlt2 _ e).1; omega))
               have HQ4 := Lib.hid (((HQ.out.call HB2.out).alloc (.cells #[.slice none 0 0] 36)).kept hgrow (fun e => by have := (hlt2 _ e).1; omega))
               have HB4 := Lib.hid (((bel_call hB HB2.out).alloc (bel_call hB HB2.out).size _).grown hgrow (by have := HZ2.out; simp; omega) (fun j hj => by have := (hlt2 j hj).1; omega))
               have HZ4 := Lib.hid (show L + 1 ≤ w4.heap.size by have h1 := HZ2.out; have h2 := hgrow.size; simp at h2; omega)
               obtain ⟨g', cap', rfl⟩ := row_succ hown'
               have c2' : w4.cell? ⟨L, 2, none⟩ = some v := HT4.out.cell (show 2 < 3 by omega)
               have c3 := HT4.out.frozen (show 2 < 3 by omega)
               clear hown' hgrow hblk hlt2))
          all_goals
            have HRN := Lib.hid (HR4.out.far (g := L) (k := 2) (by omega) (.slice (some ⟨g', 0, none⟩) (K0.length + 1) cap'))
            have HUN := Lib.hid (HV4.out.far (p := ⟨L, 2, none⟩) (by show L ≠ g1; omega) (.slice (some ⟨g', 0, none⟩) (K0.length + 1) cap'))
            have HQN := Lib.hid (HQ4.out.far (p := ⟨L, 2, none⟩) (by show L ≠ w.heap.size; omega) (.slice (some ⟨g', 0, none⟩) (K0.length + 1) cap'))
            have HTN := Lib.hid ((HT4.out.set_ (show 2 < 3 by omega) (.slice (some ⟨g', 0, none⟩) (K0.length + 1) cap')).congr (f' := gF a b (.slice (some ⟨g', 0, none⟩) (K0.length + 1) cap')) (fun j hj => by
              have : j = 0 ∨ j = 1 ∨ j = 2 := by omega
              rcases this with rfl | rfl | rfl <;> rfl))
            go_wp2_with fail
            go_roundw
            case rel => exact ⟨k + 1, _, _, _, by omega, by go_num, by rw [HWO.out]; exact HRN.out, HUN.out, HQN.out, HTN.out, by rw [size_setCell]; exact HZ4.out, HB4.out.setCell (by show w.heap.size ≤ L; omega) _⟩
            case measure => simp [intOf]; omega
        · have HT0 : Hid (0 < t.size) := Lib.hid (by omega)
          clear ht0
          go_wp2_with fail
          go_region_law (first
            | (go_simp; go_at_call 20; refine (whDigitsA_any t _ hts HT0.out).mono ?_; rintro e w2 ⟨g2, c2, rfl, hg2, hC2, hb2⟩
               have HB2 := Lib.hid (below_undrew hb2)
               have HC2 := Lib.hid hC2
               have HG2 := Lib.hid hg2
               have HT2 := Lib.hid (HT.out.call HB2.out)
               have m3 : w2.cell? ⟨L, 2, none⟩ = some v := HT2.out.cell (show 2 < 3 by omega)
               have m4 : (w2.alloc (.cells #[.slice (some ⟨g2, 0, none⟩) t.size c2] 36)).cell? ⟨L, 2, none⟩ = some v := (HT2.out.alloc _).cell (show 2 < 3 by omega)
               have HO2 := Lib.hid ((own_kept HR.out.own HB2.out).alloc (.cells #[.slice (some ⟨g2, 0, none⟩) t.size c2] 36))
               have HZ2 := Lib.hid (Nat.le_trans hz HB2.out.size)
               clear hb2 hC2 hg2)
            | (refine step_append_at rfl (.tmp 42) (.tmp 45) 24 rfl (L + 1) 36 i0 (.slice none 0 0) 1 24 Tryd.underlying24 hi hy0 hy1 hy2 rfl (by decide) v K0.length (rowE K0 G Cp) rfl HO2.out ⟨w2.heap.size, 0, none⟩ 1 1 [.slice (some ⟨g2, 0, none⟩) t.size c2] rfl rfl (news_one rfl) (by simp [Value.oneCell']) (by unfold maxLen; omega) (by omega) (by have := HZ2.out; simp; omega) ?_; intro v' w4 hown' hgrow hblk
               have HR4 := Lib.hid (HR.out.snoc (xs := dgA t) (g := g2) (c' := c2) HB2.out hz (fun h => ⟨HG2.out, by rw [dgA_length]; exact HC2.out⟩) (by rw [oneE_some (dgA_length t) HT0.out]; exact hown') hgrow hblk)
               have hlt2 := HO2.out.lt
               have HT4 := Lib.hid ((HT2.out.alloc (.cells #[.slice (some ⟨g2, 0, none⟩) t.size c2] 36)).kept hgrow (fun e => by have := (hlt2 _ e).1; omega))
               have HV4 := Lib.hid (((HU4.out.call HB2.out).alloc (.cells #[.slice (some ⟨g2, 0, none⟩) t.size c2] 36)).kept hgrow (fun e => by have := (hlt2 _ e).1; omega))
               have HQ4 := Lib.hid (((HQ.out.call HB2.out).alloc (.cells #[.slice (some ⟨g2, 0, none⟩) t.size c2] 36)).kept hgrow (fun e => by have := (hlt2 _ e).1; omega))
               have HB4 := Lib.hid (((bel_call hB HB2.out).alloc (bel_call hB HB2.out).size _).grown hgrow (by have := HZ2.out; simp; omega) (fun j hj => by have := (hlt2 j hj).1; omega))
               have HZ4 := Lib.hid (show L + 1 ≤ w4.heap.size by have h1 := HZ2.out; have h2 := hgrow.size; simp at h2; omega)
               obtain ⟨g', cap', rfl⟩ := row_succ hown'
               have c2' : w4.cell? ⟨L, 2, none⟩ = some v := HT4.out.cell (show 2 < 3 by omega)
               have c3 := HT4.out.frozen (show 2 < 3 by omega)
               clear hown' hgrow hblk hlt2))
          all_goals
            have HRN := Lib.hid (HR4.out.far (g := L) (k := 2) (by omega) (.slice (some ⟨g', 0, none⟩) (K0.length + 1) cap'))
            have HUN := Lib.hid (HV4.out.far (p := ⟨L, 2, none⟩) (by show L ≠ g1; omega) (.slice (some ⟨g', 0, none⟩) (K0.length + 1) cap'))
            have HQN := Lib.hid (HQ4.out.far (p := ⟨L, 2, none⟩) (by show L ≠ w.heap.size; omega) (.slice (some ⟨g', 0, none⟩) (K0.length + 1) cap'))
            have HTN := Lib.hid ((HT4.out.set_ (show 2 < 3 by omega) (.slice (some ⟨g', 0, none⟩) (K0.length + 1) cap')).congr (f' := gF a b (.slice (some ⟨g', 0, none⟩) (K0.length + 1) cap')) (fun j hj => by
              have : j = 0 ∨ j = 1 ∨ j = 2 := by omega
              rcases this with rfl | rfl | rfl <;> rfl))
            go_wp2_with fail
            go_roundw
            case rel => exact ⟨k + 1, _, _, _, by omega, by go_num, by rw [HWO.out]; exact HRN.out, HUN.out, HQN.out, HTN.out, by rw [size_setCell]; exact HZ4.out, HB4.out.setCell (by show w.heap.size ≤ L; omega) _⟩
            case measure => simp [intOf]; omega
      · obtain rfl : k = n := by omega
        rw [List.take_of_length_le (by rw [HN.out]; exact Nat.le_refl _)] at HR
        obtain ⟨A', c', hv⟩ := HR.out.slice
        rw [HN.out] at hv
        subst hv
        have HKA := Lib.hid (HR.out.knobs HN.out HM.out)
        have t0 : wr.cell? ⟨L, 0, none⟩ = some (.int .i64 a) := HT.out.cell (show 0 < 3 by omega)
        have t1 : wr.cell? ⟨L, 1, none⟩ = some (.int .i64 b) := HT.out.cell (show 1 < 3 by omega)
        have t2 : wr.cell? ⟨L, 2, none⟩ = some (.slice A' k c') := HT.out.cell (show 2 < 3 by omega)
        have q0 : wr.cell? ⟨w.heap.size, 0, none⟩ = some (.int .i64 0) := HQ.out.cell (show 0 < 3 by omega)
        rcases U with _ | _
        · have HD : Hid (pgB s = false) := Lib.hid (by rw [HSE.out.1, HU.out]; rfl)
          clear q0
          go_wp2_with fail
          first
            | (go_region_with (first
                | ((try go_simp); go_at_call 21; refine (joGood_any a b _ _ _ K _ HM.out (HKA.out.below (bel_drew (Below.refl _ _)))).mono ?_; rw [HU.out]; rintro e w5 ⟨rfl, hb5⟩
                   have HB5 := Lib.hid (below_undrew hb5)
                   have HT5 := Lib.hid (HT.out.call HB5.out)
                   have HQ5 := Lib.hid (HQ.out.call HB5.out)
                   have r0 : w5.cell? ⟨L, 0, none⟩ = some (.int .i64 a) := HT5.out.cell (show 0 < 3 by omega)
                   have r1 : w5.cell? ⟨L, 1, none⟩ = some (.int .i64 b) := HT5.out.cell (show 1 < 3 by omega)
                   have r2 : w5.cell? ⟨L, 2, none⟩ = some (.slice A' k c') := HT5.out.cell (show 2 < 3 by omega)
                   have q0 := HQ5.out.cell (show 0 < 3 by omega)
                   have q1 := HQ5.out.cell (show 1 < 3 by omega)
                   have q2 := HQ5.out.cell (show 2 < 3 by omega)
                   have f0 := HQ5.out.frozen (show 0 < 3 by omega)
                   have f1 := HQ5.out.frozen (show 1 < 3 by omega)
                   have f2 := HQ5.out.frozen (show 2 < 3 by omega)
                   clear hb5)))
            | fail
          all_goals
            go_wp2_with fail
            refine bodyPost_ret (v := .tuple #[.agg #[.int .i64 a, .int .i64 b, .slice A' k c'], .bool false]) (by simp [results, Tryd.results9, go_sem, q0, q1, q2]) rfl ?_
            exact ⟨a, b, A', k, c', by rw [HD.out], (fun h => by rw [HD.out] at h; cases h), bel3 (bel_call hB HB5.out) (Nat.le_refl _) _ _ _⟩
        · have HRG := Lib.hid (HR.out.rowG (gears_pos HU.out))
          have HKC := Lib.hid (HRG.out.read HN.out)
          clear q0
          by_cases hes : gtU a b K k = s
          · have HD : Hid (pgB s = true) := Lib.hid (by rw [HSE.out.1, HU.out, decide_eq_true hes]; rfl)
            have HES := Lib.hid hes
            clear hes
            have hsame : (s.toList == s.toList) = true := beq_self_eq_true _
            go_wp2_with fail
            first
              | (go_region_with (first
                  | ((fail_if_success (have := HB5)); (try go_simp); go_at_call 21; refine (joGood_any a b _ _ _ K _ HM.out (HKA.out.below (bel_drew (Below.refl _ _)))).mono ?_; rw [HU.out]; rintro e w5 ⟨rfl, hb5⟩
                     have HB5 := Lib.hid (below_undrew hb5)
                     have HT5 := Lib.hid (HT.out.call HB5.out)
                     have HQ5 := Lib.hid (HQ.out.call HB5.out)
                     have r0 : w5.cell? ⟨L, 0, none⟩ = some (.int .i64 a) := HT5.out.cell (show 0 < 3 by omega)
                     have r1 : w5.cell? ⟨L, 1, none⟩ = some (.int .i64 b) := HT5.out.cell (show 1 < 3 by omega)
                     have r2 : w5.cell? ⟨L, 2, none⟩ = some (.slice A' k c') := HT5.out.cell (show 2 < 3 by omega)
                     clear hb5)
                  | ((try go_simp); go_at_call 22; refine (joText_any a b _ _ _ K _ HU.out (HKC.out.below HB5.out)).mono ?_; rw [HES.out]; rintro e w6 ⟨rfl, hb6⟩
                     have HY3 : Below wr.heap.size wr w5 := HB5.out
                     have HY4 : Below w5.heap.size w5 w6 := hb6
                     have HB6 := Lib.hid (bel_call HY3 HY4)
                     have HT6 := Lib.hid (HT.out.call HB6.out)
                     have HQ6 := Lib.hid (HQ.out.call HB6.out)
                     have s0 : w6.cell? ⟨L, 0, none⟩ = some (.int .i64 a) := HT6.out.cell (show 0 < 3 by omega)
                     have s1 : w6.cell? ⟨L, 1, none⟩ = some (.int .i64 b) := HT6.out.cell (show 1 < 3 by omega)
                     have s2 : w6.cell? ⟨L, 2, none⟩ = some (.slice A' k c') := HT6.out.cell (show 2 < 3 by omega)
                     have q0 := HQ6.out.cell (show 0 < 3 by omega)
                     have q1 := HQ6.out.cell (show 1 < 3 by omega)
                     have q2 := HQ6.out.cell (show 2 < 3 by omega)
                     have f0 := HQ6.out.frozen (show 0 < 3 by omega)
                     have f1 := HQ6.out.frozen (show 1 < 3 by omega)
                     have f2 := HQ6.out.frozen (show 2 < 3 by omega)
                     clear hb6 HY3 HY4)))
              | fail
            all_goals
              go_wp2_with fail
              refine bodyPost_ret (v := .tuple #[.agg #[.int .i64 a, .int .i64 b, .slice A' k c'], .bool true]) (by simp [results, Tryd.results9, go_sem, q0, q1, q2]) rfl ?_
              refine ⟨a, b, A', k, c', by rw [HD.out], fun h => ⟨(HSE.out.2 h).1, (HSE.out.2 h).2, L + 1, G, Cp, by omega, ?_⟩, bel3 (bel_call hB HB6.out) (Nat.le_refl _) _ _ _⟩
              rw [HKK.out]
              exact (((HRG.out.call HB6.out).far (by omega) _).far (by omega) _).far (by omega) _
          · have HD : Hid (pgB s = false) := Lib.hid (by rw [HSE.out.1, HU.out, decide_eq_false hes]; rfl)
            obtain ⟨u, hu⟩ : ∃ u, gtU a b K k = u := ⟨_, rfl⟩
            have HES := Lib.hid hu
            have hsame : (u.toList == s.toList) = false := bytes_neP (by rw [← hu]; exact hes)
            clear hes hu
            go_wp2_with fail
            first
              | (go_region_with (first
                  | ((fail_if_success (have := HB5)); (try go_simp); go_at_call 21; refine (joGood_any a b _ _ _ K _ HM.out (HKA.out.below (bel_drew (Below.refl _ _)))).mono ?_; rw [HU.out]; rintro e w5 ⟨rfl, hb5⟩
                     have HB5 := Lib.hid (below_undrew hb5)
                     have HT5 := Lib.hid (HT.out.call HB5.out)
                     have HQ5 := Lib.hid (HQ.out.call HB5.out)
                     have r0 : w5.cell? ⟨L, 0, none⟩ = some (.int .i64 a) := HT5.out.cell (show 0 < 3 by omega)
                     have r1 : w5.cell? ⟨L, 1, none⟩ = some (.int .i64 b) := HT5.out.cell (show 1 < 3 by omega)
                     have r2 : w5.cell? ⟨L, 2, none⟩ = some (.slice A' k c') := HT5.out.cell (show 2 < 3 by omega)
                     clear hb5)
                  | ((try go_simp); go_at_call 22; refine (joText_any a b _ _ _ K _ HU.out (HKC.out.below HB5.out)).mono ?_; rw [HES.out]; rintro e w6 ⟨rfl, hb6⟩
                     have HY3 : Below wr.heap.size wr w5 := HB5.out
                     have HY4 : Below w5.heap.size w5 w6 := hb6
                     have HB6 := Lib.hid (bel_call HY3 HY4)
                     have HT6 := Lib.hid (HT.out.call HB6.out)
                     have HQ6 := Lib.hid (HQ.out.call HB6.out)
                     have s0 : w6.cell? ⟨L, 0, none⟩ = some (.int .i64 a) := HT6.out.cell (show 0 < 3 by omega)
                     have s1 : w6.cell? ⟨L, 1, none⟩ = some (.int .i64 b) := HT6.out.cell (show 1 < 3 by omega)
                     have s2 : w6.cell? ⟨L, 2, none⟩ = some (.slice A' k c') := HT6.out.cell (show 2 < 3 by omega)
                     have q0 := HQ6.out.cell (show 0 < 3 by omega)
                     have q1 := HQ6.out.cell (show 1 < 3 by omega)
                     have q2 := HQ6.out.cell (show 2 < 3 by omega)
                     have f0 := HQ6.out.frozen (show 0 < 3 by omega)
                     have f1 := HQ6.out.frozen (show 1 < 3 by omega)
                     have f2 := HQ6.out.frozen (show 2 < 3 by omega)
                     clear hb6 HY3 HY4)))
              | fail
            all_goals
              go_wp2_with fail
              refine bodyPost_ret (v := .tuple #[.agg #[.int .i64 a, .int .i64 b, .slice A' k c'], .bool false]) (by simp [results, Tryd.results9, go_sem, q0, q1, q2]) rfl ?_
              exact ⟨a, b, A', k, c', by rw [HD.out], (fun h => by rw [HD.out] at h; cases h), bel3 (bel_call hB HB6.out) (Nat.le_refl _) _ _ _⟩

end Go.Proofs.YtealpmjkmioocaaDoor
