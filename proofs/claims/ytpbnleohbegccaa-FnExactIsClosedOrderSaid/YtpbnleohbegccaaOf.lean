/- The round order: the code with a rank, as both programs make it. No conditions. -/
import Derived.Test.YtpbnleohbegccaaOe
import Derived.Test.YtpbnleohbegccaaAdd
import Derived.Deep.RegionLaw
import Derived.Laws.Concat
import Derived.Laws.Strings
namespace Go.Proofs.Ytpbnleohbegccaa
open Go.ChangeShapes Go.WideShapes Go.ChangeAt Go.RowKit Go.Joins

/-- append onto a row of the call's own, as one step of a region that draws. -/
theorem step_app {P : Program} {ops : Array Oper} {o : Oper} {a : Act} {w : World} {K : Act → World → Prop} {Q : Exit → Act → World → Prop} {E : Prop}
    (hg : o.guard = none) (s x : Operand) (t : TypeId) (hop : o.op = Op.call { callee := Callee.builtin Builtin.append, args := #[s, x], argTypes := #[t, t] })
    (base : Nat) (e : TypeId) (i : TypeInfo) (z : Value) (size bytes : Nat) (h1 : P.underlying t = some (.slice e)) (h2 : P.info? e = some i) (h3 : i.zero = some z) (h4 : i.size = size) (h5 : i.bytes = bytes) (h6 : z.cells.size = size) (h7 : 0 < size)
    (v : Value) (n : Nat) (xs : List Value) (hs : a.eval s = v) (hown : w.ownsRow base e size v n xs)
    (ad : Addr) (m c : Nat) (news : List Value) (hx : a.eval x = .slice (some ad) m c) (hn : news.length = m * size) (hc : ∀ j u, news[j]? = some u → w.cell? (ad.add j) = some u) (h1c : ∀ u ∈ news, u.oneCell' = true)
    (b1 : n + m ≤ maxLen) (b2 : (n + m) * bytes ≤ 140737488355328) (hbase : base ≤ w.heap.size)
    (hK : ∀ v' w', w'.ownsRow base e size v' (n + m) (xs ++ news) → w.grownBy w' v.ownBlock → K (a.put o.dst v') w') :
    if Region.wanted o (yielded ops a.tmps) = true then Oper.wp P o a w K Q else E := by
  have hw : Region.wanted o (yielded ops a.tmps) = true := by simp [Region.wanted, hg]
  rw [if_pos hw]
  obtain ⟨v', w', hrun, r1, r2, _⟩ := run_append_own (P := P) w base t o.type e i z size bytes h1 h2 h3 h4 h5 h6 h7 v n xs hown ad m c news hn hc h1c b1 b2 hbase
  unfold Oper.wp
  simp [execOp, hop, resolve, invoke, builtin, hs, hx, hrun, Result.andThen]
  exact hK v' w' r1 r2

/-- One wheel of it. -/
theorem ro_round {b x : Int} {n k : Nat} (h2 : 2 ≤ b) (hk : k + 1 < n) : (orL roI b x n).getD (k + 1) 0 = modI b ((digL b x n).getD (k + 1) 0 - (digL b x n).getD k 0) := by
  rw [orL_at hk, digL_at hk, digL_at (show k < n by omega), show n - 1 - k = (n - 1 - (k + 1)) + 1 by omega, div_pw h2]
  unfold roI modI
  generalize x / pw b (n - 1 - (k + 1)) = q
  rw [Int.emod_sub_emod, Int.sub_emod_emod]

theorem ro_first {b x : Int} {n : Nat} (h2 : 2 ≤ b) (hn : 0 < n) (h0 : 0 ≤ x) (hx : x < pw b n) : (orL roI b x n).getD 0 0 = (digL b x n).getD 0 0 := by
  rw [orL_at hn, digL_at hn]
  unfold roI
  have : x / pw b (n - 1 - 0) / b = 0 := by
    rw [← div_pw h2, show n - 1 - 0 + 1 = n by omega]
    exact Int.ediv_eq_zero_of_lt h0 hx
  rw [this, Int.sub_zero]

/-- The digits ahead of each wheel's. -/
def befL (ds : List Int) (n : Nat) : List Int := 0 :: ds.take (n - 1)

theorem befL_length {ds : List Int} {n : Nat} (h : ds.length = n) (hn : 0 < n) : (befL ds n).length = n := by
  unfold befL; rw [List.length_cons, List.length_take]; omega

theorem befL_at {ds : List Int} {n k : Nat} (h : ds.length = n) (hk : k < n) : (befL ds n).getD k 0 = if k = 0 then 0 else ds.getD (k - 1) 0 := by
  unfold befL
  cases k with
  | zero => rfl
  | succ k =>
    rw [if_neg (by omega)]
    simp only [List.getD, List.getElem?_cons_succ, Nat.add_sub_cancel]
    rw [List.getElem?_take_of_lt (by omega)]

theorem ro_zip {b x : Int} {n : Nat} (h2 : 2 ≤ b) (hn : 0 < n) (h0 : 0 ≤ x) (hx : x < pw b n) : (digL b x n).zipWith (subI b) (befL (digL b x n) n) = orL roI b x n := by
  have hl := digL_length b x n
  have hb := befL_length hl hn
  apply List.ext_getElem
  · rw [List.length_zipWith, hl, hb, orL_length, Nat.min_self]
  · intro i i1 i2
    rw [orL_length] at i2
    have e1 : ((digL b x n).zipWith (subI b) (befL (digL b x n) n)).getD i 0 = (orL roI b x n).getD i 0 := by
      rw [zip_at _ _ _ (by rw [hl]; exact i2) (by rw [hb]; exact i2), befL_at hl i2]
      cases i with
      | zero =>
        rw [if_pos rfl, ro_first h2 hn h0 hx, digL_at hn]
        unfold subI
        rw [Int.sub_zero, Int.emod_emod_of_dvd _ (Int.dvd_refl b)]
      | succ i =>
        rw [if_neg (by omega), Nat.add_sub_cancel, ro_round h2 i2]; rfl
    simpa only [List.getD, List.getElem?_eq_getElem i1, List.getElem?_eq_getElem (show i < (orL roI b x n).length by rw [orL_length]; exact i2), Option.getD_some] using e1

theorem txt_list (ds : List Int) : (textOf ds).data.toList = ds.map fun d => UInt8.ofNat (48 + d).toNat := by
  unfold textOf
  rw [strOfNums_data, List.map_map]
  rfl

theorem bytesX {s t : ByteArray} (h : s.data.toList = t.data.toList) : s = t := by
  have := Array.toList_inj.1 h
  cases s; cases t; simp at this; rw [this]

theorem bef_text (ds : List Int) (n : Nat) : textOf [0] ++ (textOf ds).extract 0 (n - 1) = textOf (befL ds n) := by
  refine bytesX ?_
  rw [ByteArray.data_append, Array.toList_append, ByteArray.data_extract, Array.toList_extract, txt_list, txt_list, txt_list]
  simp [befL, List.extract, List.map_take]

theorem bef_good {b x : Int} {n : Nat} (hg : goodB n b = true) (hn : 0 < n) : askB n b (textOf (befL (digL b x n) n)) = true := by
  have hg' := good_yes hg
  refine ask_of hg ⟨by rw [befL_length (digL_length _ _ _) hn], fun j hj => ?_⟩
  rw [befL_length (digL_length _ _ _) hn] at hj
  rw [befL_at (digL_length _ _ _) hj]
  split
  · omega
  · rw [digL_at (by omega)]
    exact ⟨Int.emod_nonneg _ (by omega), Int.emod_lt_of_pos _ (by omega)⟩

set_option maxRecDepth 100000 in
set_option maxHeartbeats 4000000 in
theorem orRound_any (n : Nat) (b x : Int) (w : World) (hg : goodB n b = true) (h0 : 0 ≤ x) (hx : x < pw b n) :
    Calls Try.prog 74 #[.agg #[.int .i64 n, .int .i64 b], .int .i64 x] w fun e w' => e = .returned (.string (textOf (orL roI b x n))) ∧ Below w.heap.size w w' := by
  have HG := Lib.hid hg
  obtain ⟨h1, h6, h2, h10⟩ := good_yes hg
  obtain ⟨p1, p2⟩ := pw_bd6 h2 h10 (k := n) (by omega)
  have hDD := digL_digits (x := x) (n := n) h2 h10
  have HR0 := Lib.hid (ro_first h2 (by omega) h0 hx)
  obtain ⟨s, hs⟩ : ∃ s, textOf (digL b x n) = s := ⟨_, rfl⟩
  have HS := Lib.hid hs
  have hsz : s.size = n := by rw [← hs, textOf_size, digL_length]
  have HDG : Hid (dg s = digL b x n) := Lib.hid (by rw [← hs]; exact dg_textOf hDD)
  have HD : Hid (Digits (dg s)) := Lib.hid (by rw [HDG.out]; exact hDD)
  have HSZ := Lib.hid hsz
  obtain ⟨i0, hi, hz0, hz1, hz2⟩ := info_parts info_int
  clear hg hDD hs hsz
  go_enter Try.func74, Try.ntmps74
  go_wp2_with (first
    | (go_at_call 97; refine (whOf_any _ _ _ _ HG.out h0 (by omega)).mono ?_; rw [HS.out]; rintro e w1 ⟨rfl, hb1⟩; have z1 : w.heap.size < w1.heap.size := (by have := hb1.size; simp at this; omega); have m1 : w1.cell? ⟨w.heap.size, 1, none⟩ = some (.int .i64 b) := (hb1.cell (p := ⟨w.heap.size, 1, none⟩) (by simp)).trans (by simp); have HB1 := Lib.hid (show Below w.heap.size w w1 from bel_call ((Below.refl _ _).alloc (Nat.le_refl _) _) hb1); clear hb1)
    | (go_at_call 70; refine (whDigits_any _ _ HD.out (by rw [HSZ.out]; omega) (by rw [HSZ.out]; omega)).mono ?_; rw [HSZ.out, HDG.out]; rintro e w2 ⟨g, c, rfl, hgg, hC, hb2⟩; have m2 : w2.cell? ⟨w.heap.size, 1, none⟩ = some (.int .i64 b) := (hb2.cell (p := ⟨w.heap.size, 1, none⟩) z1).trans m1; have HB2 := Lib.hid (show Below w.heap.size w w2 from bel_call HB1.out hb2); have z2 := hb2.size; have HC := Lib.hid hC; have zg := hC.lt; have cg0 : w2.cell? ⟨g, 0, none⟩ = some (.int .i64 ((digL b x n).getD 0 0)) := hC.cell (by omega); clear hb2 hC m1))
  have hz : w.heap.size < w2.heap.size := by omega
  have HO0 := Lib.hid (World.ownsRow_lit (base := w2.heap.size) (e := 3) (size := 1) w2 #[.int .i64 ((digL b x n).getD 0 0)] 1 (Nat.le_refl _) (by unfold maxLen; omega) rfl)
  go_loopw [6, 7] (fun v i wr => ∃ k : Nat, k + 1 ≤ n ∧ i = .int .i64 (k + 1 : Nat) ∧ wr.ownsRow w2.heap.size 3 1 v (k + 1) (iv ((orL roI b x n).take (k + 1))) ∧ Below w2.heap.size w2 wr) (fun _ i _ => n - (intOf i).toNat)
  case atStart =>
    refine ⟨0, by omega, rfl, ?_, (Below.refl _ _).alloc (Nat.le_refl _) _⟩
    rw [iv_snoc (by rw [orL_length]; omega), HR0.out]
    exact HO0.out
  case round =>
    clear HO0
    obtain ⟨k, hk, rfl, hown, hB⟩ := hrel
    have HO := Lib.hid hown
    clear hown
    by_cases hlt : k + 1 < n
    · have hcg := (HC.out.below hB zg).cell hlt
      have hcg1 := (HC.out.below hB zg).cell (show k < n by omega)
      unfold digF at hcg hcg1
      have m3 := (hB.cell (p := ⟨w.heap.size, 1, none⟩) hz).trans m2
      have hdl : 0 ≤ (digL b x n).getD (k + 1) 0 ∧ (digL b x n).getD (k + 1) 0 < b := by
        rw [digL_at hlt]; exact ⟨Int.emod_nonneg _ (by omega), Int.emod_lt_of_pos _ (by omega)⟩
      have hdl1 : 0 ≤ (digL b x n).getD k 0 ∧ (digL b x n).getD k 0 < b := by
        rw [digL_at (by omega)]; exact ⟨Int.emod_nonneg _ (by omega), Int.emod_lt_of_pos _ (by omega)⟩
      have HSN := Lib.hid (iv_snoc (ds := orL roI b x n) (k := k + 1) (by rw [orL_length]; exact hlt))
      have E1 := Lib.hid (ro_round (x := x) h2 hlt)
      generalize (digL b x n).getD (k + 1) 0 = d at hcg hdl E1
      generalize (digL b x n).getD k 0 = d' at hcg1 hdl1 E1
      obtain ⟨d0, d1⟩ := hdl
      obtain ⟨d2, d3⟩ := hdl1
      have hk0 : (0 : Int) ≤ (k : Int) + 1 := by omega
      have hk1 : k < n := by omega
      have hw1 : IntKind.i64.wrap (k : Int) = (k : Int) := IntWalk.i64_in _ (by omega)
      have hw2 : IntKind.i64.wrap (d - d') = d - d' := IntWalk.i64_in _ (by omega)
      have HO1 := Lib.hid ((own_below HO.out (bel_drew (Below.refl wr.heap.size wr))).alloc (.cells #[.int .i64 (modI b (d - d'))] 3))
      have HB1' := Lib.hid ((bel_drew hB).alloc (show w2.heap.size ≤ wr.drew.heap.size from hB.size) (.cells #[.int .i64 (modI b (d - d'))] 3))
      go_wp2_with fail
      go_region_law (first
        | (go_simp; go_at_call 101; refine (l1Mod_any _ _ _ (by omega) (by omega)).mono ?_; rintro e w3 ⟨rfl, rfl⟩)
        | (refine step_app rfl (.tmp 22) (.tmp 36) 43 rfl w2.heap.size 3 i0 (.int .i64 0) 1 8 Try.underlying43 hi hz0 hz1 hz2 rfl (by decide) u6 (k + 1) (iv ((orL roI b x n).take (k + 1))) rfl HO1.out ⟨wr.heap.size, 0, none⟩ 1 1 [.int .i64 (modI b (d - d'))] rfl rfl (news_one rfl) (by simp [Value.oneCell']) (by unfold maxLen; omega) (by omega) HB1'.out.size ?_; intro v' w4 hown' hgrow
           have HB4 := Lib.hid (HB1'.out.grown hgrow HB1'.out.size (fun j hj => (HO1.out.lt j hj).1))
           have HO4 : Hid (w4.ownsRow w2.heap.size 3 1 v' (k + 1 + 1) (iv ((orL roI b x n).take (k + 1 + 1)))) := Lib.hid (by rw [HSN.out, E1.out]; exact hown')
           clear hgrow hown'))
      all_goals
        go_wp2_with fail
        go_roundw
        case rel => exact ⟨k + 1, by omega, by go_num, HO4.out, HB4.out⟩
        case measure => simp [intOf]; omega
    · obtain rfl : k + 1 = n := by omega
      have ho := HO.out
      rw [List.take_of_length_le (by rw [orL_length]; omega)] at ho
      obtain ⟨g2, c2, rfl, hg2, hC2⟩ := own_cells ho (by omega)
      have HC2 := Lib.hid hC2
      clear hC2 ho
      go_wp2_with (go_at_call 98; refine (whText_n _ _ (orL roI b x (k + 1)) (orL_length _ _ _ _) _ HC2.out (orL_digits h10 (roI_bd h2)) (by omega)).mono ?_; rintro e w3 ⟨rfl, hb3⟩)
      go_ret
      exact ⟨rfl, bel_call (HB2.out.trans (hB.mono (Nat.le_of_lt hz))) hb3⟩

end Go.Proofs.Ytpbnleohbegccaa
