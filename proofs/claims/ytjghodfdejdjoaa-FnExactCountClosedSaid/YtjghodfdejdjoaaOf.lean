/- The round order: the code with a rank, as both programs make it. No conditions. -/
import Derived.Test.YtjghodfdejdjoaaOe
import Derived.Test.YtjghodfdejdjoaaAdd
import Derived.Deep.RegionLaw
import Derived.Laws.Concat
import Derived.Laws.Strings
namespace Go.Proofs.Ytjghodfdejdjoaa
open Go.ChangeShapes Go.WideShapes Go.ChangeAt Go.RowKit Go.Joins

/-- append onto a row of the call's own, as one step of a region that draws. -/
theorem step_app {P : Program} {ops : Array Oper} {o : Oper} {a : Act} {w : World} {K : Act → World → Prop} {Q : Exit → Act → World → Prop} {E : Prop}
    (hg : o.guard = none) (s x : Operand) (t : TypeId) (hop : o.op = Op.call { callee := Callee.builtin Builtin.append, args := #[s, x], argTypes := #[t, t] })
    (base : Nat) (e : TypeId) (i : TypeInfo) (z : Value) (size bytes : Nat) (h1 : P.underlying t = some (.slice e)) (h2 : P.info? e = some i) (h3 : i.zero = some z) (h4 : i.size = size) (h5 : i.bytes = bytes) (h6 : z.cells.size = size) (h7 : 0 < size)
    (v : Value) (n : Nat) (xs : List Value) (hs : a.eval s = v) (hown : w.ownsRow base e size v n xs)
    (ad : Addr) (m c : Nat) (news : List Value) (hx : a.eval x = .slice (some ad) m c) (hn : news.length = m * size) (hc : ∀ j u, news[j]? = some u → w.cell? (ad.add j) = some u) (h1c : ∀ u ∈ news, u.oneCell' = true)
    (b1 : n + m ≤ maxLen) (b2 : (n + m) * bytes ≤ 140737488355328) (hbase : base ≤ w.heap.size)
    (hK : ∀ v' w', w'.ownsRow base e size v' (n + m) (xs ++ news) → w.grownBy w' v.ownBlock → K (a.put o.dst v') w') :
    if Region.wanted o (yielded ops a.tmps) = true then Oper.wp P o a w K Q else E := by
  have hw : Region.wanted o (yielded ops a.tmps) = true := by simp [Region.wanted, hg]
  rw [if_pos hw]
  obtain ⟨v', w', hrun, r1, r2, _⟩ := run_append_own (P := P) w base t o.type e i z size bytes h1 h2 h3 h4 h5 h6 h7 v n xs hown ad m c news hn hc h1c b1 b2 hbase
  unfold Oper.wp
  simp [execOp, hop, resolve, invoke, builtin, hs, hx, hrun, Result.andThen]
  exact hK v' w' r1 r2

/-- One wheel of it. -/
theorem ro_round {b x : Int} {n k : Nat} (h2 : 2 ≤ b) (hk : k + 1 < n) : (orL roI b x n).getD (k + 1) 0 = modI b ((digL b x n).getD (k + 1) 0 - (digL b x n).getD k 0) := by
  rw [orL_at hk, digL_at hk, digL_at (show k < n by omega), show n - 1 - k = (n - 1 - (k + 1)) + 1 by omega, div_pw h2]
  unfold roI modI
  generalize x / pw b (n - 1 - (k + 1)) = q
  rw [Int.emod_sub_emod, Int.sub_emod_emod]

theorem ro_first {b x : Int} {n : Nat} (h2 : 2 ≤ b) (hn : 0 < n) (h0 : 0 ≤ x) (hx : x < pw b n) : (orL roI b x n).getD 0 0 = (digL b x n).getD 0 0 := by
  rw [orL_at hn, digL_at hn]
  unfold roI
  have : x / pw b (n - 1 - 0) / b = 0 := by
    rw [← div_pw h2, show n - 1 - 0 + 1 = n by omega]
    exact Int.ediv_eq_zero_of_lt h0 hx
  rw [this, Int.sub_zero]

/-- The digits ahead of each wheel's. -/
def befL (ds : List Int) (n : Nat) : List Int := 0 :: ds.take (n - 1)

theorem befL_length {ds : List Int} {n : Nat} (h : ds.length = n) (hn : 0 < n) : (befL ds n).length = n := by
  unfold befL; rw [List.length_cons, List.length_take]; omega

theorem befL_at {ds : List Int} {n k : Nat} (h : ds.length = n) (hk : k < n) : (befL ds n).getD k 0 = if k = 0 then 0 else ds.getD (k - 1) 0 := by
  unfold befL
  cases k with
  | zero => rfl
  | succ k =>
    rw [if_neg (by omega)]
    simp only [List.getD, List.getElem?_cons_succ, Nat.add_sub_cancel]
    rw [List.getElem?_take_of_lt (by omega)]

theorem ro_zip {b x : Int} {n : Nat} (h2 : 2 ≤ b) (hn : 0 < n) (h0 : 0 ≤ x) (hx : x < pw b n) : (digL b x n).zipWith (subI b) (befL (digL b x n) n) = orL roI b x n := by
  have hl := digL_length b x n
  have hb := befL_length hl hn
  apply List.ext_getElem
  · rw [List.length_zipWith, hl, hb, orL_length, Nat.min_self]
  · intro i i1 i2
    rw [orL_length] at i2
    have e1 : ((digL b x n).zipWith (subI b) (befL (digL b x n) n)).getD i 0 = (orL roI b x n).getD i 0 := by
      rw [zip_at _ _ _ (by rw [hl]; exact i2) (by rw [hb]; exact i2), befL_at hl i2]
      cases i with
      | zero =>
        rw [if_pos rfl, ro_first h2 hn h0 hx, digL_at hn]
        unfold subI
        rw [Int.sub_zero, Int.emod_emod_of_dvd _ (Int.dvd_refl b)]
      | succ i =>
        rw [if_neg (by omega), Nat.add_sub_cancel, ro_round h2 i2]; rfl
    simpa only [List.getD, List.getElem?_eq_getElem i1, List.getElem?_eq_getElem (show i < (orL roI b x n).length by rw [orL_length]; exact i2), Option.getD_some] using e1

theorem txt_list (ds : List Int) : (textOf ds).data.toList = ds.map fun d => UInt8.ofNat (48 + d).toNat := by
  unfold textOf
  rw [strOfNums_data, List.map_map]
  rfl

theorem bytesX {s t : ByteArray} (h : s.data.toList = t.data.toList) : s = t := by
  have := Array.toList_inj.1 h
  cases s; cases t; simp at this; rw [this]

theorem bef_text (ds : List Int) (n : Nat) : textOf [0] ++ (textOf ds).extract 0 (n - 1) = textOf (befL ds n) := by
  refine bytesX ?_
  rw [ByteArray.data_append, Array.toList_append, ByteArray.data_extract, Array.toList_extract, txt_list, txt_list, txt_list]
  simp [befL, List.extract, List.map_take]

theorem bef_good {b x : Int} {n : Nat} (hg : goodB n b = true) (hn : 0 < n) : askB n b (textOf (befL (digL b x n) n)) = true := by
  have hg' := good_yes hg
  refine ask_of hg ⟨by rw [befL_length (digL_length _ _ _) hn], fun j hj => ?_⟩
  rw [befL_length (digL_length _ _ _) hn] at hj
  rw [befL_at (digL_length _ _ _) hj]
  split
  · omega
  · rw [digL_at (by omega)]
    exact ⟨Int.emod_nonneg _ (by omega), Int.emod_lt_of_pos _ (by omega)⟩

end Go.Proofs.Ytjghodfdejdjoaa
