/- All whole orders from the code of zeros on, as both programs find them, and how many of them are closed. For any lock; of the lists of codes that are asked about, for those that are no longer than any may be. -/
import Derived.Test.YtjghodfdejdjoaaOp
import Derived.Lib.AppendZeros
import Derived.Lib.BufferMore
import Derived.OwnWalk
import Derived.Test.YtjghodfdejdjoaaOr2
import Derived.Maps.AppendAt
import Derived.Deep.AppendSrc
import Derived.Test.YtjghodfdejdjoaaMs
import Derived.Test.YtjghodfdejdjoaaOo
import Derived.Test.YtjghodfdejdjoaaDead
import Derived.Test.YtjghodfdejdjoaaNb
import Derived.Deep.RegionWith
import Derived.Deep.RegionHeld3
import Derived.Test.YtjghodfdejdjoaaOf
import Derived.Test.YtjghodfdejdjoaaFirst

namespace Go.Proofs.Ytjghodfdejdjoaa
set_option maxRecDepth 100000
open Go.ChangeShapes Go.WideShapes Go.ChangeAt Go.RowKit Go.Joins

theorem indexS_any (A : Option Addr) (n c : Nat) (ts : List ByteArray) (s : ByteArray) (w : World) (hn : n ≤ maxLen) (hA : ArgS w A n ts) :
    Calls Try.prog 58 #[.slice A n c, .string s] w fun e w' => ∃ i : Int, e = .returned (.int .i64 i) ∧ decide (0 ≤ i) = inS ts s ∧ -1 ≤ i ∧ i ≤ 9223372036854775807 ∧ w = w' := by
  unfold maxLen at hn
  have HL := Lib.hid hA.len
  rcases hA.at_ with h0 | ⟨B, off, rfl, hb, hc⟩
  · subst h0
    have HV : Hid (inS ts s = false) := Lib.hid (by rw [List.length_eq_zero_iff.1 HL.out]; exact inS_no (by simp))
    clear hA
    go_enter Try.func58, Try.ntmps58
    go_wp2_with fail
    go_loop [8] (fun i => i = .int .i64 0) (fun _ => 0)
    case atStart => rfl
    case round =>
      obtain rfl := hrel
      go_wp2_with fail
      go_ret
      exact ⟨-1, rfl, HV.out.symm, by omega, by omega, rfl⟩
  · have HC := Lib.hid hc
    clear hc hA
    go_enter Try.func58, Try.ntmps58
    go_wp2_with fail
    go_loop [8] (fun i => ∃ k : Nat, k ≤ n ∧ i = .int .i64 k ∧ s ∉ ts.take k) (fun i => n - (intOf i).toNat)
    case atStart => exact ⟨0, by omega, rfl, by simp⟩
    case round =>
      obtain ⟨k, hk, rfl, hall⟩ := hrel
      have HAL := Lib.hid hall
      clear hall
      by_cases hlt : k < n
      · have o1 := HC.out k hlt
        have HM : Hid (ts.getD k ByteArray.empty ∈ ts) := Lib.hid (by rw [getD_eq (by rw [HL.out]; exact hlt)]; exact List.getElem_mem _)
        have HS : Hid (ts.getD k ByteArray.empty ≠ s → s ∉ ts.take (k + 1)) := Lib.hid (notin_snoc (by rw [HL.out]; exact hlt) HAL.out)
        generalize ts.getD k ByteArray.empty = x at o1 HM HS
        by_cases he : x = s
        · subst he
          have HV : Hid (inS ts x = true) := Lib.hid (inS_yes HM.out)
          have hb0 : (x.toList == x.toList) = true := by simp
          go_wp2_with fail
          go_ret
          exact ⟨(k : Int), rfl, by rw [HV.out]; exact decide_eq_true (by omega), by omega, by omega, rfl⟩
        · have HN := Lib.hid (HS.out he)
          have hb0 := bytesN he
          have hb1 := bytesN (fun e => he e.symm : s ≠ x)
          go_wp2_with fail
          go_round
          case rel => exact ⟨k + 1, by omega, by go_num, HN.out⟩
          case measure => simp [intOf]; omega
      · have HV : Hid (inS ts s = false) := Lib.hid (inS_no (by
          have := HAL.out
          rwa [List.take_of_length_le (by rw [HL.out]; omega)] at this))
        go_wp2_with fail
        go_ret
        exact ⟨-1, rfl, HV.out.symm, by omega, by omega, rfl⟩

theorem containsS_any (A : Option Addr) (n c : Nat) (ts : List ByteArray) (s : ByteArray) (w : World) (hn : n ≤ maxLen) (hA : ArgS w A n ts) :
    Calls Try.prog 44 #[.slice A n c, .string s] w fun e w' => e = .returned (.bool (inS ts s)) ∧ w = w' := by
  have HX := Lib.hid (fun (W : World) (h : W = w) => (by subst h; exact indexS_any A n c ts s W hn hA : Calls Try.prog 58 #[.slice A n c, .string s] W fun e w' => ∃ i : Int, e = .returned (.int .i64 i) ∧ decide (0 ≤ i) = inS ts s ∧ -1 ≤ i ∧ i ≤ 9223372036854775807 ∧ W = w'))
  clear hn hA
  go_enter Try.func44, Try.ntmps44
  go_wp2_with (go_at_call 58; refine (HX.out _ rfl).mono ?_; rintro e w1 ⟨i, rfl, hi, hi1, hi2, rfl⟩)
  go_ret
  exact ⟨rfl, rfl⟩

set_option maxHeartbeats 2000000 in
theorem growS_any (n : Nat) (h0 : 0 < n) (hn : n ≤ 1000) (w : World) :
    Calls Try.prog 59 #[.slice none 0 0, .int .i64 n] w fun e w' => ∃ v, e = .returned v ∧ w'.ownsRow w.heap.size 9 1 v 0 [] ∧ Below w.heap.size w w' := by
  obtain ⟨i0, hi, hy0, hy1, hy2⟩ := info_parts info_string
  have HR := Lib.hid (fun W : World => Lib.run_append_nil_zeros (P := Try.prog) W 24 3 24 9 i0 (.string ByteArray.empty) .i64 .i64 Try.underlying24 Try.underlying3 hi hy0 n h0 (by omega) (by omega) (by rw [hy2]; omega))
  go_enter Try.func59, Try.ntmps59
  go_wp2_with (at_builtin; refine Lib.wpList_append_run _ rfl _ _ 24 3 rfl (.slice none 0 0) (.int .i64 n) rfl rfl _ _ (HR.out _) ?_)
  go_ret
  refine ⟨_, rfl, ?_, ?_⟩
  · exact World.ownsRow_made _ _ _ (Nat.le_refl _) (grownCap_le_maxLen _ _ _ _ (by unfold maxLen; omega)) (by rw [Array.size_append, size_zeroCells, size_zeroCells]; have := grownCap_ge w n 0 9; simp; omega)
  · (repeat (first | assumption | exact Below.refl _ _ | (refine Below.alloc ?_ (by first | omega | (simp; done) | (simp; omega)) _) | (refine Below.setCell ?_ (by first | omega | (simp; done) | (simp; omega)) _) | refine bel_drewN ?_ _ | refine bel_drew ?_ | (refine bel_call ?_ (by assumption))))

/-- A list of values that lies somewhere. -/
structure PartS (w : World) (a : Addr) (n : Nat) (vs : List Value) : Prop where
  len : vs.length = n
  lt : a.block < w.heap.size
  at_ : ∀ j u, vs[j]? = some u → w.cell? (a.add j) = some u
  one : ∀ u ∈ vs, u.oneCell' = true

theorem addS_block (a : Addr) (j : Nat) : (a.add j).block = a.block := by unfold Addr.add; split <;> rfl

theorem PartS.below {w w' : World} {a : Addr} {n B : Nat} {vs : List Value} (h : PartS w a n vs) (hb : Below B w w') (hB : w.heap.size ≤ B) : PartS w' a n vs :=
  ⟨h.len, Nat.lt_of_lt_of_le h.lt hb.size, fun j u hj => by rw [hb.cell (p := a.add j) (by rw [addS_block]; have := h.lt; omega)]; exact h.at_ j u hj, h.one⟩

def twoSF (x y : Value) (j : Nat) : Value := (#[x, y] : Array Value).toList.getD j undef

set_option maxHeartbeats 4000000 in
theorem concatS_any (g : Nat) (a0 a1 : Addr) (n0 c0 n1 c1 cp : Nat) (v0 v1 : List Value) (w : World) (h0 : 0 < n0 + n1) (hn : n0 + n1 ≤ 1000) (hC : Cells w g 2 (twoSF (.slice (some a0) n0 c0) (.slice (some a1) n1 c1))) (hp0 : PartS w a0 n0 v0) (hp1 : PartS w a1 n1 v1) :
    Calls Try.prog 45 #[.slice (some ⟨g, 0, none⟩) 2 cp] w fun e w' => ∃ v, e = .returned v ∧ w'.ownsRow w.heap.size 9 1 v (n0 + n1) (v0 ++ v1) ∧ Below w.heap.size w w' := by
  obtain ⟨i0, hi, hy0, hy1, hy2⟩ := info_parts info_string
  have HC := Lib.hid hC
  have P0 := Lib.hid hp0
  have P1 := Lib.hid hp1
  have x0 : w.cell? ⟨g, 0, none⟩ = some (.slice (some a0) n0 c0) := hC.cell (show 0 < 2 by omega)
  have x1 : w.cell? ⟨g, 1, none⟩ = some (.slice (some a1) n1 c1) := hC.cell (show 1 < 2 by omega)
  clear hC hp0 hp1
  go_enter Try.func45, Try.ntmps45
  go_wp2_with fail
  go_loop [3, 11] (fun s i => (i = .int .i64 0 ∧ s = .int .i64 0) ∨ (i = .int .i64 1 ∧ s = .int .i64 n0) ∨ (i = .int .i64 2 ∧ s = .int .i64 ((n0 : Int) + n1))) (fun _ i => 2 - (intOf i).toNat)
  case atStart => exact .inl ⟨rfl, rfl⟩
  case round =>
    rcases hrel with ⟨rfl, rfl⟩ | ⟨rfl, rfl⟩ | ⟨rfl, rfl⟩
    · go_wp2_with fail
      go_round
      case rel => exact .inr (.inl ⟨rfl, rfl⟩)
      case measure => decide
    · go_wp2_with fail
      go_round
      case rel => exact .inr (.inr ⟨rfl, rfl⟩)
      case measure => decide
    · obtain ⟨N, hN⟩ : ∃ N, n0 + n1 = N := ⟨_, rfl⟩
      have HN := Lib.hid hN
      have hNi : (n0 : Int) + (n1 : Int) = (N : Int) := by omega
      rw [hNi]
      have hn0 : n0 ≤ 1000 := by omega
      have hn1 : n0 + n1 ≤ 1000 := by omega
      rw [hN] at h0 hn
      clear hNi hN x0 x1
      go_wp2_with (go_at_call 59; refine (growS_any N h0 hn _).mono ?_; rintro e w1 ⟨v, rfl, hO, hb⟩)
      have HCW := Lib.hid (HC.out.call hb)
      have Q0 := Lib.hid (P0.out.below hb (Nat.le_refl _))
      have Q1 := Lib.hid (P1.out.below hb (Nat.le_refl _))
      have hs1 := hb.size
      go_loopw [6, 27] (fun v i wr => ((i = .int .i64 0 ∧ wr.ownsRow w.heap.size 9 1 v 0 []) ∨ (i = .int .i64 1 ∧ wr.ownsRow w.heap.size 9 1 v n0 v0) ∨ (i = .int .i64 2 ∧ wr.ownsRow w.heap.size 9 1 v (n0 + n1) (v0 ++ v1))) ∧ Below w.heap.size w wr) (fun _ i _ => 2 - (intOf i).toNat)
      case atStart => exact ⟨.inl ⟨rfl, hO⟩, hb⟩
      case round =>
        clear hO hb hs1 HCW Q0 Q1
        obtain ⟨hrel, hB⟩ := hrel
        have Q0 := Lib.hid (P0.out.below hB (Nat.le_refl _))
        have Q1 := Lib.hid (P1.out.below hB (Nat.le_refl _))
        have HCR := Lib.hid (HC.out.call hB)
        have hsz := hB.size
        have x0 : wr.cell? ⟨g, 0, none⟩ = some (.slice (some a0) n0 c0) := HCR.out.cell (show 0 < 2 by omega)
        have x1 : wr.cell? ⟨g, 1, none⟩ = some (.slice (some a1) n1 c1) := HCR.out.cell (show 1 < 2 by omega)
        rcases hrel with ⟨rfl, hO⟩ | ⟨rfl, hO⟩ | ⟨rfl, hO⟩
        · have HO := Lib.hid hO
          clear hO
          go_wp2_with (at_builtin; refine wpList_append_own _ rfl _ _ 24 rfl w.heap.size 9 i0 (.string ByteArray.empty) 1 16 Try.underlying24 hi hy0 hy1 hy2 rfl (by decide) _ _ _ rfl HO.out a0 n0 c0 v0 rfl (by rw [Q0.out.len, Nat.mul_one]) Q0.out.at_ Q0.out.one (by unfold maxLen; omega) (by omega) hsz ?_; intro v' w2 hown' hgrow hiff; clear hiff)
          have HB2 := Lib.hid (hB.grown hgrow hsz (fun j hj => (HO.out.lt j hj).1))
          have HO2 := Lib.hid hown'
          clear hown' hgrow
          go_roundw
          case rel => exact ⟨.inr (.inl ⟨rfl, by simpa using HO2.out⟩), HB2.out⟩
          case measure => decide
        · have HO := Lib.hid hO
          clear hO
          go_wp2_with (at_builtin; refine wpList_append_own _ rfl _ _ 24 rfl w.heap.size 9 i0 (.string ByteArray.empty) 1 16 Try.underlying24 hi hy0 hy1 hy2 rfl (by decide) _ _ _ rfl HO.out a1 n1 c1 v1 rfl (by rw [Q1.out.len, Nat.mul_one]) Q1.out.at_ Q1.out.one (by unfold maxLen; omega) (by omega) hsz ?_; intro v' w2 hown' hgrow hiff; clear hiff)
          have HB2 := Lib.hid (hB.grown hgrow hsz (fun j hj => (HO.out.lt j hj).1))
          have HO2 := Lib.hid hown'
          clear hown' hgrow
          go_roundw
          case rel => exact ⟨.inr (.inr ⟨rfl, HO2.out⟩), HB2.out⟩
          case measure => decide
        · go_wp2_with fail
          go_ret
          exact ⟨_, rfl, by rw [← HN.out]; exact hO, hB⟩

end Go.Proofs.Ytjghodfdejdjoaa

namespace Go.Proofs.Ytjghodfdejdjoaa
open Go.ChangeShapes Go.WideShapes Go.ChangeAt Go.RowKit Go.Joins

/-- The values are the lists, each in memory that is known, and none in the block x. -/
structure OrdV (w : World) (B C : Nat) (x : Option Nat) (vs : List Value) (Ms : List (List ByteArray)) : Prop where
  len : vs.length = Ms.length
  row : ∀ j, j < Ms.length → ∃ A c, vs[j]? = some (.slice A C c) ∧ OwnS w B A C (Ms.getD j []) ∧ ∀ g, A = some ⟨g, 0, none⟩ → x ≠ some g

theorem OrdV.call {w w' : World} {B C : Nat} {x : Option Nat} {vs : List Value} {Ms : List (List ByteArray)} (h : OrdV w B C x vs Ms) (hb : Below w.heap.size w w') : OrdV w' B C x vs Ms :=
  ⟨h.len, fun j hj => let ⟨A, c, e, o, q⟩ := h.row j hj; ⟨A, c, e, o.keep hb, q⟩⟩

theorem OrdV.nil (w : World) (B C : Nat) (x : Option Nat) : OrdV w B C x [] [] := ⟨rfl, fun j hj => by simp at hj⟩

theorem OrdV.app {w : World} {B C : Nat} {x : Option Nat} {vs us : List Value} {Ms Ns : List (List ByteArray)} (h : OrdV w B C x vs Ms) (h' : OrdV w B C x us Ns) : OrdV w B C x (vs ++ us) (Ms ++ Ns) := by
  refine ⟨by rw [List.length_append, List.length_append, h.len, h'.len], fun j hj => ?_⟩
  rw [List.length_append] at hj
  by_cases hlt : j < Ms.length
  · obtain ⟨A, c, e, o⟩ := h.row j hlt
    refine ⟨A, c, by rw [List.getElem?_append_left (by rw [h.len]; exact hlt)]; exact e, ?_⟩
    have : (Ms ++ Ns).getD j [] = Ms.getD j [] := by simp [List.getD, List.getElem?_append_left hlt]
    rwa [this]
  · obtain ⟨A, c, e, o⟩ := h'.row (j - Ms.length) (by omega)
    refine ⟨A, c, by rw [List.getElem?_append_right (by rw [h.len]; omega), h.len]; exact e, ?_⟩
    have : (Ms ++ Ns).getD j [] = Ns.getD (j - Ms.length) [] := by simp [List.getD, List.getElem?_append_right (show Ms.length ≤ j by omega)]
    rwa [this]

theorem OrdV.one {w : World} {B C : Nat} {A : Option Addr} {c : Nat} {L : List ByteArray} (h : OwnS w B A C L) : OrdV w B C none [.slice A C c] [L] :=
  ⟨rfl, fun j hj => by
    obtain rfl : j = 0 := by simpa using hj
    exact ⟨A, c, rfl, by simpa using h, fun _ _ e => by cases e⟩⟩

theorem OrdV.cells1 {w : World} {B C : Nat} {x : Option Nat} {vs : List Value} {Ms : List (List ByteArray)} (h : OrdV w B C x vs Ms) : ∀ u ∈ vs, u.oneCell' = true := by
  intro u hu
  obtain ⟨j, hj, rfl⟩ := List.getElem_of_mem hu
  obtain ⟨A, c, e, _⟩ := h.row j (by rw [← h.len]; exact hj)
  rw [List.getElem?_eq_getElem hj] at e
  rw [Option.some.inj e]
  rfl

/-- Lists that lie above a place are in no block below it. -/
theorem OrdV.above {w : World} {B B' C : Nat} {x y : Option Nat} {vs : List Value} {Ms : List (List ByteArray)} (h : OrdV w B C x vs Ms) (hB : B' ≤ B) (hC : 0 < C) (hy : ∀ k, y = some k → k < B) : OrdV w B' C y vs Ms :=
  ⟨h.len, fun j hj => let ⟨A, c, e, o, q⟩ := h.row j hj; ⟨A, c, e, o.base hB, fun g eg => by
    intro e2
    have h1 := hy g e2
    rcases o.2.2 with h0 | ⟨g', e', hg', _⟩
    · omega
    · rw [eg] at e'
      cases e'
      omega⟩⟩

/-- .. and they stay where a row is appended to. -/
theorem OrdV.grown {w w' : World} {B C : Nat} {x y : Option Nat} {vs : List Value} {Ms : List (List ByteArray)} (h : OrdV w B C x vs Ms) (hg : w.grownBy w' x) (hC : 0 < C) (hy : y = x ∨ y = some w.heap.size) : OrdV w' B C y vs Ms :=
  ⟨h.len, fun j hj => by
    obtain ⟨A, c, e, o, q⟩ := h.row j hj
    rcases o.2.2 with h0 | ⟨g, rfl, hgB, hCe⟩
    · omega
    · have hne := q g rfl
      have hb := hg.block g hCe.lt (fun e => hne e.symm)
      refine ⟨_, c, e, ⟨o.1, o.2.1, .inr ⟨g, rfl, hgB, Nat.lt_of_lt_of_le hCe.lt hg.size, fun i hi => ?_⟩⟩, fun g' eg e2 => ?_⟩
      · rw [World.cell?_of_block (a := ⟨g, i, none⟩) hb, World.frozen?_of_block (a := ⟨g, i, none⟩) hb]
        exact hCe.at_ i hi
      · cases eg
        rcases hy with rfl | rfl
        · exact hne e2
        · cases e2
          exact Nat.lt_irrefl _ hCe.lt⟩

/-- What the search hands back. -/
def WhOut (w : World) (B C : Nat) (Ms : List (List ByteArray)) (e : Ending) (w' : World) : Prop :=
  ∃ v vs, e = .returned v ∧ w'.ownsRow w.heap.size 24 1 v Ms.length vs ∧ OrdV w' B C none vs Ms ∧ Below w.heap.size w w'

/-- A row put behind a row of the call's own, whatever it is. -/
theorem run_app2 {P : Program} {w : World} (base : Nat) (t ty e : TypeId) (i : TypeInfo) (z : Value) (bytes : Nat) (ht : P.underlying t = some (.slice e)) (hi : P.info? e = some i) (hz : i.zero = some z)
    (hsize : i.size = 1) (hby : i.bytes = bytes) (hzs : z.cells.size = 1) (v : Value) (n : Nat) (xs : List Value) (hown : w.ownsRow base e 1 v n xs)
    {base' : Nat} (u : Value) (m : Nat) (ys : List Value) (hown' : w.ownsRow base' e 1 u m ys) (h1 : ∀ c ∈ ys, c.oneCell' = true)
    (h63 : n + m ≤ maxLen) (hbytes : (n + m) * bytes ≤ 140737488355328) (hbase : base ≤ w.heap.size) :
    ∃ v' w', (Builtin.append_ #[t, t] ty #[v, u]).run P w = .ok v' w' ∧ w'.ownsRow base e 1 v' (n + m) (xs ++ ys) ∧ w.grownBy w' v.ownBlock ∧ (v'.ownBlock = v.ownBlock ∨ v'.ownBlock = some w.heap.size) := by
  have hl := hown'.1
  rcases hown'.2 with ⟨rfl, rfl⟩ | ⟨g, cap, cur, rfl, _, hg, hnc, _, _, htk⟩
  · obtain rfl : ys = [] := List.eq_nil_of_length_eq_zero (by simpa using hl)
    have hgr : w.grownBy w v.ownBlock := ⟨rfl, rfl, rfl, Nat.le_refl _, fun _ _ _ => rfl⟩
    refine ⟨v, w, ?_, by simpa using hown, hgr, .inl rfl⟩
    rcases hown.2 with ⟨rfl, rfl⟩ | ⟨g, cap, cur, rfl, _, hg, hnc, _, _, _⟩
    · simp [Builtin.append_, run_underlying ht, sizeOf, typeInfo, hi, Builtin.lenOf, Builtin.firstCells]
    · have hrun := run_append_room_src (P := P) w t t ty e i ht hi g 0 n cap (.slice none 0 0) 0 [] (Src.ofNil w ht 0) (by omega) (by simp) (by simp)
      have h0 : ∀ k, w.setCells g k [] = w := fun k => by simp [World.setCells]
      rw [h0] at hrun
      exact hrun
  · have hx : ∀ j c, ys[j]? = some c → w.cell? ((⟨g, 0, none⟩ : Addr).add j) = some c := fun j c hc => by
      have hj := (List.getElem?_eq_some_iff.1 hc).1
      have hadd : (⟨g, 0, none⟩ : Addr).add j = ⟨g, j, none⟩ := by unfold Addr.add; split <;> simp_all
      rw [hadd, hown'.cellAt j (by omega)]
      exact hc
    obtain ⟨v', w', r1, r2, r3, _, r5⟩ := run_append_own_at (P := P) (w := w) base t ty e i z 1 bytes ht hi hz hsize hby hzs (by decide) v n xs hown ⟨g, 0, none⟩ m cap ys hl hx h1 h63 hbytes hbase
    exact ⟨v', w', r1, r2, r3, r5⟩

theorem info_strs : (Try.prog.info? 24).map (fun i => (i.zero, i.size, i.bytes)) = some (some (.slice none 0 0), 1, 24) := by kernel_rfl

theorem ownsRow_down {w : World} {B B' : Nat} {e : TypeId} {v : Value} {n : Nat} {xs : List Value} (h : w.ownsRow B e 1 v n xs) (hB : B' ≤ B) : w.ownsRow B' e 1 v n xs :=
  ⟨h.1, h.2.imp id fun ⟨g, cap, cur, e, hb, r⟩ => ⟨g, cap, cur, e, Nat.le_trans hB hb, r⟩⟩

/-- A row of one value that has just been made. -/
theorem owns_one {w : World} {B : Nat} {t : TypeId} {u : Value} (hB : B ≤ w.heap.size) : (w.alloc (.cells #[u] t)).ownsRow B t 1 (.slice (some ⟨w.heap.size, 0, none⟩) 1 1) 1 [u] := by
  have h := World.ownsRow_lit (base := B) (e := t) (size := 1) w #[u] 1 hB (by unfold maxLen; omega) rfl
  exact h

set_option maxRecDepth 100000 in
set_option maxHeartbeats 8000000 in
theorem wholeBehind_any (n : Nat) (b : Int) (C : Nat) (hg : goodB n b = true) (h9 : C ≤ 9) : ∀ (r m : Nat) (A : Option Addr) (c : Nat) (L : List ByteArray) (B : Nat) (w : World), m + r = C → Beg w n b A m L → OwnS w B A m L → B ≤ w.heap.size →
    Calls Try.prog 31 #[.agg #[.int .i64 n, .int .i64 b], .slice A m c, .int .i64 C] w (WhOut w B C (whL n b r L)) := by
  have HG := Lib.hid hg
  clear hg
  intro r
  induction r with
  | zero =>
    intro m A c L B w hm hB hO hBw
    have HO := Lib.hid hO
    obtain rfl : m = C := by omega
    have hC63 : (m : Int) ≤ 9 := by omega
    clear hB hO
    go_enter Try.func31, Try.ntmps31
    go_wp2_with fail
    go_ret
    have hb1 := (Below.refl w.heap.size w).alloc (Nat.le_refl _) (.cells #[.int .i64 n, .int .i64 b] 27)
    have hb2 := hb1.alloc (o := .cells #[.slice A m c] 24) (by simp)
    refine ⟨_, [.slice A m c], rfl, ?_, OrdV.one (HO.out.keep hb2), hb2⟩
    have h := owns_one (w := w.alloc (.cells #[.int .i64 n, .int .i64 b] 27)) (B := w.heap.size) (t := 24) (u := .slice A m c) (by simp)
    rw [World.size_alloc] at h
    exact h
  | succ r ih =>
    intro m A c L B w hm hB hO hBw
    obtain ⟨i0, hi, hy0, hy1, hy2⟩ := info_parts info_strs
    have HB := Lib.hid hB
    have HO := Lib.hid hO
    have HL := Lib.hid hB.arg.len
    obtain ⟨k, rfl⟩ : ∃ k, m = k + 1 := ⟨m - 1, by have := hB.pos; omega⟩
    obtain ⟨D, off, rfl, hbD, hcD⟩ := hB.arg.at_.resolve_left (by omega)
    have O2 := Lib.hid (hcD k (by omega))
    have HTA := Lib.hid (hB.ask k (by omega))
    have HWL : Hid (whL n b (r + 1) L = whP n b r L (nextL n b (L.getD k ByteArray.empty))) := Lib.hid (by rw [whL_succ, HL.out, Nat.add_sub_cancel])
    have HFW : Hid (∀ j, (whP n b r L ((nextL n b (L.getD k ByteArray.empty)).take j)).length ≤ 5159780352) := Lib.hid fun j => whP_few (by omega)
    have HNA : Hid (∀ x, x ∈ nextL n b (L.getD k ByteArray.empty) → askB n b x = true) := Lib.hid fun x hx => next_ask HTA.out hx
    have HNF := Lib.hid (next_few (a := n) (b := b) (s := L.getD k ByteArray.empty))
    clear hcD hB hO
    generalize L.getD k ByteArray.empty = t at *
    generalize hN : nextL n b t = N at *
    have HN := Lib.hid hN
    have HTZ : Hid (t.size ≤ maxLen) := Lib.hid (by have := (asked HTA.out).n6; have := (asked HTA.out).size; unfold maxLen; omega)
    have X0 := Lib.hid (show Below w.heap.size w (w.alloc (.cells #[.int .i64 n, .int .i64 b] 27)) from (Below.refl _ _).alloc (Nat.le_refl _) _)
    have C0 := Lib.hid (box_new (W := w) (a := n) (b := b) (t := 27) rfl)
    have hw1 : IntKind.i64.wrap (k : Int) = (k : Int) := IntWalk.i64_in _ (by omega)
    have hk0 : (0 : Int) < (k : Int) + 1 := by omega
    have hk3 : (k : Int) < (k : Int) + 1 := by omega
    have hne : ((k : Int) + 1 == (C : Int)) = false := by rw [beq_eq_false_iff_ne]; omega
    clear hN
    go_enter Try.func31, Try.ntmps31
    have l0 : (w.alloc (.cells #[.int .i64 n, .int .i64 b] 27)).cell? ⟨w.heap.size, 0, none⟩ = some (.int .i64 n) := C0.out.cell (show 0 < 2 by omega)
    have l1 : (w.alloc (.cells #[.int .i64 n, .int .i64 b] 27)).cell? ⟨w.heap.size, 1, none⟩ = some (.int .i64 b) := C0.out.cell (show 1 < 2 by omega)
    have o2 : (w.alloc (.cells #[.int .i64 n, .int .i64 b] 27)).cell? ⟨D, off + k, none⟩ = some (.string t) := (X0.out.cell (p := ⟨D, off + k, none⟩) hbD).trans O2.out
    go_wp2_with fail
    go_region_law (go_simp; go_at_call 43; refine (next_any _ _ _ _ HTZ.out).mono ?_; rw [HTA.out, HN.out]; rintro e w2 ⟨A2, c2, rfl, hO2, hb2⟩
                   have X2 := Lib.hid (bel_call (bel_drew X0.out) hb2)
                   have C2 := Lib.hid (C0.out.drew.call hb2)
                   have ON := Lib.hid hO2
                   clear hb2 hO2)
    all_goals
      clear l0 l1 o2 hne
      go_wp2_with fail
      have hw0 : whP n b r L (N.take 0) = [] := by rw [List.take_zero]; rfl
      go_loopw [32, 7] (fun i v wr => ∃ j : Nat, j ≤ N.length ∧ i = .int .i64 j ∧ ∃ vs, wr.ownsRow w2.heap.size 24 1 v (whP n b r L (N.take j)).length vs ∧ OrdV wr B C v.ownBlock vs (whP n b r L (N.take j)) ∧ Below w.heap.size w wr ∧ Below w2.heap.size w2 wr) (fun i _ _ => N.length - (intOf i).toNat)
      case atStart => exact ⟨0, Nat.zero_le _, rfl, [], by rw [hw0]; exact World.ownsRow_nil _ _ _ _, by rw [hw0]; exact OrdV.nil _ _ _ _, X2.out, Below.refl _ _⟩
      case round =>
        clear hw0
        obtain ⟨j, hj, rfl, vs, hOw, hV, hbw, hb2w⟩ := hrel
        have HOW := Lib.hid hOw
        have HVV := Lib.hid hV
        have HBW := Lib.hid hbw
        have ONR := Lib.hid (ON.out.keep hb2w)
        have C3 := Lib.hid (C2.out.call hb2w)
        have HB2W := Lib.hid hb2w
        have hww2 := X2.out.size
        clear hOw hV hbw hb2w
        by_cases hlt : j < N.length
        · obtain ⟨g, rfl, _, hCN⟩ := ONR.out.lt hlt
          have o3 := hCN.cell hlt
          unfold strF at o3
          have HXM : Hid (N.getD j ByteArray.empty ∈ N) := Lib.hid (by rw [getD_eq hlt]; exact List.getElem_mem _)
          have HSN : Hid (whP n b r L (N.take (j + 1)) = whP n b r L (N.take j) ++ (if hsS L (N.getD j ByteArray.empty) then [] else whL n b r (L ++ [N.getD j ByteArray.empty]))) := Lib.hid (by
            rw [List.take_succ_eq_append_getElem hlt, whP_snoc, ← getD_eq hlt])
          have HFJ1 := Lib.hid (HFW.out (j + 1))
          clear hCN
          generalize N.getD j ByteArray.empty = x at *
          have HXA := Lib.hid (HNA.out x HXM.out)
          obtain ⟨W1, hW1⟩ : ∃ W1, whP n b r L (N.take (j + 1)) = W1 := ⟨_, rfl⟩
          rw [hW1] at HSN HFJ1
          have HE1 := Lib.hid hW1
          have hN12 := HNF.out
          have hwj : IntKind.i64.wrap ((j : Int) + 1) = (j : Int) + 1 := IntWalk.i64_in _ (by omega)
          clear hW1
          generalize whP n b r L (N.take j) = W0 at *
          by_cases hh : hsS L x = true
          · have HH := Lib.hid hh
            have HW1 : Hid (W1 = W0) := Lib.hid (by rw [HSN.out, hh]; simp)
            clear hh
            go_wp2_with (go_at_call 44; refine (containsS_any _ _ _ L _ _ (by unfold maxLen; omega) (HB.out.arg.below HBW.out)).mono ?_; rw [inS_hsS, HH.out]; rintro e w4 ⟨rfl, rfl⟩)
            go_roundw
            case rel => exact ⟨j + 1, hlt, by go_num, vs, by rw [HE1.out, HW1.out]; exact HOW.out, by rw [HE1.out, HW1.out]; exact HVV.out, HBW.out, HB2W.out⟩
            case measure => simp [intOf]; omega
          · have HH := Lib.hid (Bool.eq_false_iff.2 hh)
            obtain ⟨V, hV⟩ : ∃ V, whL n b r (L ++ [x]) = V := ⟨_, rfl⟩
            have HV := Lib.hid hV
            have HW1 : Hid (W1 = W0 ++ V) := Lib.hid (by rw [HSN.out, HH.out, ← hV]; rfl)
            have HL1 : Hid (W0.length + V.length ≤ 5159780352) := Lib.hid (by have := HFJ1.out; rw [HW1.out, List.length_append] at this; exact this)
            have l0 : wr.cell? ⟨w.heap.size, 0, none⟩ = some (.int .i64 n) := C3.out.cell (show 0 < 2 by omega)
            have l1 : wr.cell? ⟨w.heap.size, 1, none⟩ = some (.int .i64 b) := C3.out.cell (show 1 < 2 by omega)
            have zw : w.heap.size < wr.heap.size := C3.out.lt
            obtain ⟨Wa, hWa⟩ : ∃ Wa, Wa = wr.alloc (.cells #[.string x] 9) := ⟨_, rfl⟩
            obtain ⟨Wb, hWb⟩ : ∃ Wb, Wb = Wa.alloc (.cells #[.slice (some ⟨D, off, none⟩) (k + 1) c, .slice (some ⟨wr.heap.size, 0, none⟩) 1 1] 24) := ⟨_, rfl⟩
            have BA : Below wr.heap.size wr Wa := by rw [hWa]; exact (Below.refl _ _).alloc (Nat.le_refl _) _
            have zA : Wa.heap.size = wr.heap.size + 1 := by rw [hWa]; simp
            have BB : Below wr.heap.size wr Wb := by rw [hWb]; exact BA.alloc (by omega) _
            have zB : Wb.heap.size = wr.heap.size + 1 + 1 := by rw [hWb]; simp [zA]
            have HCC : Hid (Cells Wb (wr.heap.size + 1) 2 (twoSF (.slice (some ⟨D, off, none⟩) (k + 1) c) (.slice (some ⟨wr.heap.size, 0, none⟩) 1 1))) := Lib.hid (by
              rw [hWb]
              refine ⟨by simp [zA], fun i hi => ?_⟩
              rw [← zA, World.cell?_alloc_new, World.frozen?_alloc_new]
              have : i = 0 ∨ i = 1 := by omega
              rcases this with rfl | rfl <;> exact ⟨rfl, rfl⟩)
            have HP0 : Hid (PartS Wb ⟨D, off, none⟩ (k + 1) (sv L)) := Lib.hid ⟨by simp [sv, HL.out], by show D < _; omega, sv_news HL.out (fun i hi => (((HB.out.arg.below HBW.out).below BB).at_.elim (fun h => by omega) (fun ⟨b', off', e, _, hc⟩ => by cases e; exact hc i hi))), svOne L⟩
            have HP1 : Hid (PartS Wb ⟨wr.heap.size, 0, none⟩ 1 [.string x]) := Lib.hid ⟨rfl, by show wr.heap.size < _; omega, fun i u hu => by
              have hi : i < 1 := (List.getElem?_eq_some_iff.1 hu).1
              obtain rfl : i = 0 := by omega
              have hadd : (⟨wr.heap.size, 0, none⟩ : Addr).add 0 = ⟨wr.heap.size, 0, none⟩ := by unfold Addr.add; split <;> simp_all
              rw [hadd, hWb, World.cell?_alloc_lt _ _ _ (by show wr.heap.size < _; omega), hWa, World.cell?_alloc_new]
              exact hu, fun u hu => by simp at hu; subst hu; rfl⟩
            have HBB := Lib.hid BB
            have HZB := Lib.hid zB
            clear hh BA zA BB zB
            subst hWa
            subst hWb
            go_wp2_with (first
              | (go_at_call 44; refine (containsS_any _ _ _ L _ _ (by unfold maxLen; omega) (HB.out.arg.below HBW.out)).mono ?_; rw [inS_hsS, HH.out]; rintro e w4 ⟨rfl, rfl⟩)
              | (go_at_call 45; refine (concatS_any _ _ _ _ _ _ _ _ (sv L) [.string x] _ (by omega) (by omega) HCC.out HP0.out HP1.out).mono ?_; rintro e w5 ⟨v5, rfl, hO5, hb5⟩
                 have B5 : Hid (Below wr.heap.size wr w5) := Lib.hid (HBB.out.trans (hb5.mono (by rw [HZB.out]; omega)))
                 obtain ⟨A5, c5, rfl, hO6⟩ := own_strs (ts := L ++ [x]) (by rw [sv_snoc]; exact hO5) (by omega)
                 have O6 := Lib.hid (hO6.base (B' := wr.heap.size) (by rw [HZB.out]; omega))
                 have BEG6 := Lib.hid (Beg.snoc HB.out.ask HL.out HXA.out hO6)
                 have n0 : w5.cell? ⟨w.heap.size, 0, none⟩ = some (.int .i64 n) := (B5.out.cell (p := ⟨w.heap.size, 0, none⟩) zw).trans l0
                 have n1 : w5.cell? ⟨w.heap.size, 1, none⟩ = some (.int .i64 b) := (B5.out.cell (p := ⟨w.heap.size, 1, none⟩) zw).trans l1
                 clear hO5 hb5 hO6)
              | (go_at_call 31; refine (ih (k + 1 + 1) A5 c5 (L ++ [x]) wr.heap.size w5 (by omega) BEG6.out O6.out B5.out.size).mono ?_; rintro e w7 ⟨v7, vs7, rfl, hO7, hV7, hb7⟩
                 rw [HV.out] at hO7 hV7
                 have B7 : Hid (Below wr.heap.size wr w7) := Lib.hid (bel_call B5.out hb7)
                 obtain ⟨v8, w8, hrun, hO8, hg8, hat8⟩ := run_app2 (P := Try.prog) (w := w7) w2.heap.size 38 38 24 i0 (.slice none 0 0) 24 Try.underlying38 hi hy0 hy1 hy2 rfl _ _ vs (own_keeps HOW.out B7.out) v7 _ vs7 hO7 hV7.cells1 (by have := HL1.out; unfold maxLen; omega) (by have := HL1.out; omega) (by have := HB2W.out.size; have := B7.out.size; omega)
                 have HRUN := Lib.hid hrun
                 have HO8 := Lib.hid hO8
                 have HG8 := Lib.hid hg8
                 have HAT8 := Lib.hid hat8
                 have HV7 := Lib.hid hV7
                 clear hrun hO8 hg8 hat8 hV7 hO7 hb7)
              | (at_builtin; refine Lib.wpList_append_run _ rfl _ _ 38 38 rfl _ _ rfl rfl _ _ HRUN.out ?_))
            have HB7 := Lib.hid (bel_call HBW.out (B7.out.mono (Nat.le_refl _)))
            have hown := HOW.out.lt
            have HX : Hid (OrdV w8 B C v8.ownBlock (vs ++ vs7) W1) := Lib.hid (by
              rw [HW1.out]
              refine OrdV.app ((HVV.out.call B7.out).grown HG8.out (by omega) HAT8.out) ((HV7.out.above (Nat.le_trans hBw (Nat.le_trans hww2 HB2W.out.size)) (by omega) (fun q hq => (hown q hq).2)).grown HG8.out (by omega) HAT8.out))
            have HY : Hid (w8.ownsRow w2.heap.size 24 1 v8 W1.length (vs ++ vs7)) := Lib.hid (by rw [HW1.out, List.length_append]; exact HO8.out)
            have HZ1 : Hid (Below w.heap.size w w8) := Lib.hid (HB7.out.grown HG8.out (by have := HB7.out.size; omega) (fun q hq => by have := (hown q hq).1; omega))
            have HZ2 : Hid (Below w2.heap.size w2 w8) := Lib.hid ((bel_call HB2W.out B7.out).grown HG8.out (by have := HB2W.out.size; have := B7.out.size; omega) (fun q hq => (hown q hq).1))
            clear hown
            go_roundw
            case rel => exact ⟨j + 1, hlt, by go_num, vs ++ vs7, by rw [HE1.out]; exact HY.out, by rw [HE1.out]; exact HX.out, HZ1.out, HZ2.out⟩
            case measure => simp [intOf]; omega
        · obtain rfl : j = N.length := by omega
          have HE : Hid (whP n b r L (N.take N.length) = whL n b (r + 1) L) := Lib.hid (by rw [List.take_length, HWL.out])
          go_wp2_with fail
          go_ret
          rw [HE.out] at HOW HVV
          exact ⟨_, vs, rfl, ownsRow_down HOW.out hww2, HVV.out.above (Nat.le_refl _) (by omega) (fun k h => by cases h), HBW.out⟩

end Go.Proofs.Ytjghodfdejdjoaa

namespace Go.Proofs.Ytjghodfdejdjoaa
open Go.ChangeShapes Go.WideShapes Go.ChangeAt Go.RowKit Go.Joins

/-- There is a lock of at most 9 codes. -/
def fewB (a b : Int) : Bool := goodB a b && decide (countZ a b ≤ 9)

theorem fewB_yes {a b : Int} (h : fewB a b = true) : goodB a b = true ∧ countZ a b ≤ 9 := by
  unfold fewB at h
  simpa using h

theorem dig_zero (b : Int) (n : Nat) : digL b 0 n = List.replicate n 0 := by
  unfold digL
  apply List.ext_getElem <;> simp

/-- All of them. -/
def wholeL (a b : Int) : List (List ByteArray) := if fewB a b then whL a b ((countZ a b).toNat - 1) [zerosT a b] else []

/-- The first one. -/
def fwZ (a b : Int) : List ByteArray := hdW (wholeL a b)

theorem wholeL_no {a b : Int} (h : fewB a b = false) : wholeL a b = [] := by unfold wholeL; rw [h]; rfl

theorem zeros_ask {n : Nat} {b : Int} (h : goodB n b = true) : askB n b (zerosT n b) = true := by
  obtain ⟨h1, h2, h3, h4⟩ := good_yes h
  rw [zerosT_yes h]
  exact ask_of h ⟨by simp, fun j hj => by rw [List.length_replicate] at hj; simp [List.getD, hj]; omega⟩

theorem count_pos {a b : Int} (hg : goodB a b = true) : 1 ≤ (countZ a b).toNat := by
  obtain ⟨n, rfl⟩ : ∃ n : Nat, a = n := ⟨a.toNat, by have := good_yes hg; omega⟩
  obtain ⟨h1, h2, h3, h4⟩ := good_yes hg
  have := pw_bd6 h3 h4 (k := n) (by omega)
  rw [countZ_yes hg]
  omega

theorem orFew_any (a b : Int) (w : World) :
    Calls Try.prog 16 #[.agg #[.int .i64 a, .int .i64 b]] w fun e w' => e = .returned (.bool (fewB a b)) ∧ Below w.heap.size w w' := by
  by_cases hg : goodB a b = true
  · have HG := Lib.hid hg
    have hg' := good_yes hg
    obtain ⟨n, rfl⟩ : ∃ n : Nat, a = n := ⟨a.toNat, by omega⟩
    have HV : Hid (fewB n b = decide (pw b n ≤ 9)) := Lib.hid (by unfold fewB; rw [hg, countZ_yes hg]; rfl)
    clear hg hg'
    go_enter Try.func16, Try.ntmps16
    go_wp2_with (first | (go_at_call 22; refine (whGood_any _ _ _).mono ?_; rw [HG.out]; rintro e w1 ⟨rfl, hb⟩; obtain ⟨hc, hf, hz⟩ := bcell hb; have hz0 : w.heap.size < w1.heap.size := by (try simp at hz); omega) | (go_at_call 23; refine (whCount_any _ _ _ HG.out).mono ?_; rintro e w1 ⟨rfl, hb⟩; obtain ⟨hc, hf, hz⟩ := bcell hb; have hz0 : w.heap.size < w1.heap.size := by (try simp at hz); omega))
    go_ret
    refine ⟨ret_bool HV.out.symm, ?_⟩
    (repeat (first | assumption | exact Below.refl _ _ | (refine Below.alloc ?_ (by first | omega | (simp; done) | (simp; omega)) _) | (refine Below.setCell ?_ (by first | omega | (simp; done) | (simp; omega)) _) | refine bel_drewN ?_ _ | refine bel_drew ?_ | (refine bel_call ?_ (by assumption))))
  · have HG := Lib.hid (Bool.eq_false_iff.2 hg)
    have HV : Hid (fewB a b = false) := Lib.hid (by unfold fewB; rw [HG.out]; rfl)
    clear hg
    go_enter Try.func16, Try.ntmps16
    go_wp2_with (first | (go_at_call 22; refine (whGood_any _ _ _).mono ?_; rw [HG.out]; rintro e w1 ⟨rfl, hb⟩; obtain ⟨hc, hf, hz⟩ := bcell hb; have hz0 : w.heap.size < w1.heap.size := by (try simp at hz); omega))
    go_ret
    refine ⟨ret_bool HV.out.symm, ?_⟩
    (repeat (first | assumption | exact Below.refl _ _ | (refine Below.alloc ?_ (by first | omega | (simp; done) | (simp; omega)) _) | (refine Below.setCell ?_ (by first | omega | (simp; done) | (simp; omega)) _) | refine bel_drewN ?_ _ | refine bel_drew ?_ | (refine bel_call ?_ (by assumption))))

theorem orZero_any (n : Nat) (b : Int) (w : World) (hg : goodB n b = true) :
    Calls Try.prog 18 #[.agg #[.int .i64 n, .int .i64 b]] w fun e w' => ∃ A c, e = .returned (.slice A 1 c) ∧ OwnS w' w.heap.size A 1 [zerosT n b] ∧ Below w.heap.size w w' := by
  have HG := Lib.hid hg
  have HZ : Hid (textOf (digL b 0 n) = zerosT n b) := Lib.hid (by rw [dig_zero, zerosT_yes hg])
  clear hg
  go_enter Try.func18, Try.ntmps18
  go_wp2_with (go_at_call 28; refine (whOf_any _ _ _ _ HG.out (by omega) (by omega)).mono ?_; rw [HZ.out]; rintro e w1 ⟨rfl, hb⟩; obtain ⟨hc, hf, hz⟩ := bcell hb; have hz0 : w.heap.size < w1.heap.size := by (try simp at hz); omega)
  go_ret
  refine ⟨_, _, rfl, ownS_one rfl (by omega), ?_⟩
  (repeat (first | assumption | exact Below.refl _ _ | (refine Below.alloc ?_ (by first | omega | (simp; done) | (simp; omega)) _) | (refine Below.setCell ?_ (by first | omega | (simp; done) | (simp; omega)) _) | refine bel_drewN ?_ _ | refine bel_drew ?_ | (refine bel_call ?_ (by assumption))))

set_option maxHeartbeats 2000000 in
theorem specCountWhole_any (a b : Int) (w : World) :
    Calls Try.prog 12 #[.agg #[.int .i64 a, .int .i64 b]] w fun e w' => e = .returned (.tuple #[.int .i64 ((wholeL a b).length : Nat), .bool (fewB a b)]) ∧ Below w.heap.size w w' := by
  by_cases hf : fewB a b = true
  · have HFE := Lib.hid hf
    obtain ⟨hg, hc⟩ := fewB_yes hf
    obtain ⟨n, rfl⟩ : ∃ n : Nat, a = n := ⟨a.toNat, by have := good_yes hg; omega⟩
    have HG := Lib.hid hg
    obtain ⟨h1, h2, h3, h4⟩ := good_yes hg
    have hpw := pw_bd6 h3 h4 (k := n) (by omega)
    obtain ⟨C, hC⟩ : ∃ C : Nat, pw b n = (C : Int) := ⟨(pw b n).toNat, by omega⟩
    have HC := Lib.hid hC
    have h9 : C ≤ 9 := by rw [countZ_yes hg, hC] at hc; omega
    have h0 : 1 ≤ C := by omega
    have HM : Hid (wholeL n b = whL n b (C - 1) [zerosT n b]) := Lib.hid (by unfold wholeL; rw [hf, if_pos rfl, countZ_yes hg, hC, Int.toNat_natCast])
    have HZA := Lib.hid (zeros_ask hg)
    have HLN : Hid ((wholeL n b).length ≤ 429981696) := Lib.hid (by rw [HM.out]; exact Nat.le_trans (whL_le _ _) (pow_few (by omega)))
    have HCN : Hid (clN n b (wholeL n b) ≤ 429981696) := Lib.hid (Nat.le_trans (clN_le _ _ _) HLN.out)
    clear hf hg hc hC hpw
    have C0 := Lib.hid (box_new (W := w) (a := n) (b := b) (t := 27) rfl)
    have X0 := Lib.hid (show Below w.heap.size w (w.alloc (.cells #[.int .i64 n, .int .i64 b] 27)) from (Below.refl _ _).alloc (Nat.le_refl _) _)
    go_enter Try.func12, Try.ntmps12
    go_wp2_with (go_at_call 16; refine (orFew_any _ _ _).mono ?_; rw [HFE.out]; rintro e w1 ⟨rfl, hb1⟩
                 have X1 := Lib.hid (bel_call X0.out hb1)
                 have C1 := Lib.hid (C0.out.call hb1)
                 clear hb1)
    have l0 : w1.cell? ⟨w.heap.size, 0, none⟩ = some (.int .i64 n) := C1.out.cell (show 0 < 2 by omega)
    have l1 : w1.cell? ⟨w.heap.size, 1, none⟩ = some (.int .i64 b) := C1.out.cell (show 1 < 2 by omega)
    go_region_law (first
      | (go_simp; go_at_call 18; refine (orZero_any _ _ _ HG.out).mono ?_; rintro e w2 ⟨A2, c2, rfl, hO2, hb2⟩
         have X2 := Lib.hid (bel_call (bel_drew X1.out) hb2)
         have C2 := Lib.hid (C1.out.drew.call hb2)
         have BE := Lib.hid (Beg.snoc (L := []) (m := 0) (A := A2) (fun k hk => by omega) rfl HZA.out hO2)
         have m0 : w2.cell? ⟨w.heap.size, 0, none⟩ = some (.int .i64 n) := C2.out.cell (show 0 < 2 by omega)
         have m1 : w2.cell? ⟨w.heap.size, 1, none⟩ = some (.int .i64 b) := C2.out.cell (show 1 < 2 by omega)
         clear hb2 hO2)
      | (go_simp; go_at_call 17; refine (orSearch_any n b C HG.out HC.out h9 (C - 1) 1 A2 c2 [zerosT n b] _ (by omega) BE.out).mono ?_; rw [← HM.out]; rintro e w3 ⟨A3, c3, rfl, hO3, hb3⟩
         have X3 := Lib.hid (bel_call X2.out hb3)
         have O3 := Lib.hid (hO3.base X2.out.size)
         clear hb3 hO3))
    all_goals
      go_wp2_with fail
      go_ret2
      exact ⟨by rw [HFE.out]; rfl, X3.out⟩
  · have HFE := Lib.hid (Bool.eq_false_iff.2 hf)
    have HM := Lib.hid (wholeL_no HFE.out)
    clear hf
    go_enter Try.func12, Try.ntmps12
    go_wp2_with (go_at_call 16; refine (orFew_any _ _ _).mono ?_; rw [HFE.out]; rintro e w1 ⟨rfl, hb⟩; obtain ⟨hc, hf, hz⟩ := bcell hb; have hz0 : w.heap.size < w1.heap.size := by (try simp at hz); omega)
    go_ret2
    rw [HFE.out, HM.out]
    refine ⟨rfl, ?_⟩
    (repeat (first | assumption | exact Below.refl _ _ | (refine Below.alloc ?_ (by first | omega | (simp; done) | (simp; omega)) _) | (refine Below.setCell ?_ (by first | omega | (simp; done) | (simp; omega)) _) | refine bel_drewN ?_ _ | refine bel_drew ?_ | (refine bel_call ?_ (by assumption))))

set_option maxHeartbeats 2000000 in
theorem specCountClosed_any (a b : Int) (w : World) :
    Calls Try.prog 14 #[.agg #[.int .i64 a, .int .i64 b]] w fun e w' => e = .returned (.tuple #[.int .i64 (clN a b (wholeL a b) : Nat), .bool (fewB a b)]) ∧ Below w.heap.size w w' := by
  by_cases hf : fewB a b = true
  · have HFE := Lib.hid hf
    obtain ⟨hg, hc⟩ := fewB_yes hf
    obtain ⟨n, rfl⟩ : ∃ n : Nat, a = n := ⟨a.toNat, by have := good_yes hg; omega⟩
    have HG := Lib.hid hg
    obtain ⟨h1, h2, h3, h4⟩ := good_yes hg
    have hpw := pw_bd6 h3 h4 (k := n) (by omega)
    obtain ⟨C, hC⟩ : ∃ C : Nat, pw b n = (C : Int) := ⟨(pw b n).toNat, by omega⟩
    have HC := Lib.hid hC
    have h9 : C ≤ 9 := by rw [countZ_yes hg, hC] at hc; omega
    have h0 : 1 ≤ C := by omega
    have HM : Hid (wholeL n b = whL n b (C - 1) [zerosT n b]) := Lib.hid (by unfold wholeL; rw [hf, if_pos rfl, countZ_yes hg, hC, Int.toNat_natCast])
    have HZA := Lib.hid (zeros_ask hg)
    have HLN : Hid ((wholeL n b).length ≤ 429981696) := Lib.hid (by rw [HM.out]; exact Nat.le_trans (whL_le _ _) (pow_few (by omega)))
    have HCN : Hid (clN n b (wholeL n b) ≤ 429981696) := Lib.hid (Nat.le_trans (clN_le _ _ _) HLN.out)
    clear hf hg hc hC hpw
    have C0 := Lib.hid (box_new (W := w) (a := n) (b := b) (t := 27) rfl)
    have X0 := Lib.hid (show Below w.heap.size w (w.alloc (.cells #[.int .i64 n, .int .i64 b] 27)) from (Below.refl _ _).alloc (Nat.le_refl _) _)
    go_enter Try.func14, Try.ntmps14
    go_wp2_with (go_at_call 16; refine (orFew_any _ _ _).mono ?_; rw [HFE.out]; rintro e w1 ⟨rfl, hb1⟩
                 have X1 := Lib.hid (bel_call X0.out hb1)
                 have C1 := Lib.hid (C0.out.call hb1)
                 clear hb1)
    have l0 : w1.cell? ⟨w.heap.size, 0, none⟩ = some (.int .i64 n) := C1.out.cell (show 0 < 2 by omega)
    have l1 : w1.cell? ⟨w.heap.size, 1, none⟩ = some (.int .i64 b) := C1.out.cell (show 1 < 2 by omega)
    go_region_law (first
      | (go_simp; go_at_call 18; refine (orZero_any _ _ _ HG.out).mono ?_; rintro e w2 ⟨A2, c2, rfl, hO2, hb2⟩
         have X2 := Lib.hid (bel_call (bel_drew X1.out) hb2)
         have C2 := Lib.hid (C1.out.drew.call hb2)
         have BE := Lib.hid (Beg.snoc (L := []) (m := 0) (A := A2) (fun k hk => by omega) rfl HZA.out hO2)
         have m0 : w2.cell? ⟨w.heap.size, 0, none⟩ = some (.int .i64 n) := C2.out.cell (show 0 < 2 by omega)
         have m1 : w2.cell? ⟨w.heap.size, 1, none⟩ = some (.int .i64 b) := C2.out.cell (show 1 < 2 by omega)
         clear hb2 hO2)
      | (go_simp; go_at_call 17; refine (orSearch_any n b C HG.out HC.out h9 (C - 1) 1 A2 c2 [zerosT n b] _ (by omega) BE.out).mono ?_; rw [← HM.out]; rintro e w3 ⟨A3, c3, rfl, hO3, hb3⟩
         have X3 := Lib.hid (bel_call X2.out hb3)
         have O3 := Lib.hid (hO3.base X2.out.size)
         clear hb3 hO3))
    all_goals
      go_wp2_with fail
      go_ret2
      exact ⟨by rw [HFE.out]; rfl, X3.out⟩
  · have HFE := Lib.hid (Bool.eq_false_iff.2 hf)
    have HM := Lib.hid (wholeL_no HFE.out)
    clear hf
    go_enter Try.func14, Try.ntmps14
    go_wp2_with (go_at_call 16; refine (orFew_any _ _ _).mono ?_; rw [HFE.out]; rintro e w1 ⟨rfl, hb⟩; obtain ⟨hc, hf, hz⟩ := bcell hb; have hz0 : w.heap.size < w1.heap.size := by (try simp at hz); omega)
    go_ret2
    rw [HFE.out, HM.out]
    refine ⟨rfl, ?_⟩
    (repeat (first | assumption | exact Below.refl _ _ | (refine Below.alloc ?_ (by first | omega | (simp; done) | (simp; omega)) _) | (refine Below.setCell ?_ (by first | omega | (simp; done) | (simp; omega)) _) | refine bel_drewN ?_ _ | refine bel_drew ?_ | (refine bel_call ?_ (by assumption))))

set_option maxHeartbeats 2000000 in
theorem specFirstWhole_any (a b : Int) (w : World) :
    Calls Try.prog 6 #[.agg #[.int .i64 a, .int .i64 b]] w fun e w' => StrsOut w (fwZ a b) (fewB a b) e w' := by
  by_cases hf : fewB a b = true
  · have HFE := Lib.hid hf
    obtain ⟨hg, hc⟩ := fewB_yes hf
    obtain ⟨n, rfl⟩ : ∃ n : Nat, a = n := ⟨a.toNat, by have := good_yes hg; omega⟩
    have HG := Lib.hid hg
    obtain ⟨h1, h2, h3, h4⟩ := good_yes hg
    have hpw := pw_bd6 h3 h4 (k := n) (by omega)
    obtain ⟨C, hC⟩ : ∃ C : Nat, pw b n = (C : Int) := ⟨(pw b n).toNat, by omega⟩
    have HC := Lib.hid hC
    have h9 : C ≤ 9 := by rw [countZ_yes hg, hC] at hc; omega
    have h0 : 1 ≤ C := by omega
    have HM : Hid (wholeL n b = whL n b (C - 1) [zerosT n b]) := Lib.hid (by unfold wholeL; rw [hf, if_pos rfl, countZ_yes hg, hC, Int.toNat_natCast])
    have HZA := Lib.hid (zeros_ask hg)
    have HLN : Hid ((wholeL n b).length ≤ 429981696) := Lib.hid (by rw [HM.out]; exact Nat.le_trans (whL_le _ _) (pow_few (by omega)))
    have HCN : Hid (clN n b (wholeL n b) ≤ 429981696) := Lib.hid (Nat.le_trans (clN_le _ _ _) HLN.out)
    clear hf hg hc hC hpw
    have C0 := Lib.hid (box_new (W := w) (a := n) (b := b) (t := 27) rfl)
    have X0 := Lib.hid (show Below w.heap.size w (w.alloc (.cells #[.int .i64 n, .int .i64 b] 27)) from (Below.refl _ _).alloc (Nat.le_refl _) _)
    go_enter Try.func6, Try.ntmps6
    go_wp2_with (go_at_call 16; refine (orFew_any _ _ _).mono ?_; rw [HFE.out]; rintro e w1 ⟨rfl, hb1⟩
                 have X1 := Lib.hid (bel_call X0.out hb1)
                 have C1 := Lib.hid (C0.out.call hb1)
                 clear hb1)
    have l0 : w1.cell? ⟨w.heap.size, 0, none⟩ = some (.int .i64 n) := C1.out.cell (show 0 < 2 by omega)
    have l1 : w1.cell? ⟨w.heap.size, 1, none⟩ = some (.int .i64 b) := C1.out.cell (show 1 < 2 by omega)
    go_region_law (first
      | (go_simp; go_at_call 18; refine (orZero_any _ _ _ HG.out).mono ?_; rintro e w2 ⟨A2, c2, rfl, hO2, hb2⟩
         have X2 := Lib.hid (bel_call (bel_drew X1.out) hb2)
         have C2 := Lib.hid (C1.out.drew.call hb2)
         have BE := Lib.hid (Beg.snoc (L := []) (m := 0) (A := A2) (fun k hk => by omega) rfl HZA.out hO2)
         have m0 : w2.cell? ⟨w.heap.size, 0, none⟩ = some (.int .i64 n) := C2.out.cell (show 0 < 2 by omega)
         have m1 : w2.cell? ⟨w.heap.size, 1, none⟩ = some (.int .i64 b) := C2.out.cell (show 1 < 2 by omega)
         clear hb2 hO2)
      | (go_simp; go_at_call 17; refine (orSearch_any n b C HG.out HC.out h9 (C - 1) 1 A2 c2 [zerosT n b] _ (by omega) BE.out).mono ?_; rw [← HM.out]; rintro e w3 ⟨A3, c3, rfl, hO3, hb3⟩
         have X3 := Lib.hid (bel_call X2.out hb3)
         have O3 := Lib.hid (hO3.base X2.out.size)
         clear hb3 hO3))
    all_goals
      go_wp2_with fail
      go_ret2
      exact ⟨A3, c3, by rw [HFE.out]; rfl, O3.out, X3.out⟩
  · have HFE := Lib.hid (Bool.eq_false_iff.2 hf)
    have HM := Lib.hid (wholeL_no HFE.out)
    clear hf
    go_enter Try.func6, Try.ntmps6
    go_wp2_with (go_at_call 16; refine (orFew_any _ _ _).mono ?_; rw [HFE.out]; rintro e w1 ⟨rfl, hb⟩; obtain ⟨hc, hf, hz⟩ := bcell hb; have hz0 : w.heap.size < w1.heap.size := by (try simp at hz); omega)
    go_ret2
    unfold fwZ
    rw [HFE.out, HM.out]
    refine strs_none ?_
    (repeat (first | assumption | exact Below.refl _ _ | (refine Below.alloc ?_ (by first | omega | (simp; done) | (simp; omega)) _) | (refine Below.setCell ?_ (by first | omega | (simp; done) | (simp; omega)) _) | refine bel_drewN ?_ _ | refine bel_drew ?_ | (refine bel_call ?_ (by assumption))))

end Go.Proofs.Ytjghodfdejdjoaa

namespace Go.Proofs.Ytjghodfdejdjoaa
open Go.ChangeShapes Go.WideShapes Go.ChangeAt Go.RowKit Go.Joins

theorem next_of {a b : Int} {s t : ByteArray} (h : askB a b s = true) (ht : t ∈ nxC b (dg s) (2 * s.size)) : t ∈ nextL a b s := by
  rw [nextL_yes h]
  have hk : t.data.toList ∈ tidy (keyL (nxC b (dg s) (2 * s.size))) := (tidy_mem _ _).2 (List.mem_map.2 ⟨t, ht, rfl⟩)
  exact List.mem_map.2 ⟨_, hk, by cases t; rfl⟩

theorem whL_in {a b : Int} : ∀ (r : Nat) (L M : List ByteArray), M.length = L.length + r → M.take L.length = L → 0 < L.length → (∀ j, L.length ≤ j → j < M.length → M.getD j ByteArray.empty ∈ nextL a b (M.getD (j - 1) ByteArray.empty)) → M.Nodup → M ∈ whL a b r L := by
  intro r
  induction r with
  | zero =>
    intro L M hl ht _ _ _
    have : M = L := by rw [← ht, List.take_of_length_le (by omega)]
    rw [this]
    simp [whL]
  | succ r ih =>
    intro L M hl ht h0 hn hd
    have hlt : L.length < M.length := by omega
    have hlast : M.getD (L.length - 1) ByteArray.empty = L.getD (L.length - 1) ByteArray.empty := by
      rw [← ht, List.length_take, Nat.min_eq_left (by omega)]
      simp [List.getD, show L.length - 1 < L.length by omega]
    have hc := hn L.length (Nat.le_refl _) hlt
    rw [hlast] at hc
    have htk : M.take (L.length + 1) = L ++ [M.getD L.length ByteArray.empty] := by
      rw [List.take_succ_eq_append_getElem hlt, ht]
      simp [List.getD, List.getElem?_eq_getElem hlt]
    have hno : hsS L (M.getD L.length ByteArray.empty) = false := by
      rw [Bool.eq_false_iff]
      intro h
      have hm := hsS_iff.1 h
      have e2 : M.getD L.length ByteArray.empty = M[L.length] := by simp [List.getD, List.getElem?_eq_getElem hlt]
      rw [e2] at hm
      have hdr : M[L.length] ∈ M.drop L.length := by
        rw [List.drop_eq_getElem_cons hlt]
        exact List.mem_cons_self
      have hsp := hd
      rw [← List.take_append_drop L.length M, List.nodup_append] at hsp
      clear hc hlast htk e2
      generalize M[L.length] = x at *
      have hm2 : x ∈ M.take L.length := by rw [ht]; exact hm
      exact hsp.2.2 _ hm2 _ hdr rfl
    rw [whL_succ]
    unfold whP
    refine List.mem_flatMap.2 ⟨_, hc, ?_⟩
    rw [hno]
    refine ih _ M (by simp; omega) (by rw [List.length_append, List.length_singleton]; exact htk) (by simp) (fun j hj hjl => hn j (by simp at hj; omega) hjl) hd

/-- Each of the codes comes next to the one before. -/
def pathOK (a b : Int) (M : List ByteArray) : Bool :=
  decide (M.length = (countZ a b).toNat) && decide (M.take 1 = [zerosT a b]) && decide M.Nodup &&
    (List.range (M.length - 1)).all fun j => askB a b (M.getD j ByteArray.empty) && (nxC b (dg (M.getD j ByteArray.empty)) (2 * (M.getD j ByteArray.empty).size)).any fun t => decide (t = M.getD (j + 1) ByteArray.empty)

theorem path_whole {a b : Int} {M : List ByteArray} (hf : fewB a b = true) (h : pathOK a b M = true) : M ∈ wholeL a b := by
  unfold pathOK at h
  simp only [Bool.and_eq_true, decide_eq_true_eq, List.all_eq_true, List.mem_range, List.any_eq_true] at h
  obtain ⟨⟨⟨h1, h2⟩, h3⟩, h4⟩ := h
  unfold wholeL
  rw [hf, if_pos rfl]
  have hM : 0 < M.length := by
    cases M with
    | nil => simp at h2
    | cons => simp
  refine whL_in _ _ M (by simp; omega) h2 (by simp) (fun j hj hjl => ?_) h3
  simp at hj
  obtain ⟨ha, t, ht, e⟩ := h4 (j - 1) (by omega)
  rw [show j - 1 + 1 = j by omega] at e
  rw [← e]
  exact next_of ha ht

def pathOf (ds : List (List Int)) : List ByteArray := ds.map textOf

theorem whole_some {a b : Int} (hf : fewB a b = true) : 0 < (wholeL a b).length := by
  obtain ⟨hg, hc⟩ := fewB_yes hf
  obtain ⟨n, rfl⟩ : ∃ n : Nat, a = n := ⟨a.toNat, by have := good_yes hg; omega⟩
  obtain ⟨h1, h2, h3, h4⟩ := good_yes hg
  rw [countZ_yes hg] at hc
  have key : ∀ M, pathOK n b M = true → 0 < (wholeL n b).length := fun M h => List.length_pos_of_mem (path_whole hf h)
  have hn : n = 1 ∨ n = 2 ∨ n = 3 ∨ n = 4 ∨ n = 5 ∨ n = 6 := by omega
  have hb : b = 2 ∨ b = 3 ∨ b = 4 ∨ b = 5 ∨ b = 6 ∨ b = 7 ∨ b = 8 ∨ b = 9 ∨ b = 10 := by omega
  clear h1 h2 h3 h4 hf hg
  rcases hn with rfl | rfl | rfl | rfl | rfl | rfl
  · refine key (pathOf ((List.range b.toNat).map fun (i : Nat) => [(i : Int)])) ?_
    clear key
    rcases hb with rfl | rfl | rfl | rfl | rfl | rfl | rfl | rfl | rfl
    · decide +kernel
    · decide +kernel
    · decide +kernel
    · decide +kernel
    · decide +kernel
    · decide +kernel
    · decide +kernel
    · decide +kernel
    · exact absurd hc (by decide)
  · rcases hb with rfl | rfl | rfl | rfl | rfl | rfl | rfl | rfl | rfl
    · refine key (pathOf [[0, 0], [0, 1], [1, 1], [1, 0]]) ?_
      clear key
      decide +kernel
    · refine key (pathOf [[0, 0], [0, 1], [0, 2], [1, 2], [1, 0], [1, 1], [2, 1], [2, 2], [2, 0]]) ?_
      clear key
      decide +kernel
    all_goals exact absurd hc (by decide)
  · rcases hb with rfl | rfl | rfl | rfl | rfl | rfl | rfl | rfl | rfl
    · refine key (pathOf [[0, 0, 0], [0, 0, 1], [0, 1, 1], [0, 1, 0], [1, 1, 0], [1, 1, 1], [1, 0, 1], [1, 0, 0]]) ?_
      clear key
      decide +kernel
    all_goals exact absurd hc (by decide)
  all_goals
    rcases hb with rfl | rfl | rfl | rfl | rfl | rfl | rfl | rfl | rfl <;> exact absurd hc (by decide)

end Go.Proofs.Ytjghodfdejdjoaa

namespace Go.Proofs.Ytjghodfdejdjoaa
open Go.ChangeShapes Go.WideShapes Go.ChangeAt Go.RowKit Go.Joins

/-- What wholeOrders hands back. -/
def WoOut (w : World) (a b : Int) (e : Ending) (w' : World) : Prop :=
  ∃ A c vs, e = .returned (.tuple #[.slice A (wholeL a b).length c, .bool (fewB a b)]) ∧ w'.ownsRow w.heap.size 24 1 (.slice A (wholeL a b).length c) (wholeL a b).length vs ∧
    OrdV w' w.heap.size (countZ a b).toNat none vs (wholeL a b) ∧ Below w.heap.size w w'

theorem row_form {w : World} {base : Nat} {e : TypeId} {v : Value} {n : Nat} {xs : List Value} (h : w.ownsRow base e 1 v n xs) : ∃ A c, v = .slice A n c := by
  rcases h.2 with ⟨rfl, rfl⟩ | ⟨g, cap, cur, rfl, _⟩
  · exact ⟨none, 0, rfl⟩
  · exact ⟨_, cap, rfl⟩

set_option maxHeartbeats 2000000 in
theorem wholeOrders_any (a b : Int) (w : World) :
    Calls Try.prog 19 #[.agg #[.int .i64 a, .int .i64 b]] w (WoOut w a b) := by
  by_cases hf : fewB a b = true
  · have HFE := Lib.hid hf
    obtain ⟨hg, hc⟩ := fewB_yes hf
    obtain ⟨n, rfl⟩ : ∃ n : Nat, a = n := ⟨a.toNat, by have := good_yes hg; omega⟩
    have HG := Lib.hid hg
    obtain ⟨h1, h2, h3, h4⟩ := good_yes hg
    have hpw := pw_bd6 h3 h4 (k := n) (by omega)
    obtain ⟨C, hC⟩ : ∃ C : Nat, pw b n = (C : Int) := ⟨(pw b n).toNat, by omega⟩
    have HC : Hid (countZ n b = (C : Int)) := Lib.hid (by rw [countZ_yes hg, hC])
    have h9 : C ≤ 9 := by rw [countZ_yes hg, hC] at hc; omega
    have h0 : 1 ≤ C := by omega
    have HM : Hid (wholeL n b = whL n b (C - 1) [zerosT n b]) := Lib.hid (by unfold wholeL; rw [hf, if_pos rfl, countZ_yes hg, hC, Int.toNat_natCast])
    have HZA := Lib.hid (zeros_ask hg)
    clear hf hg hc hC hpw
    have C0 := Lib.hid (box_new (W := w) (a := n) (b := b) (t := 27) rfl)
    have X0 := Lib.hid (show Below w.heap.size w (w.alloc (.cells #[.int .i64 n, .int .i64 b] 27)) from (Below.refl _ _).alloc (Nat.le_refl _) _)
    go_enter Try.func19, Try.ntmps19
    go_wp2_with (first
      | (go_at_call 29; refine (count_any _ _ _).mono ?_; rw [HG.out, HC.out]; rintro e w1 ⟨rfl, hb1⟩
         have X1 := Lib.hid (bel_call X0.out hb1)
         have C1 := Lib.hid (C0.out.call hb1)
         have l0 : w1.cell? ⟨w.heap.size, 0, none⟩ = some (.int .i64 n) := C1.out.cell (show 0 < 2 by omega)
         have l1 : w1.cell? ⟨w.heap.size, 1, none⟩ = some (.int .i64 b) := C1.out.cell (show 1 < 2 by omega)
         clear hb1)
      | (go_at_call 30; refine (zero_any _ _ _).mono ?_; rw [HG.out]; rintro e w2 ⟨rfl, hb2⟩
         have X2 := Lib.hid (bel_call X1.out hb2)
         have C2 := Lib.hid (C1.out.call hb2)
         have m0 : w2.cell? ⟨w.heap.size, 0, none⟩ = some (.int .i64 n) := C2.out.cell (show 0 < 2 by omega)
         have m1 : w2.cell? ⟨w.heap.size, 1, none⟩ = some (.int .i64 b) := C2.out.cell (show 1 < 2 by omega)
         have X3 := Lib.hid (X2.out.alloc (o := .cells #[.string (zerosT n b)] 9) X2.out.size)
         have C3 := Lib.hid (C2.out.alloc (.cells #[.string (zerosT n b)] 9))
         have OZ := Lib.hid (ownS_one (W := w2) (B := w.heap.size) (s := zerosT n b) (t := 9) rfl X2.out.size)
         clear hb2)
      | (go_at_call 31; refine (wholeBehind_any n b C HG.out h9 (C - 1) 1 _ _ [zerosT n b] w.heap.size _ (by omega) (Beg.snoc (L := []) (m := 0) (fun k hk => by omega) rfl HZA.out OZ.out) OZ.out X3.out.size).mono ?_; rw [← HM.out]; rintro e w4 ⟨v4, vs, rfl, hO4, hV4, hb4⟩
         have X4 := Lib.hid (bel_call X3.out hb4)
         have O4 := Lib.hid (ownsRow_down hO4 X3.out.size)
         have V4 := Lib.hid hV4
         clear hb4 hO4 hV4))
    go_ret2
    obtain ⟨A, c, hv⟩ := row_form O4.out
    exact ⟨A, c, vs, by rw [HFE.out, hv]; rfl, by rw [← hv]; exact O4.out, by rw [HC.out, Int.toNat_natCast]; exact V4.out, X4.out⟩
  · have HFE := Lib.hid (Bool.eq_false_iff.2 hf)
    have HM := Lib.hid (wholeL_no HFE.out)
    have hout : ∀ w', Below w.heap.size w w' → WoOut w a b (.returned (.tuple #[.slice none 0 0, .bool false])) w' := fun w' hb => by
      unfold WoOut
      rw [HM.out, HFE.out]
      exact ⟨none, 0, [], rfl, World.ownsRow_nil _ _ _ _, OrdV.nil _ _ _ _, hb⟩
    by_cases hg : goodB a b = true
    · have HG := Lib.hid hg
      have hc : 9 < countZ a b := by
        unfold fewB at HFE
        rw [hg] at HFE
        have := HFE.out
        simp at this
        omega
      have hb9 : countZ a b ≤ 1000000 := by
        obtain ⟨n, rfl⟩ : ∃ n : Nat, a = n := ⟨a.toNat, by have := good_yes hg; omega⟩
        obtain ⟨h1, h2, h3, h4⟩ := good_yes hg
        have := pw_bd6 h3 h4 (k := n) (by omega)
        rw [countZ_yes hg]; omega
      have HOUT := Lib.hid hout
      clear hf hg hout
      go_enter Try.func19, Try.ntmps19
      go_wp2_with (go_at_call 29; refine (count_any _ _ _).mono ?_; rw [HG.out]; rintro e w1 ⟨rfl, hb⟩; obtain ⟨hc, hf, hz⟩ := bcell hb; have hz0 : w.heap.size < w1.heap.size := by (try simp at hz); omega)
      go_ret2
      refine HOUT.out _ ?_
      (repeat (first | assumption | exact Below.refl _ _ | (refine Below.alloc ?_ (by first | omega | (simp; done) | (simp; omega)) _) | (refine Below.setCell ?_ (by first | omega | (simp; done) | (simp; omega)) _) | refine bel_drewN ?_ _ | refine bel_drew ?_ | (refine bel_call ?_ (by assumption))))
    · have HG := Lib.hid (Bool.eq_false_iff.2 hg)
      have HOUT := Lib.hid hout
      clear hf hg hout
      go_enter Try.func19, Try.ntmps19
      go_wp2_with (go_at_call 29; refine (count_any _ _ _).mono ?_; rw [HG.out]; rintro e w1 ⟨rfl, hb⟩; obtain ⟨hc, hf, hz⟩ := bcell hb; have hz0 : w.heap.size < w1.heap.size := by (try simp at hz); omega)
      go_ret2
      refine HOUT.out _ ?_
      (repeat (first | assumption | exact Below.refl _ _ | (refine Below.alloc ?_ (by first | omega | (simp; done) | (simp; omega)) _) | (refine Below.setCell ?_ (by first | omega | (simp; done) | (simp; omega)) _) | refine bel_drewN ?_ _ | refine bel_drew ?_ | (refine bel_call ?_ (by assumption))))

theorem countWhole_any (a b : Int) (w : World) :
    Calls Try.prog 13 #[.agg #[.int .i64 a, .int .i64 b]] w fun e w' => e = .returned (.tuple #[.int .i64 ((wholeL a b).length : Nat), .bool (fewB a b)]) ∧ Below w.heap.size w w' := by
  have X0 := Lib.hid (show Below w.heap.size w (w.alloc (.cells #[.int .i64 a, .int .i64 b] 27)) from (Below.refl _ _).alloc (Nat.le_refl _) _)
  go_enter Try.func13, Try.ntmps13
  go_wp2_with (go_at_call 19; refine (wholeOrders_any _ _ _).mono ?_; rintro e w1 ⟨A, c, vs, rfl, hO, hV, hb⟩)
  go_ret2
  exact ⟨rfl, bel_call X0.out hb⟩

theorem firstWhole_any (a b : Int) (w : World) :
    Calls Try.prog 8 #[.agg #[.int .i64 a, .int .i64 b]] w (StrsOut w (fwZ a b) (fewB a b)) := by
  unfold fwZ
  have X0 := Lib.hid (show Below w.heap.size w (w.alloc (.cells #[.int .i64 a, .int .i64 b] 27)) from (Below.refl _ _).alloc (Nat.le_refl _) _)
  by_cases hf : fewB a b = true
  · have HFE := Lib.hid hf
    have hpos := whole_some hf
    obtain ⟨N, hN⟩ : ∃ N, (wholeL a b).length = N := ⟨_, rfl⟩
    have hN0 : 0 < N := by rw [← hN]; exact hpos
    have hne : ((N : Int) == 0) = false := by rw [beq_eq_false_iff_ne]; omega
    have HN := Lib.hid hN
    have HH : Hid ((wholeL a b).getD 0 [] = hdW (wholeL a b)) := Lib.hid (by unfold hdW; cases wholeL a b <;> rfl)
    have HLC : Hid ((hdW (wholeL a b)).length = (countZ a b).toNat) := Lib.hid (by
      have hm : hdW (wholeL a b) ∈ wholeL a b := by
        unfold hdW
        cases h : wholeL a b with
        | nil => rw [h] at hpos; simp at hpos
        | cons x l => simp
      obtain ⟨hg, hc⟩ := fewB_yes hf
      have hc1 := count_pos hg
      clear hN
      generalize hdW (wholeL a b) = H at hm ⊢
      unfold wholeL at hm
      rw [hf, if_pos rfl] at hm
      have h5 := (whL_mem hm).1
      rw [List.length_singleton] at h5
      omega)
    clear hf hpos hN
    go_enter Try.func8, Try.ntmps8
    go_wp2_with (go_at_call 19; refine (wholeOrders_any _ _ _).mono ?_; rintro e w1 ⟨A, c, vs, rfl, hO, hV, hb⟩
                 rw [HN.out] at hO ⊢
                 rw [HFE.out]
                 obtain ⟨g, cap, hv, _⟩ := rowForm hO (by intro e; cases e; omega)
                 injection hv with hv1 hv2 hv3
                 subst hv1
                 obtain ⟨A1, c1, hv0, hO1, _⟩ := hV.row 0 (by rw [HN.out]; exact hN0)
                 have o1 : w1.cell? ⟨g, 0, none⟩ = some (.slice A1 (countZ a b).toNat c1) := (hO.cellAt 0 (by omega)).trans hv0
                 have O1 := Lib.hid hO1
                 have HB := Lib.hid hb
                 clear hO hV hO1 hb)
    go_ret2
    refine ⟨A1, c1, by rw [HLC.out, HFE.out]; rfl, ?_, bel_call X0.out HB.out⟩
    rw [HLC.out, ← HH.out]
    exact O1.out.base (by simp)
  · have HFE := Lib.hid (Bool.eq_false_iff.2 hf)
    have HM := Lib.hid (wholeL_no HFE.out)
    clear hf
    go_enter Try.func8, Try.ntmps8
    go_wp2_with (go_at_call 19; refine (wholeOrders_any _ _ _).mono ?_; rintro e w1 ⟨A, c, vs, rfl, hO, hV, hb⟩; rw [HM.out]; rw [HFE.out]; clear hO hV)
    go_ret2
    rw [HFE.out, HM.out]
    exact strs_none (bel_call X0.out hb)

theorem StrsOut.ls {w w' : World} {ts : List ByteArray} {ok : Bool} {e : Ending} (h : StrsOut w ts ok e w') :
    ∃ A c, e = .returned (.tuple #[.slice A ts.length c, .bool ok]) ∧ LS w' w.heap.size w'.heap.size A ts ∧ Below w.heap.size w w' := by
  obtain ⟨A, c, rfl, hO, hb⟩ := h
  exact ⟨A, c, rfl, LS.of_own hO, hb⟩

end Go.Proofs.Ytjghodfdejdjoaa

namespace Go.Proofs.Ytjghodfdejdjoaa
open Go.ChangeShapes Go.WideShapes Go.ChangeAt Go.RowKit Go.Joins

theorem far_turn {b x y : Int} (h : 2 ≤ b) (hx : 0 ≤ x ∧ x < b) (hy : y = 1 ∨ y = -1) : farI b x (addI b x y) = 1 := by
  unfold addI
  rcases hy with rfl | rfl
  · exact far_up h
  · have e : ((x + -1) % b + 1) % b = x := by
      rw [Int.emod_add_emod, show x + -1 + 1 = x by omega, Int.emod_eq_of_lt hx.1 hx.2]
    have h1 := far_up h (x := (x + -1) % b)
    rw [e] at h1
    rw [far_sym]
    exact h1

theorem sum_one {xs : List Int} {k : Nat} (h : ∀ j, j < xs.length → xs.getD j 0 = if j = k then 1 else 0) (hk : k < xs.length) : ∀ m, m ≤ xs.length → sumAt xs m = if k < m then 1 else 0 := by
  intro m
  induction m with
  | zero => intro _; simp [sumAt]
  | succ m ih =>
    intro hm
    rw [sumAt, ih (by omega), h m (by omega)]
    by_cases e : m = k
    · subst e; simp
    · by_cases e2 : k < m
      · rw [if_pos e2, if_neg e, if_pos (by omega)]; rfl
      · rw [if_neg e2, if_neg e, if_neg (by omega)]; rfl

theorem ot_turn {a b y : Int} {s : ByteArray} {k : Nat} (h : askB a b s = true) (hk : k < s.size) (hy : y = 1 ∨ y = -1) (ht : askB a b (textOf (stepD b (dg s) k y)) = true) (hd : Digits (stepD b (dg s) k y)) : otB a b s (textOf (stepD b (dg s) k y)) = true := by
  have hA := asked h
  have hT := asked ht
  have h2 : twoB a b s (textOf (stepD b (dg s) k y)) = true := by unfold twoB; rw [h, ht]; rfl
  rw [ot_few h2, decide_eq_true_eq, fewZ_yes h2]
  have hl : (distL b s (textOf (stepD b (dg s) k y))).length = s.size := by
    unfold distL
    rw [List.length_zipWith, dg_length, dg_length]
    have := hA.size; have := hT.size; omega
  have := sum_one (xs := distL b s (textOf (stepD b (dg s) k y))) (k := k) (fun j hj => by
    rw [hl] at hj
    rw [distL_at hA hT hj, dg_textOf hd, stepD_at b (dg s) _ y (by rw [dg_length]; simpa using hk)]
    simp only [Int.toNat_natCast]
    by_cases e : j = k
    · subst e
      rw [if_pos rfl, if_pos rfl]
      exact far_turn hA.b2 (hA.low j hj) hy
    · rw [if_neg e, if_neg e]
      exact far_same b _) (by rw [hl]; exact hk) s.size (by rw [hl]; exact Nat.le_refl _)
  rw [this, if_pos hk]

theorem next_turn {a b : Int} {s t : ByteArray} (h : askB a b s = true) (ht : t ∈ nextL a b s) : otB a b s t = true := by
  have hta := next_ask h ht
  rw [nextL_yes h] at ht
  have hk : t.data.toList ∈ keyL (ofKey (tidy (keyL (nxC b (dg s) (2 * s.size))))) := List.mem_map.2 ⟨t, ht, rfl⟩
  rw [keyL_ofKey, tidy_mem] at hk
  obtain ⟨u, hu, e⟩ := List.mem_map.1 hk
  have e2 : u = t := bytesI e
  subst e2
  obtain ⟨i, hi, rfl⟩ := List.mem_map.1 hu
  have hi := List.mem_range.1 hi
  have hg : goodB a b = true := by
    unfold askB at h; rw [Bool.and_eq_true] at h; exact h.1
  have h2 := (good_yes hg).2.2.1
  have hb10 := (good_yes hg).2.2.2
  have hsz := (asked h).size
  have htn : turnB a ((i / 2 : Nat) : Int) (nxY i) = true := by
    have := nxY_turn (a := a) (k := i / 2) (q := i % 2) (by omega) (by omega)
    rwa [show 2 * (i / 2) + i % 2 = i by omega] at this
  have hG := (Good.of (asked h)).step h2 htn
  refine ot_turn h (by omega) ?_ hta (fun j hj => ?_)
  · unfold nxY; split <;> simp
  · have := hG.low j hj; omega

theorem whL_each {a b : Int} : ∀ (r : Nat) (L M : List ByteArray), M ∈ whL a b r L → 0 < L.length → (∀ k, k < L.length → okAt a b L k = true) → ∀ k, k < M.length → okAt a b M k = true := by
  intro r
  induction r with
  | zero =>
    intro L M hM _ hL
    simp [whL] at hM
    subst hM
    exact hL
  | succ r ih =>
    intro L M hM h0 hL
    rw [whL_succ] at hM
    unfold whP at hM
    obtain ⟨c, hc, hm⟩ := List.mem_flatMap.1 hM
    by_cases hh : hsS L c = true
    · rw [if_pos hh] at hm; simp at hm
    · rw [if_neg hh] at hm
      refine ih _ M hm (by simp) (fun k hk => ?_)
      rw [List.length_append, List.length_singleton] at hk
      have hlast := ok_ask (hL (L.length - 1) (by omega))
      by_cases hkl : k < L.length
      · have := hL k hkl
        unfold okAt at this ⊢
        rw [List.take_append_of_le_length (by omega)]
        have e : ∀ i, i ≤ k → (L ++ [c]).getD i ByteArray.empty = L.getD i ByteArray.empty := fun i hi => by simp [List.getD, List.getElem?_append_left (show i < L.length by omega)]
        rw [e k (Nat.le_refl _), e (k - 1) (by omega)]
        exact this
      · obtain rfl : k = L.length := by omega
        have e1 : (L ++ [c]).getD L.length ByteArray.empty = c := by simp [List.getD]
        have e2 : (L ++ [c]).getD (L.length - 1) ByteArray.empty = L.getD (L.length - 1) ByteArray.empty := by simp [List.getD, List.getElem?_append_left (show L.length - 1 < L.length by omega)]
        unfold okAt
        rw [e1, e2, List.take_append_of_le_length (Nat.le_refl _), List.take_length, next_ask hlast hc, next_turn hlast hc, Bool.eq_false_iff.2 hh]
        simp

/-- Whole orders that are found are closed where a turn leads back. -/
theorem whole_closed {a b : Int} {M : List ByteArray} (h : M ∈ wholeL a b) : clB a b M = otB a b (M.getD (M.length - 1) ByteArray.empty) (M.getD 0 ByteArray.empty) := by
  by_cases hf : fewB a b = true
  · obtain ⟨hg, hc⟩ := fewB_yes hf
    obtain ⟨n, rfl⟩ : ∃ n : Nat, a = n := ⟨a.toNat, by have := good_yes hg; omega⟩
    have hc1 := count_pos hg
    unfold wholeL at h
    rw [hf, if_pos rfl] at h
    have hl := (whL_mem h).1
    simp at hl
    have hok := whL_each _ _ M h (by simp) (fun k hk => by
      obtain rfl : k = 0 := by simpa using hk
      unfold okAt
      simp [List.getD, zeros_ask hg, hsS])
    have hor : orB n b M = true := or_yes hg (by omega) (by rw [List.all_eq_true]; exact fun k hk => hok k (List.mem_range.1 hk))
    unfold clB woB
    rw [hor, decide_eq_true (by omega)]
    rfl
  · rw [wholeL_no (Bool.eq_false_iff.2 hf)] at h
    simp at h

end Go.Proofs.Ytjghodfdejdjoaa

namespace Go.Proofs.Ytjghodfdejdjoaa

theorem ok_code {a b : Int} {ts : List ByteArray} {k : Nat} (h : askB a b (ts.getD k ByteArray.empty) = false) : okAt a b ts k = false := by unfold okAt; rw [h]; rfl

theorem ok_met {a b : Int} {ts : List ByteArray} {k : Nat} (h : hsS (ts.take k) (ts.getD k ByteArray.empty) = true) : okAt a b ts k = false := by unfold okAt; rw [h]; simp

theorem ok_first {a b : Int} {ts : List ByteArray} (h : askB a b (ts.getD 0 ByteArray.empty) = true) : okAt a b ts 0 = true := by unfold okAt; rw [h]; simp [hsS]

theorem ok_next {a b : Int} {ts : List ByteArray} {k : Nat} (h : askB a b (ts.getD (k + 1) ByteArray.empty) = true) (h2 : hsS (ts.take (k + 1)) (ts.getD (k + 1) ByteArray.empty) = false) : okAt a b ts (k + 1) = otB a b (ts.getD k ByteArray.empty) (ts.getD (k + 1) ByteArray.empty) := by
  unfold okAt; rw [h, h2]; simp

end Go.Proofs.Ytjghodfdejdjoaa

namespace Go.Proofs.Ytjghodfdejdjoaa
open Go.ChangeShapes Go.WideShapes Go.ChangeAt Go.RowKit Go.Joins

/-- The number is that of one of the texts. -/
def seB (a b : Int) (ts : List ByteArray) (i : Nat) : Bool := ts.any fun t => nuN a b t == i

theorem seB_hs {a b : Int} {ts : List ByteArray} {s : ByteArray} (hs : askB a b s = true) (ht : ∀ t, t ∈ ts → askB a b t = true) : seB a b ts (nuN a b s) = hsS ts s := by
  rw [Bool.eq_iff_iff, hsS_iff]
  unfold seB
  rw [List.any_eq_true]
  constructor
  · rintro ⟨t, h1, h2⟩
    rw [← nuN_inj (ht t h1) hs (by simpa using h2)]; exact h1
  · exact fun h => ⟨s, h, by simp⟩

theorem seB_snoc {a b : Int} {ts : List ByteArray} {k : Nat} (hk : k < ts.length) (i : Nat) : seB a b (ts.take (k + 1)) i = (seB a b (ts.take k) i || (nuN a b (ts.getD k ByteArray.empty) == i)) := by
  unfold seB
  rw [List.take_succ_eq_append_getElem hk, List.any_append]
  simp [List.getD, List.getElem?_eq_getElem hk]

theorem taken_ask {a b : Int} {ts : List ByteArray} {k : Nat} (hk : k ≤ ts.length) (h : (List.range k).all (okAt a b ts) = true) : ∀ t, t ∈ ts.take k → askB a b t = true := by
  intro t ht
  obtain ⟨j, hj, rfl⟩ := List.getElem_of_mem ht
  have hj' : j < k := by rw [List.length_take] at hj; omega
  rw [List.all_eq_true] at h
  have := ok_ask (h j (List.mem_range.2 hj'))
  rw [List.getElem_take]
  simpa [List.getD, List.getElem?_eq_getElem (show j < ts.length by omega)] using this

/-- What the look holds. -/
structure OgSt (w wr : World) (a b : Int) (ts : List ByteArray) (g C j : Nat) : Prop where
  seen : Cells wr g C (fun i => .bool (seB a b (ts.take j) i))
  box : Cells wr w.heap.size 2 (b2F a b)
  bel : Below w.heap.size w wr
  big : w.heap.size < g

theorem OgSt.call {w wr w2 : World} {a b : Int} {ts : List ByteArray} {g C j : Nat} (h : OgSt w wr a b ts g C j) (hb : Below wr.heap.size wr w2) : OgSt w w2 a b ts g C j :=
  ⟨h.seen.call hb, h.box.call hb, bel_call h.bel hb, h.big⟩

theorem OgSt.put {w wr : World} {a b : Int} {ts : List ByteArray} {g C j : Nat} (h : OgSt w wr a b ts g C j) (hj : j < ts.length) (hc : nuN a b (ts.getD j ByteArray.empty) < C) : OgSt w (wr.setCell ⟨g, nuN a b (ts.getD j ByteArray.empty), none⟩ (.bool true)) a b ts g C (j + 1) := by
  refine ⟨(h.seen.set_ hc _).congr (fun i _ => ?_), h.box.far (by show g ≠ w.heap.size; have := h.big; omega) _, h.bel.setCell (Nat.le_of_lt h.big) _, h.big⟩
  rw [seB_snoc hj]
  by_cases e : i = nuN a b (ts.getD j ByteArray.empty)
  · rw [if_pos e, e]; simp
  · rw [if_neg e]
    have : (nuN a b (ts.getD j ByteArray.empty) == i) = false := by simpa using fun h => e h.symm
    rw [this, Bool.or_false]

theorem dist_fact {a b : Int} {s t : ByteArray} {q : Bool} (h2 : twoB a b s t = true) (hq : otB a b s t = q) : (fewZ a b s t != 1) = !q := by
  rw [ot_few h2] at hq
  rw [← hq]
  by_cases h : fewZ a b s t = 1
  · rw [h]; rfl
  · simp [h]

/-- Four cells that lie in a world, and lie on. -/
def Lie4 (wr : World) (a0 a1 a2 a3 : Addr) (x0 x1 x2 x3 : Value) : Prop :=
  (wr.cell? a0 = some x0 ∧ a0.block < wr.heap.size) ∧ (wr.cell? a1 = some x1 ∧ a1.block < wr.heap.size) ∧ (wr.cell? a2 = some x2 ∧ a2.block < wr.heap.size) ∧ (wr.cell? a3 = some x3 ∧ a3.block < wr.heap.size)

theorem call_lie4 {P : Program} {K : FuncId} {args : Array Value} {v : Value} {wr W : World} {a0 a1 a2 a3 : Addr} {x0 x1 x2 x3 : Value} (f : Lie4 wr a0 a1 a2 a3 x0 x1 x2 x3)
    (h : W.cell? a0 = some x0 ∧ W.cell? a1 = some x1 ∧ W.cell? a2 = some x2 ∧ W.cell? a3 = some x3 ∧ Below wr.heap.size wr W) (c : Calls P K args W fun e w' => e = .returned v ∧ Below W.heap.size W w') :
    Calls P K args W fun e w' => e = .returned v ∧ w'.cell? a0 = some x0 ∧ w'.cell? a1 = some x1 ∧ w'.cell? a2 = some x2 ∧ w'.cell? a3 = some x3 ∧ Below wr.heap.size wr w' :=
  c.mono fun _ _ ⟨he, hb⟩ => by
    have hB := bel_call h.2.2.2.2 hb
    exact ⟨he, (hB.cell f.1.2).trans f.1.1, (hB.cell f.2.1.2).trans f.2.1.1, (hB.cell f.2.2.1.2).trans f.2.2.1.1, (hB.cell f.2.2.2.2).trans f.2.2.2.1, hB⟩

end Go.Proofs.Ytjghodfdejdjoaa

namespace Go.Proofs.Ytjghodfdejdjoaa
open Go.ChangeShapes Go.WideShapes Go.ChangeAt Go.RowKit Go.Joins

theorem cells_lit {w : World} {x : Int} {t : TypeId} {g : Nat} (hg : g = w.heap.size) : Cells (w.alloc (.cells #[.int .i64 x] t)) g 1 (digF [x]) := by
  subst hg
  refine ⟨by simp, fun j hj => ?_⟩
  rw [World.cell?_alloc_new, World.frozen?_alloc_new]
  have : j = 0 := by omega
  subst this
  exact ⟨rfl, rfl⟩

end Go.Proofs.Ytjghodfdejdjoaa

namespace Go.Proofs.Ytjghodfdejdjoaa
open Go.ChangeShapes Go.WideShapes Go.ChangeAt Go.RowKit Go.Joins

theorem diff_at {a b : Int} {s t : ByteArray} (h : Asked a b s) (ht : Asked a b t) {k : Nat} (hk : k < t.size) : ((dg t).zipWith (subI b) (dg s)).getD k 0 = subI b ((dg t).getD k 0) ((dg s).getD k 0) := by
  have h1 := h.size
  have h2 := ht.size
  exact zip_at _ _ _ (by rw [dg_length]; exact hk) (by rw [dg_length]; omega)

set_option maxHeartbeats 2000000 in
set_option maxRecDepth 100000 in
theorem first_any (a b : Int) (s t : ByteArray) (w : World) (hs : s.size ≤ maxLen) (ht : t.size ≤ maxLen) :
    Calls Try.prog 47 #[.agg #[.int .i64 a, .int .i64 b], .string s, .string t] w (TurnsOut w (firstZ a b s t) (twoB a b s t)) := by
  have HS := Lib.hid hs
  have HT := Lib.hid ht
  clear hs ht
  by_cases h1 : askB a b s = true
  · have H1 := Lib.hid h1
    by_cases h2 : askB a b t = true
    · have H2 := Lib.hid h2
      have HG : Hid (twoB a b s t = true) := Lib.hid (by unfold twoB; rw [h1, h2]; rfl)
      have HA := Lib.hid (asked h1)
      have HT' := Lib.hid (asked h2)
      obtain ⟨n6, b2, b10⟩ : s.size ≤ 6 ∧ 2 ≤ b ∧ b ≤ 10 := ⟨HA.out.n6, HA.out.b2, HA.out.b10⟩
      have hst : s.size ≤ t.size ∧ t.size ≤ s.size := by have h1 := HA.out.size; have h2 := HT'.out.size; omega
      obtain ⟨st1, st2⟩ := hst
      obtain ⟨i0, hi, hy0, hy1, hy2⟩ := info_parts info_turn
      clear h1 h2
      go_enter Try.func47, Try.ntmps47
      go_wp2_with (first | (go_at_call_of 51 s; refine (hasCode_any _ _ _ _ HS.out).mono ?_; rw [ask_eq, H1.out]; rintro e w1 ⟨rfl, hb⟩; obtain ⟨hc, hf, hz⟩ := bcell hb; have hz0 : w.heap.size < w1.heap.size := by (try simp at hz); omega) | (go_at_call_of 51 t; refine (hasCode_any _ _ _ _ HT.out).mono ?_; rw [ask_eq, H2.out]; rintro e w2 ⟨rfl, hb2⟩; have l0 : w2.cell? ⟨w.heap.size, 0, none⟩ = some (.int .i64 a) := by { rw [hb2.cell (p := ⟨w.heap.size, 0, none⟩) hz0, hc _ _ (by simp)]; simp }; have l1 : w2.cell? ⟨w.heap.size, 1, none⟩ = some (.int .i64 b) := by { rw [hb2.cell (p := ⟨w.heap.size, 1, none⟩) hz0, hc _ _ (by simp)]; simp }))
      have z2 : w.heap.size < w2.heap.size := Nat.lt_of_lt_of_le hz0 hb2.size
      have hB2 : Below w.heap.size w w2 := by (repeat (first | assumption | exact Below.refl _ _ | (refine Below.alloc ?_ (by first | omega | (simp; done) | (simp; omega)) _) | (refine Below.setCell ?_ (by first | omega | (simp; done) | (simp; omega)) _) | refine bel_drewN ?_ _ | refine bel_drew ?_ | (refine bel_call ?_ (by assumption))))
      clear hc hf hz hb hb2
      refine (pairDiff_any _ _ _ _ _ H2.out H1.out).mono ?_
      rintro e w3 ⟨g, c, rfl, hgg, hC, hb3⟩
      have L1 := Lib.hid ((hb3.cell (p := ⟨w.heap.size, 1, none⟩) z2).trans l1)
      have z3 : w.heap.size < w3.heap.size := Nat.lt_of_lt_of_le z2 hb3.size
      have HB3 := Lib.hid (bel_call hB2 hb3)
      have HC := Lib.hid hC
      have hg3 := hC.lt
      clear hC hb3 hgg l0 l1 z2 hB2
      go_wp2_with fail
      go_loopw [8, 29] (fun v i wr => ∃ k : Nat, k ≤ s.size ∧ i = .int .i64 k ∧ wr.ownsRow w3.heap.size 55 2 v (firstAt b (dg s) (dg t) k).length (tv (firstAt b (dg s) (dg t) k)) ∧ Below w3.heap.size w3 wr) (fun _ i _ => s.size - (intOf i).toNat)
      case atStart => exact ⟨0, by omega, rfl, World.ownsRow_nil _ _ _ _, Below.refl _ _⟩
      case round =>
        obtain ⟨k, hk, rfl, hown, hB⟩ := hrel
        have HOW := Lib.hid hown
        clear hown
        by_cases hlt : k < s.size
        · have hlt' : k < t.size := by omega
          have o1 : wr.cell? ⟨g, k, none⟩ = some (.int .i64 (subI b ((dg t).getD k 0) ((dg s).getD k 0))) := by
            rw [(HC.out.below hB hg3).cell hlt', digF, diff_at HA.out HT'.out hlt']
          have l1 := (hB.cell (p := ⟨w.heap.size, 1, none⟩) z3).trans L1.out
          have HFN : Hid (firstAt b (dg s) (dg t) (k + 1) = firstAt b (dg s) (dg t) k ++ List.replicate (farI b ((dg s).getD k 0) ((dg t).getD k 0)).toNat ((k : Int), dirI b ((dg s).getD k 0) ((dg t).getD k 0))) := Lib.hid rfl
          have hlen := firstAt_length b2 b10 (dg s) (dg t) k
          generalize (dg s).getD k 0 = x at o1 HFN
          generalize (dg t).getD k 0 = y at o1 HFN
          generalize firstAt b (dg s) (dg t) k = L at HOW HFN hlen
          obtain ⟨hc1, hc2⟩ := @turn_case b x y b2
          obtain ⟨u0, u1⟩ := subI_bd b2 y x
          generalize subI b y x = P at o1 u0 u1 hc1 hc2
          by_cases hbk : b - P < P
          · obtain ⟨e1, e2⟩ := hc1 hbk
            obtain ⟨e, he⟩ : ∃ e : Nat, b - P = e := ⟨(b - P).toNat, by omega⟩
            have e9 : e ≤ 9 := by omega
            rw [e1, e2, he, Int.toNat_natCast] at HFN
            clear hc1 hc2 e1 e2
            go_wp2_with (first | (go_at_call 52; refine (forth_any _ _).mono ?_; rintro e w4 ⟨rfl, hb4⟩; have hz4 : w.heap.size < w4.heap.size := Nat.lt_of_lt_of_le (Nat.lt_of_lt_of_le z3 hB.size) hb4.size; have l2 := (hb4.cell (p := ⟨w.heap.size, 1, none⟩) (Nat.lt_of_lt_of_le z3 hB.size)).trans l1) | (go_at_call 53; refine (back_any _ _).mono ?_; rintro e w5 ⟨rfl, hb5⟩; obtain ⟨hc5, hf5, hz5⟩ := bcell hb5))
            refine (repeat_int _ _ e _ k (-1) _ rfl (cells_two (by rw [size_setCell, size_setCell])) (by omega)).mono ?_
            rintro e' w7 ⟨g', rfl, hg', hC7, hb7⟩
            have hbA : Below wr.heap.size wr w7 := bel_call ((((bel_call (hb4.alloc hb4.size _) hb5).setCell (p := ⟨w4.heap.size, 0, none⟩) hb4.size _).setCell (p := ⟨w4.heap.size, 1, none⟩) hb4.size _).alloc (by rw [size_setCell, size_setCell]; exact Nat.le_trans hb4.size (Nat.le_trans (by simp) hb5.size)) _) hb7
            have H7 := Lib.hid hC7
            have HO7 := Lib.hid (own_below HOW.out hbA)
            have HB7 := Lib.hid (bel_call hB hbA)
            clear hC7 hbA hb7 hg' hb4 hb5
            go_wp2_with (at_builtin; refine wpList_append_own _ rfl _ _ 68 rfl w3.heap.size 55 i0 (.agg #[.int .i64 0, .int .i64 0]) 2 16 Try.underlying68 hi hy0 hy1 hy2 rfl (by decide) _ _ _ rfl HO7.out ⟨g', 0, none⟩ e e (tv (List.replicate e ((k : Int), -1))) rfl (by rw [tv_length, List.length_replicate]) (tv_news (by rw [List.length_replicate]) H7.out) (tv_one _) (by unfold maxLen; omega) (by omega) HB7.out.size ?_; intro v' w8 hown' hgrow _)
            have HB8 := Lib.hid (HB7.out.grown hgrow HB7.out.size (fun j hj => (HO7.out.lt j hj).1))
            have HO8 : Hid (w8.ownsRow w3.heap.size 55 2 v' (firstAt b (dg s) (dg t) (k + 1)).length (tv (firstAt b (dg s) (dg t) (k + 1)))) := Lib.hid (by rw [HFN.out, List.length_append, List.length_replicate, tv_app]; exact hown')
            clear hgrow hown'
            go_wp2_with fail
            go_roundw
            case rel => exact ⟨k + 1, by omega, by go_num, HO8.out, HB8.out⟩
            case measure => simp [intOf]; omega
          · obtain ⟨e1, e2⟩ := hc2 hbk
            obtain ⟨e, he⟩ : ∃ e : Nat, P = e := ⟨P.toNat, by omega⟩
            have e9 : e ≤ 9 := by omega
            subst he
            rw [e1, e2, Int.toNat_natCast] at HFN
            clear hc1 hc2 e1 e2
            go_wp2_with (first | (go_at_call 52; refine (forth_any _ _).mono ?_; rintro e w4 ⟨rfl, hb4⟩; have hz4 : w.heap.size < w4.heap.size := Nat.lt_of_lt_of_le (Nat.lt_of_lt_of_le z3 hB.size) hb4.size; have l2 := (hb4.cell (p := ⟨w.heap.size, 1, none⟩) (Nat.lt_of_lt_of_le z3 hB.size)).trans l1))
            refine (repeat_int _ _ e _ k 1 _ rfl (cells_two (by simp)) (by omega)).mono ?_
            rintro e' w7 ⟨g', rfl, hg', hC7, hb7⟩
            have hbA : Below wr.heap.size wr w7 := bel_call ((hb4.alloc hb4.size _).alloc (Nat.le_trans hb4.size (by simp)) _) hb7
            have H7 := Lib.hid hC7
            have HO7 := Lib.hid (own_below HOW.out hbA)
            have HB7 := Lib.hid (bel_call hB hbA)
            clear hC7 hbA hb7 hg' hb4
            go_wp2_with (at_builtin; refine wpList_append_own _ rfl _ _ 68 rfl w3.heap.size 55 i0 (.agg #[.int .i64 0, .int .i64 0]) 2 16 Try.underlying68 hi hy0 hy1 hy2 rfl (by decide) _ _ _ rfl HO7.out ⟨g', 0, none⟩ e e (tv (List.replicate e ((k : Int), 1))) rfl (by rw [tv_length, List.length_replicate]) (tv_news (by rw [List.length_replicate]) H7.out) (tv_one _) (by unfold maxLen; omega) (by omega) HB7.out.size ?_; intro v' w8 hown' hgrow _)
            have HB8 := Lib.hid (HB7.out.grown hgrow HB7.out.size (fun j hj => (HO7.out.lt j hj).1))
            have HO8 : Hid (w8.ownsRow w3.heap.size 55 2 v' (firstAt b (dg s) (dg t) (k + 1)).length (tv (firstAt b (dg s) (dg t) (k + 1)))) := Lib.hid (by rw [HFN.out, List.length_append, List.length_replicate, tv_app]; exact hown')
            clear hgrow hown'
            go_wp2_with fail
            go_roundw
            case rel => exact ⟨k + 1, by omega, by go_num, HO8.out, HB8.out⟩
            case measure => simp [intOf]; omega
        · obtain rfl : k = s.size := by omega
          go_wp2_with fail
          go_ret2
          rw [HG.out, firstZ_yes HG.out]
          exact turns_some (by have := firstAt_length b2 b10 (dg s) (dg t) s.size; omega) (Nat.le_of_lt z3) HOW.out (HB3.out.trans (hB.mono (Nat.le_of_lt z3)))
    · have H2 := Lib.hid (Bool.eq_false_iff.2 h2)
      have HG : Hid (twoB a b s t = false) := Lib.hid (by unfold twoB; rw [h1, H2.out]; rfl)
      clear h1 h2
      go_enter Try.func47, Try.ntmps47
      go_wp2_with (first | (go_at_call_of 51 s; refine (hasCode_any _ _ _ _ HS.out).mono ?_; rw [ask_eq, H1.out]; rintro e w1 ⟨rfl, hb⟩; obtain ⟨hc, hf, hz⟩ := bcell hb; have hz0 : w.heap.size < w1.heap.size := by (try simp at hz); omega) | (go_at_call_of 51 t; refine (hasCode_any _ _ _ _ HT.out).mono ?_; rw [ask_eq, H2.out]; rintro e w1 ⟨rfl, hb⟩; obtain ⟨hc, hf, hz⟩ := bcell hb; have hz0 : w.heap.size < w1.heap.size := by (try simp at hz); omega))
      go_ret2
      rw [HG.out, firstZ_no HG.out]
      refine turns_none ?_
      (repeat (first | assumption | exact Below.refl _ _ | (refine Below.alloc ?_ (by first | omega | (simp; done) | (simp; omega)) _) | (refine Below.setCell ?_ (by first | omega | (simp; done) | (simp; omega)) _) | refine bel_drewN ?_ _ | refine bel_drew ?_ | (refine bel_call ?_ (by assumption))))
  · have H1 := Lib.hid (Bool.eq_false_iff.2 h1)
    have HG : Hid (twoB a b s t = false) := Lib.hid (by unfold twoB; rw [H1.out]; rfl)
    clear h1
    go_enter Try.func47, Try.ntmps47
    go_wp2_with (go_at_call_of 51 s; refine (hasCode_any _ _ _ _ HS.out).mono ?_; rw [ask_eq, H1.out]; rintro e w1 ⟨rfl, hb⟩; obtain ⟨hc, hf, hz⟩ := bcell hb; have hz0 : w.heap.size < w1.heap.size := by (try simp at hz); omega)
    go_ret2
    rw [HG.out, firstZ_no HG.out]
    refine turns_none ?_
    (repeat (first | assumption | exact Below.refl _ _ | (refine Below.alloc ?_ (by first | omega | (simp; done) | (simp; omega)) _) | (refine Below.setCell ?_ (by first | omega | (simp; done) | (simp; omega)) _) | refine bel_drewN ?_ _ | refine bel_drew ?_ | (refine bel_call ?_ (by assumption))))

end Go.Proofs.Ytjghodfdejdjoaa

namespace Go.Proofs.Ytjghodfdejdjoaa
open Go.ChangeShapes Go.WideShapes Go.ChangeAt Go.RowKit Go.Joins

def turnV (p : Int × Int) : Value := .agg #[.int .i64 p.1, .int .i64 p.2]

theorem pair_set {W : World} {g : Nat} {f : Nat → Value} (h : Cells W g 2 f) (x y : Value) :
    ((W.setCell ⟨g, 0, none⟩ x).setCell ⟨g, 1, none⟩ y).cell? ⟨g, 0, none⟩ = some x ∧ ((W.setCell ⟨g, 0, none⟩ x).setCell ⟨g, 1, none⟩ y).cell? ⟨g, 1, none⟩ = some y := by
  have h2 := (h.set_ (show 0 < 2 by omega) x).set_ (show 1 < 2 by omega) y
  have e0 := h2.cell (show 0 < 2 by omega)
  have e1 := h2.cell (show 1 < 2 by omega)
  simp at e0 e1
  exact ⟨e0, e1⟩

set_option maxRecDepth 100000 in
set_option maxHeartbeats 2000000 in
theorem oneTurn_any (a b : Int) (s t : ByteArray) (w : World) (hs : s.size ≤ maxLen) (ht : t.size ≤ maxLen) :
    Calls Try.prog 33 #[.agg #[.int .i64 a, .int .i64 b], .string s, .string t] w fun e w' => e = .returned (.tuple #[turnV (otP a b s t), .bool (otB a b s t)]) ∧ Below w.heap.size w w' := by
  have HS := Lib.hid hs
  have HT := Lib.hid ht
  clear hs ht
  by_cases ho : otB a b s t = true
  · have HO := Lib.hid ho
    have HL := Lib.hid (ot_list ho)
    obtain ⟨p, hp⟩ : ∃ p, otP a b s t = p := ⟨_, rfl⟩
    have HP := Lib.hid hp
    clear ho hp
    go_enter Try.func33, Try.ntmps33
    go_wp2_with (go_at_call 47; refine (first_any _ _ _ _ _ HS.out HT.out).mono ?_; rw [HL.out, HP.out]; rintro e w2 ⟨A, c, rfl, hO, hb2⟩
                 obtain ⟨g, rfl, hg, hC⟩ : ∃ g, A = some ⟨g, 0, none⟩ ∧ (w.heap.size + 1 + 1 ≤ g) ∧ Cells w2 g 2 (turnF [p]) := by
                   rcases hO.2.2 with h0 | ⟨g, e, h1, hC⟩
                   · simp at h0
                   · exact ⟨g, e, by simpa using h1, hC⟩
                 have c0 : w2.cell? ⟨g, 0, none⟩ = some (.int .i64 p.1) := hC.cell (show 0 < 2 by omega)
                 have c1 : w2.cell? ⟨g, 1, none⟩ = some (.int .i64 p.2) := hC.cell (show 1 < 2 by omega)
                 have r0 : w2.cell? ⟨w.heap.size + 1, 0, none⟩ = some (.int .i64 0) := (hb2.cell (p := ⟨w.heap.size + 1, 0, none⟩) (by simp)).trans (by simp)
                 have r1 : w2.cell? ⟨w.heap.size + 1, 1, none⟩ = some (.int .i64 0) := (hb2.cell (p := ⟨w.heap.size + 1, 1, none⟩) (by simp)).trans (by simp)
                 have f0 : w2.frozen? ⟨w.heap.size + 1, 0, none⟩ = false := (hb2.frozen (p := ⟨w.heap.size + 1, 0, none⟩) (by simp)).trans (by simp)
                 have f1 : w2.frozen? ⟨w.heap.size + 1, 1, none⟩ = false := (hb2.frozen (p := ⟨w.heap.size + 1, 1, none⟩) (by simp)).trans (by simp)
                 have X2 := Lib.hid (show Below w.heap.size w w2 from bel_call (((Below.refl _ _).alloc (Nat.le_refl _) _).alloc (by simp) _) hb2)
                 have D2 := Lib.hid ((cells_two (w := w.alloc (.cells #[.int .i64 a, .int .i64 b] 27)) (x := 0) (y := 0) (t := 55) (g := w.heap.size + 1) (by simp)).call hb2)
                 clear hO hC hb2)
    obtain ⟨e0, e1⟩ := pair_set D2.out (.int .i64 p.1) (.int .i64 p.2)
    refine bodyPost_ret (v := .tuple #[turnV p, .bool true]) (by simp [results, Try.results33, go_sem, e0, e1, turnV]) rfl ⟨by rw [HP.out, HO.out], ?_⟩
    exact (X2.out.setCell (p := ⟨w.heap.size + 1, 0, none⟩) (by simp) _).setCell (p := ⟨w.heap.size + 1, 1, none⟩) (by simp) _
  · have HO := Lib.hid (Bool.eq_false_iff.2 ho)
    obtain ⟨N, hN⟩ : ∃ N, (firstZ a b s t).length = N := ⟨_, rfl⟩
    have hne : N ≠ 1 := fun e => ho (decide_eq_true (hN.trans e))
    have HN := Lib.hid hN
    clear ho hN
    go_enter Try.func33, Try.ntmps33
    go_wp2_with (go_at_call 47; refine (first_any _ _ _ _ _ HS.out HT.out).mono ?_; rintro e w2 ⟨A, c, rfl, hO, hb2⟩; rw [HN.out]
                 have r0 : w2.cell? ⟨w.heap.size + 1, 0, none⟩ = some (.int .i64 0) := (hb2.cell (p := ⟨w.heap.size + 1, 0, none⟩) (by simp)).trans (by simp)
                 have r1 : w2.cell? ⟨w.heap.size + 1, 1, none⟩ = some (.int .i64 0) := (hb2.cell (p := ⟨w.heap.size + 1, 1, none⟩) (by simp)).trans (by simp)
                 have f0 : w2.frozen? ⟨w.heap.size + 1, 0, none⟩ = false := (hb2.frozen (p := ⟨w.heap.size + 1, 0, none⟩) (by simp)).trans (by simp)
                 have f1 : w2.frozen? ⟨w.heap.size + 1, 1, none⟩ = false := (hb2.frozen (p := ⟨w.heap.size + 1, 1, none⟩) (by simp)).trans (by simp)
                 have X2 := Lib.hid (show Below w.heap.size w w2 from bel_call (((Below.refl _ _).alloc (Nat.le_refl _) _).alloc (by simp) _) hb2)
                 have D2 := Lib.hid ((cells_two (w := w.alloc (.cells #[.int .i64 a, .int .i64 b] 27)) (x := 0) (y := 0) (t := 55) (g := w.heap.size + 1) (by simp)).call hb2)
                 clear hO hb2)
    obtain ⟨e0, e1⟩ := pair_set D2.out (.int .i64 0) (.int .i64 0)
    refine bodyPost_ret (v := .tuple #[turnV (0, 0), .bool false]) (by simp [results, Try.results33, go_sem, e0, e1, turnV]) rfl ⟨by rw [otP_no HO.out, HO.out], ?_⟩
    exact (X2.out.setCell (p := ⟨w.heap.size + 1, 0, none⟩) (by simp) _).setCell (p := ⟨w.heap.size + 1, 1, none⟩) (by simp) _

theorem l1Mod_q (x b : Int) (w : World) (h2 : 2 ≤ b) (h10 : b ≤ 10) :
    Calls Try.prog 48 #[.int .i64 x, .int .i64 b] w fun e w' => e = .returned (.int .i64 (modI b x)) ∧ w' = w :=
  (l1Mod_any x b w h2 h10).mono fun _ _ h => ⟨h.1, h.2.symm⟩

/-- The code behind a rank, around. -/
def rnI (a b x : Int) : Int := x.tmod (countZ a b)

end Go.Proofs.Ytjghodfdejdjoaa

namespace Go.Proofs.Ytjghodfdejdjoaa
open Go.ChangeShapes Go.WideShapes Go.ChangeAt Go.RowKit Go.Joins

/-- What the making holds. -/
structure ToSt (w wr : World) (a b : Int) (ts : List ByteArray) (B0 Bm k j : Nat) (v : Value) : Prop where
  row : wr.ownsRow B0 55 2 v (k - 1) (tv (trL a b ts k))
  map : MpS wr RdB Bm (ts.take j) ltB
  box : Cells wr w.heap.size 2 (b2F a b)
  bel : Below w.heap.size w wr
  big : Bm < B0 ∧ w.heap.size < Bm ∧ B0 ≤ wr.heap.size

theorem ToSt.call {w wr w2 : World} {a b : Int} {ts : List ByteArray} {B0 Bm k j : Nat} {v : Value} (h : ToSt w wr a b ts B0 Bm k j v) (hb : Below wr.heap.size wr w2) : ToSt w w2 a b ts B0 Bm k j v :=
  ⟨own_below h.row hb, h.map.call hb, h.box.call hb, bel_call h.bel hb, ⟨h.big.1, h.big.2.1, Nat.le_trans h.big.2.2 hb.size⟩⟩

theorem ToSt.put {w wr w2 : World} {a b : Int} {ts : List ByteArray} {B0 Bm k j : Nat} {v : Value} (h : ToSt w wr a b ts B0 Bm k j v) (hm : MpS w2 RdB Bm (ts.take (j + 1)) ltB) (hg : wr.grownBy w2 (some Bm)) : ToSt w w2 a b ts B0 Bm k (j + 1) v := by
  have hb := h.big
  refine ⟨h.row.kept hg (.inr fun e => ?_), hm, ?_, h.bel.grown hg h.bel.size (fun j hj => by injection hj with hj; omega), ⟨hb.1, hb.2.1, ?_⟩⟩
  · have := (h.row.lt Bm e).1; omega
  · have e1 := hg.block w.heap.size h.box.lt (fun e => by injection e with e; omega)
    exact ⟨Nat.lt_of_lt_of_le h.box.lt hg.size, fun j hj => by
      have := h.box.at_ j hj
      rw [World.cell?_of_block (a := ⟨w.heap.size, j, none⟩) e1, World.frozen?_of_block (a := ⟨w.heap.size, j, none⟩) e1]; exact this⟩
  · have := hg.size; omega

theorem ToSt.grown {w wr w2 : World} {a b : Int} {ts : List ByteArray} {B0 Bm k j : Nat} {v v' : Value} {k' : Nat} (h : ToSt w wr a b ts B0 Bm k j v) (hr : w2.ownsRow B0 55 2 v' (k' - 1) (tv (trL a b ts k'))) (hg : wr.grownBy w2 v.ownBlock) : ToSt w w2 a b ts B0 Bm k' j v' := by
  have hb := h.big
  have hne : ∀ g, v.ownBlock = some g → B0 ≤ g := fun g e => (h.row.lt g e).1
  refine ⟨hr, h.map.kept hg (fun e => by have := hne _ e.symm; omega), ?_, h.bel.grown hg h.bel.size (fun j hj => by have := hne _ hj; omega), ⟨hb.1, hb.2.1, by have := hg.size; omega⟩⟩
  have e1 := hg.block w.heap.size h.box.lt (fun e => by have := hne _ e.symm; omega)
  exact ⟨Nat.lt_of_lt_of_le h.box.lt hg.size, fun j hj => by
    have := h.box.at_ j hj
    rw [World.cell?_of_block (a := ⟨w.heap.size, j, none⟩) e1, World.frozen?_of_block (a := ⟨w.heap.size, j, none⟩) e1]; exact this⟩

set_option maxRecDepth 100000 in
set_option maxHeartbeats 8000000 in
theorem turnsOfOrder_any (a b : Int) (A : Option Addr) (n c : Nat) (ts : List ByteArray) (w : World) (hn : n ≤ maxLen) (hA : ArgS w A n ts) :
    Calls Try.prog 60 #[.agg #[.int .i64 a, .int .i64 b], .slice A n c] w (TurnsOut w (orT a b ts) (orB a b ts)) := by
  unfold maxLen at hn
  have HA := Lib.hid hA
  have HL := Lib.hid hA.len
  have HZ := Lib.hid hA.sz
  by_cases hg : goodB a b = true
  · have HG := Lib.hid hg
    by_cases h1 : n ≤ 1000
    · obtain ⟨i0, hi, hy0, hy1, hy2⟩ := info_parts info_turn
      have hmm := @run_makeMap Try.prog
      clear hA hg
      go_enter Try.func60, Try.ntmps60
      go_wp2_with (go_at_call 41; refine (isLock_any _ _ _).mono ?_; rw [HG.out]; rintro e w1 ⟨rfl, hb1⟩
                   have C1 := Lib.hid ((box_new (W := w) (a := a) (b := b) (t := 27) rfl).call hb1)
                   have X1 := Lib.hid (show Below w.heap.size w w1 from bel_call ((Below.refl _ _).alloc (Nat.le_refl _) _) hb1)
                   have z1 := C1.out.lt
                   clear hb1)
      have ST0 := Lib.hid (show ToSt w (w1.alloc (.map #[] 0)) a b ts (w1.heap.size + 1) w1.heap.size 0 0 (.slice none 0 0) from
        ⟨World.ownsRow_nil _ _ _ _, MpS.made w1 RdB ltB, C1.out.alloc _, X1.out.alloc X1.out.size _, by omega, z1, by simp⟩)
      clear C1 X1 hmm
      generalize w1.heap.size + 1 = B0 at *
      generalize w1.heap.size = Bm at *
      go_loopw [6, 23] (fun v i wr => ∃ k : Nat, k ≤ n ∧ i = .int .i64 k ∧ (List.range k).all (okAt a b ts) = true ∧ ToSt w wr a b ts B0 Bm k k v) (fun _ i _ => n - (intOf i).toNat)
      case atStart => exact ⟨0, by omega, rfl, rfl, ST0.out⟩
      case round =>
        clear ST0
        obtain ⟨k, hk, rfl, hall, hS⟩ := hrel
        have HST := Lib.hid hS
        have HAL := Lib.hid hall
        clear hS hall
        by_cases hlt : k < n
        · obtain ⟨D, off, rfl, hbD, hcD⟩ := HA.out.at_.resolve_left (by omega)
          have o1 : wr.cell? ⟨D, off + k, none⟩ = some (.string (ts.getD k ByteArray.empty)) := (HST.out.bel.cell (p := ⟨D, off + k, none⟩) hbD).trans (hcD k hlt)
          have l0 : wr.cell? ⟨w.heap.size, 0, none⟩ = some (.int .i64 a) := HST.out.box.cell (show 0 < 2 by omega)
          have l1 : wr.cell? ⟨w.heap.size, 1, none⟩ = some (.int .i64 b) := HST.out.box.cell (show 1 < 2 by omega)
          have HCD := Lib.hid hcD
          have HSK := Lib.hid (HZ.out k hlt)
          clear hcD
          obtain ⟨s, hs⟩ : ∃ s, ts.getD k ByteArray.empty = s := ⟨_, rfl⟩
          have HSS := Lib.hid hs
          rw [hs] at o1 HSK
          clear hs
          have HNO : Hid (okAt a b ts k = false → orB a b ts = false) := Lib.hid fun h => or_not (by rw [HL.out]; exact hlt) h
          by_cases hc : askB a b s = true
          · have HC := Lib.hid hc
            by_cases hm : hsS (ts.take k) s = true
            · have HO : Hid (orB a b ts = false) := Lib.hid (HNO.out (ok_met (by rw [HSS.out]; exact hm)))
              have HM := Lib.hid hm
              clear hc hm
              go_wp2_with (go_at_call 51; refine (hasCode_any _ _ _ _ HSK.out).mono ?_; rw [ask_eq, HC.out]; rintro e w2 ⟨rfl, hb2⟩
                           have ST2 := Lib.hid (HST.out.call hb2)
                           have hlk := ST2.out.map.lookB Try.underlying86 HSK.out (b := true) (by rw [← hsS_iff, HM.out])
                           clear hb2)
              go_ret2
              rw [orT_no HO.out, HO.out]
              exact turns_none ST2.out.bel
            · have HM := Lib.hid (Bool.eq_false_iff.2 hm)
              have HTK : Hid (addS (ts.take k) s = ts.take (k + 1)) := Lib.hid (by
                rw [addS_out (fun h => hm (hsS_iff.2 h)), List.take_succ_eq_append_getElem (show k < ts.length by rw [HL.out]; exact hlt)]
                have : ts[k]'(by rw [HL.out]; exact hlt) = s := by rw [← HSS.out]; simp [List.getD, List.getElem?_eq_getElem (show k < ts.length by rw [HL.out]; exact hlt)]
                rw [this])
              have hfew : (ts.take k).length ≤ 1000000 := by rw [List.length_take]; omega
              clear hc hm
              rcases k with _ | m
              · rw [Nat.add_zero] at o1
                have HOK := Lib.hid (ok_first (a := a) (b := b) (ts := ts) (by rw [HSS.out]; exact HC.out))
                go_wp2_with (first
                  | (go_at_call 51; refine (hasCode_any _ _ _ _ HSK.out).mono ?_; rw [ask_eq, HC.out]; rintro e w2 ⟨rfl, hb2⟩
                     have ST2 := Lib.hid (HST.out.call hb2)
                     have hlk := ST2.out.map.lookB Try.underlying86 HSK.out (b := false) (by rw [← hsS_iff, HM.out])
                     clear hb2)
                  | (at_mapUpdate; refine wpList_store_S rfl _ _ _ _ _ (.inl rfl) Try.underlying86 ST2.out.map s HSK.out hfew rfl rfl _ rfl (.lit (.bool true)) rfl ?_; intro w3 hL3 hg3
                     have ST3 := Lib.hid (ST2.out.put (HTK.out ▸ hL3.congr (fun t _ => by unfold ltB; split <;> rfl)) hg3)
                     clear hL3 hg3))
                go_roundw
                case rel => exact ⟨1, by omega, by go_num, allR_snoc HAL.out HOK.out, ⟨ST3.out.row, ST3.out.map, ST3.out.box, ST3.out.bel, ST3.out.big⟩⟩
                case measure => simp [intOf]; omega
              · obtain ⟨t, ht⟩ : ∃ t, ts.getD m ByteArray.empty = t := ⟨_, rfl⟩
                have HTT := Lib.hid ht
                have HTS : Hid (t.size ≤ maxLen) := Lib.hid (by rw [← ht]; exact HZ.out m (by omega))
                obtain ⟨q, hq⟩ : ∃ q, otB a b t s = q := ⟨_, rfl⟩
                obtain ⟨p, hp⟩ : ∃ p, otP a b t s = p := ⟨_, rfl⟩
                have HQ := Lib.hid hq
                have HP := Lib.hid hp
                have HOK : Hid (okAt a b ts (m + 1) = q) := Lib.hid (by rw [ok_next (by rw [HSS.out]; exact HC.out) (by rw [HSS.out]; exact HM.out), HTT.out, HSS.out, hq])
                have HTR : Hid (trL a b ts (m + 1 + 1) = trL a b ts (m + 1) ++ [p]) := Lib.hid (by rw [trL_snoc, HTT.out, HSS.out, hp])
                have hk0 : (0 : Int) ≤ (m : Int) + 1 := by omega
                have hk1 : m < n := by omega
                have hw1 : IntKind.i64.wrap (m : Int) = (m : Int) := IntWalk.i64_in _ (by omega)
                clear ht hq hp
                go_wp2_with (first
                  | (go_at_call 51; refine (hasCode_any _ _ _ _ HSK.out).mono ?_; rw [ask_eq, HC.out]; rintro e w2 ⟨rfl, hb2⟩
                     have ST2 := Lib.hid (HST.out.call hb2)
                     have hlk := ST2.out.map.lookB Try.underlying86 HSK.out (b := false) (by rw [← hsS_iff, HM.out])
                     clear hb2)
                  | (at_mapUpdate; refine wpList_store_S rfl _ _ _ _ _ (.inl rfl) Try.underlying86 ST2.out.map s HSK.out hfew rfl rfl _ rfl (.lit (.bool true)) rfl ?_; intro w3 hL3 hg3
                     have ST3 := Lib.hid (ST2.out.put (HTK.out ▸ hL3.congr (fun t _ => by unfold ltB; split <;> rfl)) hg3)
                     have j0 : w3.cell? ⟨w.heap.size, 0, none⟩ = some (.int .i64 a) := ST3.out.box.cell (show 0 < 2 by omega)
                     have j1 : w3.cell? ⟨w.heap.size, 1, none⟩ = some (.int .i64 b) := ST3.out.box.cell (show 1 < 2 by omega)
                     have o3 : w3.cell? ⟨D, off + m, none⟩ = some (.string t) := ((ST3.out.bel.cell (p := ⟨D, off + m, none⟩) hbD).trans (HCD.out m hk1)).trans (by rw [HTT.out])
                     have hU3 : w.heap.size < w3.heap.size := ST3.out.box.lt
                     have jA0 : (w3.alloc (.cells #[.int .i64 0, .int .i64 0] 55)).cell? ⟨w.heap.size, 0, none⟩ = some (.int .i64 a) := (World.cell?_alloc_lt _ _ _ hU3).trans j0
                     have jA1 : (w3.alloc (.cells #[.int .i64 0, .int .i64 0] 55)).cell? ⟨w.heap.size, 1, none⟩ = some (.int .i64 b) := (World.cell?_alloc_lt _ _ _ hU3).trans j1
                     have oA : (w3.alloc (.cells #[.int .i64 0, .int .i64 0] 55)).cell? ⟨D, off + m, none⟩ = some (.string t) := (World.cell?_alloc_lt _ _ _ (by show D < w3.heap.size; omega)).trans o3
                     clear hL3 hg3))
                go_region_law (go_simp; go_at_call 33; refine (oneTurn_any _ _ _ _ _ HTS.out HSK.out).mono ?_; rw [HP.out, HQ.out]; unfold turnV; rintro e w5 ⟨rfl, hb5⟩
                               have hz5 := hb5.size
                               first
                                 | (have D5 := Lib.hid ((cells_two (w := w3) (x := 0) (y := 0) (t := 55) (g := w3.heap.size) rfl).drew.call hb5)
                                    have r0 := D5.out.cell (show 0 < 2 by omega)
                                    have r1 := D5.out.cell (show 1 < 2 by omega)
                                    have f0 := D5.out.frozen (show 0 < 2 by omega)
                                    have f1 := D5.out.frozen (show 1 < 2 by omega))
                                 | skip)
                all_goals
                  first
                    | (obtain ⟨E0, E1⟩ := pair_set D5.out (.int .i64 p.1) (.int .i64 p.2)
                       have ST4 := Lib.hid (ST3.out.call (show Below w3.heap.size w3 ((w5.setCell ⟨w3.heap.size, 0, none⟩ (.int .i64 p.1)).setCell ⟨w3.heap.size, 1, none⟩ (.int .i64 p.2)) from ((bel_call (bel_drew ((Below.refl _ _).alloc (Nat.le_refl _) _)) hb5).setCell (p := ⟨w3.heap.size, 0, none⟩) (Nat.le_refl _) _).setCell (p := ⟨w3.heap.size, 1, none⟩) (Nat.le_refl _) _))
                       clear D5 r0 r1 f0 f1 hb5 hz5
                       generalize ((w5.setCell ⟨w3.heap.size, 0, none⟩ (.int .i64 p.1)).setCell ⟨w3.heap.size, 1, none⟩ (.int .i64 p.2)) = W at E0 E1 ST4 ⊢
                       generalize w3.heap.size = P at E0 E1 ⊢)
                    | (have DA := cells_two (w := w5) (x := p.1) (y := p.2) (t := 55) (g := w5.heap.size) rfl
                       have E0 : (w5.alloc (.cells #[.int .i64 p.1, .int .i64 p.2] 55)).cell? ⟨w5.heap.size, 0, none⟩ = some (.int .i64 p.1) := DA.cell (show 0 < 2 by omega)
                       have E1 : (w5.alloc (.cells #[.int .i64 p.1, .int .i64 p.2] 55)).cell? ⟨w5.heap.size, 1, none⟩ = some (.int .i64 p.2) := DA.cell (show 1 < 2 by omega)
                       have ST4 := Lib.hid (ST3.out.call (show Below w3.heap.size w3 (w5.alloc (.cells #[.int .i64 p.1, .int .i64 p.2] 55)) from (bel_call (bel_drew (Below.refl _ _)) hb5).alloc hz5 _))
                       clear DA hb5 hz5
                       generalize (w5.alloc (.cells #[.int .i64 p.1, .int .i64 p.2] 55)) = W at E0 E1 ST4 ⊢
                       generalize w5.heap.size = P at E0 E1 ⊢)
                  clear ST3 j0 j1 o3 jA0 jA1 oA hU3 hk0 hw1
                  by_cases hqq : q = true
                  · rw [hqq] at HOK ⊢
                    have hbig := ST4.out.big
                    go_wp2_with (at_builtin; refine wpList_append_own _ rfl _ _ 68 rfl B0 55 i0 (.agg #[.int .i64 0, .int .i64 0]) 2 16 Try.underlying68 hi hy0 hy1 hy2 rfl (by decide) _ _ _ rfl (ST4.out.row.alloc _) ⟨W.heap.size, 0, none⟩ 1 1 [.int .i64 p.1, .int .i64 p.2] rfl rfl (news_at rfl) (by simp [Value.oneCell']) (by unfold maxLen; omega) (by omega) (by simp; omega) ?_; intro v' w6 hown' hgrow _
                                 have ST6 : Hid (ToSt w w6 a b ts B0 Bm (m + 1 + 1) (m + 1 + 1) v') := Lib.hid ((ST4.out.call ((Below.refl _ _).alloc (Nat.le_refl _) (.cells #[.int .i64 p.1, .int .i64 p.2] 55))).grown (by rw [HTR.out, tv_app]; exact hown') hgrow)
                                 clear hown' hgrow)
                    go_roundw
                    case rel => exact ⟨m + 1 + 1, by omega, by go_num, allR_snoc HAL.out HOK.out, ST6.out⟩
                    case measure => simp [intOf]; omega
                  · have hqf := Bool.eq_false_iff.2 hqq
                    rw [hqf] at HOK ⊢
                    have HO : Hid (orB a b ts = false) := Lib.hid (HNO.out HOK.out)
                    go_wp2_with fail
                    go_ret2
                    rw [orT_no HO.out, HO.out]
                    exact turns_none ST4.out.bel
          · have HC := Lib.hid (Bool.eq_false_iff.2 hc)
            have HO : Hid (orB a b ts = false) := Lib.hid (HNO.out (ok_code (by rw [HSS.out]; exact HC.out)))
            clear hc
            go_wp2_with (go_at_call 51; refine (hasCode_any _ _ _ _ HSK.out).mono ?_; rw [ask_eq, HC.out]; rintro e w2 ⟨rfl, hb2⟩
                         have ST2 := Lib.hid (HST.out.call hb2)
                         clear hb2)
            go_ret2
            rw [orT_no HO.out, HO.out]
            exact turns_none ST2.out.bel
        · obtain rfl : k = n := by omega
          have HO : Hid (orB a b ts = true) := Lib.hid (or_yes HG.out (by rw [HL.out]; exact h1) (by rw [HL.out]; exact HAL.out))
          go_wp2_with fail
          go_ret2
          rw [orT_yes HO.out, HO.out, HL.out]
          have hl := trL_length a b ts k
          exact turns_some (base := B0) (by rw [hl]; omega) (by have := HST.out.big; omega) (by rw [hl]; exact HST.out.row) HST.out.bel
    · have HO : Hid (orB a b ts = false) := Lib.hid (by unfold orB; rw [HL.out, decide_eq_false h1]; simp)
      clear hA hg
      go_enter Try.func60, Try.ntmps60
      go_wp2_with (go_at_call 41; refine (isLock_any _ _ _).mono ?_; rw [HG.out]; rintro e w1 ⟨rfl, hb⟩; obtain ⟨hc, hf, hz⟩ := bcell hb; have hz0 : w.heap.size < w1.heap.size := by (try simp at hz); omega)
      go_ret2
      rw [orT_no HO.out, HO.out]
      refine turns_none ?_
      (repeat (first | assumption | exact Below.refl _ _ | (refine Below.alloc ?_ (by first | omega | (simp; done) | (simp; omega)) _) | (refine Below.setCell ?_ (by first | omega | (simp; done) | (simp; omega)) _) | refine bel_drewN ?_ _ | refine bel_drew ?_ | (refine bel_call ?_ (by assumption))))
  · have HG := Lib.hid (Bool.eq_false_iff.2 hg)
    have HO : Hid (orB a b ts = false) := Lib.hid (by unfold orB; rw [HG.out]; rfl)
    clear hA hg
    go_enter Try.func60, Try.ntmps60
    go_wp2_with (go_at_call 41; refine (isLock_any _ _ _).mono ?_; rw [HG.out]; rintro e w1 ⟨rfl, hb⟩; obtain ⟨hc, hf, hz⟩ := bcell hb; have hz0 : w.heap.size < w1.heap.size := by (try simp at hz); omega)
    go_ret2
    rw [orT_no HO.out, HO.out]
    refine turns_none ?_
    (repeat (first | assumption | exact Below.refl _ _ | (refine Below.alloc ?_ (by first | omega | (simp; done) | (simp; omega)) _) | (refine Below.setCell ?_ (by first | omega | (simp; done) | (simp; omega)) _) | refine bel_drewN ?_ _ | refine bel_drew ?_ | (refine bel_call ?_ (by assumption))))

end Go.Proofs.Ytjghodfdejdjoaa

namespace Go.Proofs.Ytjghodfdejdjoaa
open Go.ChangeShapes Go.WideShapes Go.ChangeAt Go.RowKit Go.Joins

theorem or_bad {a b : Int} {ts : List ByteArray} (h : goodB a b = false) : orB a b ts = false := by unfold orB; rw [h]; rfl

theorem wo_bad {a b : Int} {ts : List ByteArray} (h : goodB a b = false) : woB a b ts = false := by unfold woB; rw [or_bad h]; rfl

theorem isTurnOrder_any (a b : Int) (A : Option Addr) (n c : Nat) (ts : List ByteArray) (w : World) (hn : n ≤ maxLen) (hA : ArgS w A n ts) :
    Calls Try.prog 46 #[.agg #[.int .i64 a, .int .i64 b], .slice A n c] w fun e w' => e = .returned (.tuple #[.bool (orB a b ts), .bool (goodB a b)]) ∧ Below w.heap.size w w' := by
  have HA := Lib.hid hA
  have HN := Lib.hid hn
  clear hA hn
  have X0 := Lib.hid (show Below w.heap.size w (w.alloc (.cells #[.int .i64 a, .int .i64 b] 27)) from (Below.refl _ _).alloc (Nat.le_refl _) _)
  have C0 := Lib.hid (box_new (W := w) (a := a) (b := b) (t := 27) rfl)
  go_enter Try.func46, Try.ntmps46
  go_wp2_with (go_at_call 60; refine (turnsOfOrder_any _ _ _ _ _ ts _ HN.out (HA.out.below X0.out)).mono ?_; rintro e w1 ⟨A1, c1, rfl, _, hb1⟩
               have X1 := Lib.hid (bel_call X0.out hb1)
               have C1 := C0.out.call hb1
               have l0 : w1.cell? ⟨w.heap.size, 0, none⟩ = some (.int .i64 a) := C1.cell (show 0 < 2 by omega)
               have l1 : w1.cell? ⟨w.heap.size, 1, none⟩ = some (.int .i64 b) := C1.cell (show 1 < 2 by omega)
               clear hb1)
  refine (isLock_any _ _ _).mono ?_
  rintro e w2 ⟨rfl, hb2⟩
  go_wp2_with fail
  go_ret2
  exact ⟨rfl, bel_call X1.out hb2⟩

theorem wo_eq {a b : Int} {ts : List ByteArray} {n : Nat} {N : Int} (h : orB a b ts = true) (hl : ts.length = n) (hN : countZ a b = N) : woB a b ts = decide ((n : Int) = N) := by
  unfold woB; rw [h, hl, hN]; rfl

theorem isWholeOrder_any (a b : Int) (A : Option Addr) (n c : Nat) (ts : List ByteArray) (w : World) (hn : n ≤ maxLen) (hA : ArgS w A n ts) :
    Calls Try.prog 32 #[.agg #[.int .i64 a, .int .i64 b], .slice A n c] w fun e w' => e = .returned (.tuple #[.bool (woB a b ts), .bool (goodB a b)]) ∧ Below w.heap.size w w' := by
  have HA := Lib.hid hA
  have HN := Lib.hid hn
  have HL := Lib.hid hA.len
  obtain ⟨N, hNe⟩ : ∃ N, countZ a b = N := ⟨_, rfl⟩
  have HC := Lib.hid hNe
  have X0 := Lib.hid (show Below w.heap.size w (w.alloc (.cells #[.int .i64 a, .int .i64 b] 27)) from (Below.refl _ _).alloc (Nat.le_refl _) _)
  have C0 := Lib.hid (box_new (W := w) (a := a) (b := b) (t := 27) rfl)
  clear hA hn hNe
  by_cases ho : orB a b ts = true
  · have HO := Lib.hid ho
    have HW := Lib.hid (wo_eq ho HL.out HC.out)
    clear ho
    go_enter Try.func32, Try.ntmps32
    go_wp2_with (first
      | (go_at_call 46; refine (isTurnOrder_any _ _ _ _ _ ts _ HN.out (HA.out.below X0.out)).mono ?_; rw [HO.out]; rintro e w1 ⟨rfl, hb1⟩
         have X1 := Lib.hid (bel_call X0.out hb1)
         have C1 := C0.out.call hb1
         have l0 : w1.cell? ⟨w.heap.size, 0, none⟩ = some (.int .i64 a) := C1.cell (show 0 < 2 by omega)
         have l1 : w1.cell? ⟨w.heap.size, 1, none⟩ = some (.int .i64 b) := C1.cell (show 1 < 2 by omega)
         clear hb1)
      | (go_at_call 29; refine (count_any _ _ _).mono ?_; rw [HC.out]; rintro e w2 ⟨rfl, hb2⟩))
    go_ret2
    exact ⟨by rw [HW.out]; first | done | rfl, bel_call X1.out hb2⟩
  · have HO := Lib.hid (Bool.eq_false_iff.2 ho)
    have HW : Hid (woB a b ts = false) := Lib.hid (by unfold woB; rw [HO.out]; rfl)
    clear ho
    go_enter Try.func32, Try.ntmps32
    go_wp2_with (first
      | (go_at_call 46; refine (isTurnOrder_any _ _ _ _ _ ts _ HN.out (HA.out.below X0.out)).mono ?_; rw [HO.out]; rintro e w1 ⟨rfl, hb1⟩
         have X1 := Lib.hid (bel_call X0.out hb1)
         have C1 := C0.out.call hb1
         have l0 : w1.cell? ⟨w.heap.size, 0, none⟩ = some (.int .i64 a) := C1.cell (show 0 < 2 by omega)
         have l1 : w1.cell? ⟨w.heap.size, 1, none⟩ = some (.int .i64 b) := C1.cell (show 1 < 2 by omega)
         clear hb1)
      | (go_at_call 29; refine (count_any _ _ _).mono ?_; rw [HC.out]; rintro e w2 ⟨rfl, hb2⟩))
    go_ret2
    exact ⟨by rw [HW.out]; first | done | rfl, bel_call X1.out hb2⟩

end Go.Proofs.Ytjghodfdejdjoaa

namespace Go.Proofs.Ytjghodfdejdjoaa
open Go.ChangeShapes Go.WideShapes Go.ChangeAt Go.RowKit Go.Joins

theorem cl_bad {a b : Int} {ts : List ByteArray} (h : goodB a b = false) : clB a b ts = false := by unfold clB; rw [wo_bad h]; rfl

theorem cl_no {a b : Int} {ts : List ByteArray} (h : woB a b ts = false) : clB a b ts = false := by unfold clB; rw [h]; rfl

theorem cl_yes {a b : Int} {ts : List ByteArray} {m : Nat} (h : woB a b ts = true) (hl : ts.length = m + 1) : clB a b ts = otB a b (ts.getD m ByteArray.empty) (ts.getD 0 ByteArray.empty) := by
  unfold clB; rw [h, hl, Nat.add_sub_cancel]; rfl

theorem wo_parts {a b : Int} {ts : List ByteArray} (h : woB a b ts = true) : goodB a b = true ∧ orB a b ts = true ∧ ∃ m, ts.length = m + 1 := by
  unfold woB at h
  rw [Bool.and_eq_true, decide_eq_true_iff] at h
  obtain ⟨ho, hc⟩ := h
  have hg := (or_parts ho).1
  have hg' := good_yes hg
  refine ⟨hg, ho, ts.length - 1, ?_⟩
  obtain ⟨n, hn⟩ : ∃ n : Nat, a = n := ⟨a.toNat, by omega⟩
  subst hn
  rw [countZ_yes hg] at hc
  have := (pw_bd6 hg'.2.2.1 hg'.2.2.2 (k := n) (by omega)).1
  omega

theorem call_lie4X {P : Program} {K : FuncId} {args : Array Value} {v : Value} {wr W : World} {a0 a1 a2 a3 : Addr} {x0 x1 x2 x3 : Value} (f : Lie4 wr a0 a1 a2 a3 x0 x1 x2 x3)
    (h : W.cell? a0 = some x0 ∧ W.cell? a1 = some x1 ∧ W.cell? a2 = some x2 ∧ W.cell? a3 = some x3 ∧ Below wr.heap.size wr W) (c : Below wr.heap.size wr W → Calls P K args W fun e w' => e = .returned v ∧ Below W.heap.size W w') :
    Calls P K args W fun e w' => e = .returned v ∧ w'.cell? a0 = some x0 ∧ w'.cell? a1 = some x1 ∧ w'.cell? a2 = some x2 ∧ w'.cell? a3 = some x3 ∧ Below wr.heap.size wr w' :=
  call_lie4 f h (c h.2.2.2.2)

set_option maxRecDepth 100000 in
set_option maxHeartbeats 8000000 in
theorem isClosedOrder_any (a b : Int) (A : Option Addr) (n c : Nat) (ts : List ByteArray) (w : World) (hn : n ≤ maxLen) (hA : ArgS w A n ts) :
    Calls Try.prog 21 #[.agg #[.int .i64 a, .int .i64 b], .slice A n c] w fun e w' => e = .returned (.tuple #[.bool (clB a b ts), .bool (goodB a b)]) ∧ Below w.heap.size w w' := by
  have HA := Lib.hid hA
  have HN := Lib.hid hn
  have HL := Lib.hid hA.len
  have HZ := Lib.hid hA.sz
  unfold maxLen at hn
  clear hA
  have X0 := Lib.hid (show Below w.heap.size w (w.alloc (.cells #[.int .i64 a, .int .i64 b] 27)) from (Below.refl _ _).alloc (Nat.le_refl _) _)
  have C0 := Lib.hid (box_new (W := w) (a := a) (b := b) (t := 27) rfl)
  have HBOX : Hid (∀ w1, Below (w.alloc (.cells #[.int .i64 a, .int .i64 b] 27)).heap.size (w.alloc (.cells #[.int .i64 a, .int .i64 b] 27)) w1 → w1.cell? ⟨w.heap.size, 0, none⟩ = some (.int .i64 a) ∧ w1.cell? ⟨w.heap.size, 1, none⟩ = some (.int .i64 b)) := Lib.hid fun w1 h => ⟨(C0.out.call h).cell (show 0 < 2 by omega), (C0.out.call h).cell (show 1 < 2 by omega)⟩
  by_cases hw : woB a b ts = true
  · have HW := Lib.hid hw
    obtain ⟨hg, -, m, hm⟩ := wo_parts hw
    have HG := Lib.hid hg
    obtain rfl : n = m + 1 := by rw [← HL.out]; exact hm
    have HCL := Lib.hid (cl_yes hw hm)
    obtain ⟨D, off, rfl, hbD, hcD⟩ := HA.out.at_.resolve_left (by omega)
    have o1 := hcD 0 (by omega)
    have o2 := hcD m (by omega)
    have HS := Lib.hid (HZ.out 0 (by omega))
    have HT := Lib.hid (HZ.out m (by omega))
    rw [Nat.add_zero] at o1
    clear hw hcD hg hm
    generalize ts.getD 0 ByteArray.empty = s at *
    generalize ts.getD m ByteArray.empty = t at *
    obtain ⟨q, hq⟩ : ∃ q, otB a b t s = q := ⟨_, rfl⟩
    obtain ⟨p, hp⟩ : ∃ p, otP a b t s = p := ⟨_, rfl⟩
    rw [hq] at HCL
    have HQ := Lib.hid hq
    have HP := Lib.hid hp
    have O1 := Lib.hid o1
    have O2 := Lib.hid o2
    clear hq hp o1 o2
    have hw1 : IntKind.i64.wrap (m : Int) = (m : Int) := IntWalk.i64_in _ (by omega)
    have hk0 : (0 : Int) < (m : Int) + 1 := by omega
    have hk3 : (m : Int) < (m : Int) + 1 := by omega
    go_enter Try.func21, Try.ntmps21
    go_wp2_with (go_at_call 32; refine (isWholeOrder_any _ _ _ _ _ ts _ HN.out (HA.out.below X0.out)).mono ?_; rw [HW.out, HG.out]; rintro e w1 ⟨rfl, hb1⟩
                 have X1 := Lib.hid (bel_call X0.out hb1)
                 have C1 := Lib.hid (C0.out.call hb1)
                 have j0 : w1.cell? ⟨w.heap.size, 0, none⟩ = some (.int .i64 a) := C1.out.cell (show 0 < 2 by omega)
                 have j1 : w1.cell? ⟨w.heap.size, 1, none⟩ = some (.int .i64 b) := C1.out.cell (show 1 < 2 by omega)
                 clear hb1)
    have o1 : w1.cell? ⟨D, off, none⟩ = some (.string s) := (X1.out.cell (p := ⟨D, off, none⟩) hbD).trans O1.out
    have o2 : w1.cell? ⟨D, off + m, none⟩ = some (.string t) := (X1.out.cell (p := ⟨D, off + m, none⟩) hbD).trans O2.out
    have zD : D < w1.heap.size := Nat.lt_of_lt_of_le hbD X1.out.size
    have zw : w.heap.size < w1.heap.size := C1.out.lt
    have jA0 : (w1.alloc (.cells #[.int .i64 0, .int .i64 0] 55)).cell? ⟨w.heap.size, 0, none⟩ = some (.int .i64 a) := (World.cell?_alloc_lt _ _ _ zw).trans j0
    have jA1 : (w1.alloc (.cells #[.int .i64 0, .int .i64 0] 55)).cell? ⟨w.heap.size, 1, none⟩ = some (.int .i64 b) := (World.cell?_alloc_lt _ _ _ zw).trans j1
    have oA1 : (w1.alloc (.cells #[.int .i64 0, .int .i64 0] 55)).cell? ⟨D, off, none⟩ = some (.string s) := (World.cell?_alloc_lt _ _ _ zD).trans o1
    have oA2 : (w1.alloc (.cells #[.int .i64 0, .int .i64 0] 55)).cell? ⟨D, off + m, none⟩ = some (.string t) := (World.cell?_alloc_lt _ _ _ zD).trans o2
    go_region_law (go_simp; go_at_call 33; refine (oneTurn_any _ _ _ _ _ HT.out HS.out).mono ?_; rw [HP.out, HQ.out]; unfold turnV; rintro e w5 ⟨rfl, hb5⟩
                   have hz5 := hb5.size
                   first
                     | (have D5 := Lib.hid ((cells_two (w := w1) (x := 0) (y := 0) (t := 55) (g := w1.heap.size) rfl).drew.call hb5)
                        have r0 := D5.out.cell (show 0 < 2 by omega)
                        have r1 := D5.out.cell (show 1 < 2 by omega)
                        have f0 := D5.out.frozen (show 0 < 2 by omega)
                        have f1 := D5.out.frozen (show 1 < 2 by omega))
                     | skip)
    all_goals
      first
        | (have ST4 := Lib.hid (show Below w1.heap.size w1 ((w5.setCell ⟨w1.heap.size, 0, none⟩ (.int .i64 p.1)).setCell ⟨w1.heap.size, 1, none⟩ (.int .i64 p.2)) from ((bel_call (bel_drew ((Below.refl _ _).alloc (Nat.le_refl _) _)) hb5).setCell (p := ⟨w1.heap.size, 0, none⟩) (Nat.le_refl _) _).setCell (p := ⟨w1.heap.size, 1, none⟩) (Nat.le_refl _) _)
           clear D5 r0 r1 f0 f1 hb5 hz5)
        | (have ST4 := Lib.hid (show Below w1.heap.size w1 (w5.alloc (.cells #[.int .i64 p.1, .int .i64 p.2] 55)) from (bel_call (bel_drew (Below.refl _ _)) hb5).alloc hz5 _)
           clear hb5 hz5)
      go_wp2_with fail
      go_ret2
      exact ⟨by rw [HCL.out, HG.out]; rfl, X1.out.trans (ST4.out.mono X1.out.size)⟩
  · have HW := Lib.hid (Bool.eq_false_iff.2 hw)
    have HCL := Lib.hid (cl_no HW.out)
    clear hw
    go_enter Try.func21, Try.ntmps21
    go_wp2_with (go_at_call 32; refine (isWholeOrder_any _ _ _ _ _ ts _ HN.out (HA.out.below X0.out)).mono ?_; rw [HW.out]; rintro e w1 ⟨rfl, hb1⟩
                 have X1 := Lib.hid (bel_call X0.out hb1)
                 obtain ⟨j0, j1⟩ := HBOX.out _ hb1
                 clear hb1)
    go_ret2
    exact ⟨by rw [HCL.out]; rfl, X1.out⟩

end Go.Proofs.Ytjghodfdejdjoaa

namespace Go.Proofs.Ytjghodfdejdjoaa
open Go.ChangeShapes Go.WideShapes Go.ChangeAt Go.RowKit Go.Joins

theorem ownS_arg {w : World} {B : Nat} {A : Option Addr} {n : Nat} {ts : List ByteArray} (h : OwnS w B A n ts) (hs : ∀ k, k < n → (ts.getD k ByteArray.empty).size ≤ maxLen) : ArgS w A n ts :=
  ⟨h.1, h.2.2.imp id fun ⟨g, e, _, hC⟩ => ⟨g, 0, e, hC.lt, fun k hk => by rw [Nat.zero_add]; exact hC.cell hk⟩, hs⟩

theorem whole_sz {a b : Int} {M : List ByteArray} (h : M ∈ wholeL a b) : M.length = (countZ a b).toNat ∧ ∀ k, k < M.length → (M.getD k ByteArray.empty).size ≤ maxLen := by
  by_cases hf : fewB a b = true
  · obtain ⟨hg, hc⟩ := fewB_yes hf
    obtain ⟨n, rfl⟩ : ∃ n : Nat, a = n := ⟨a.toNat, by have := good_yes hg; omega⟩
    have hc1 := count_pos hg
    unfold wholeL at h
    rw [hf, if_pos rfl] at h
    have hl := (whL_mem h).1
    simp at hl
    have hok := whL_each _ _ M h (by simp) (fun k hk => by
      obtain rfl : k = 0 := by simpa using hk
      unfold okAt
      simp [List.getD, zeros_ask hg, hsS])
    refine ⟨by omega, fun k hk => ?_⟩
    have := (asked (ok_ask (hok k hk))).n6
    have := (asked (ok_ask (hok k hk))).size
    unfold maxLen
    omega
  · rw [wholeL_no (Bool.eq_false_iff.2 hf)] at h
    simp at h

theorem clN_snoc {a b : Int} {k : Nat} (h : k < (wholeL a b).length) : clN a b ((wholeL a b).take (k + 1)) = clN a b ((wholeL a b).take k) + if clB a b ((wholeL a b).getD k []) = true then 1 else 0 := by
  have e : (wholeL a b).getD k [] = (wholeL a b)[k] := by simp [List.getD, List.getElem?_eq_getElem h]
  rw [List.take_succ_eq_append_getElem h, clN_app, clN_one, e, whole_closed (List.getElem_mem h)]

set_option maxHeartbeats 2000000 in
theorem countClosed_any (a b : Int) (w : World) :
    Calls Try.prog 15 #[.agg #[.int .i64 a, .int .i64 b]] w fun e w' => e = .returned (.tuple #[.int .i64 (clN a b (wholeL a b) : Nat), .bool (fewB a b)]) ∧ Below w.heap.size w w' := by
  have X0 := Lib.hid (show Below w.heap.size w (w.alloc (.cells #[.int .i64 a, .int .i64 b] 27)) from (Below.refl _ _).alloc (Nat.le_refl _) _)
  have C0 := Lib.hid (box_new (W := w) (a := a) (b := b) (t := 27) rfl)
  obtain ⟨N, hN⟩ : ∃ N, (wholeL a b).length = N := ⟨_, rfl⟩
  have HN := Lib.hid hN
  have HNB : Hid (N ≤ 429981696) := Lib.hid (by
    by_cases hf : fewB a b = true
    · obtain ⟨hg, hc⟩ := fewB_yes hf
      obtain ⟨n, rfl⟩ : ∃ n : Nat, a = n := ⟨a.toNat, by have := good_yes hg; omega⟩
      rw [← hN]
      unfold wholeL
      rw [hf, if_pos rfl]
      exact Nat.le_trans (whL_le _ _) (pow_few (by omega))
    · rw [← hN, wholeL_no (Bool.eq_false_iff.2 hf)]
      simp)
  clear hN
  go_enter Try.func15, Try.ntmps15
  go_wp2_with (go_at_call 19; refine (wholeOrders_any _ _ _).mono ?_; rintro e w1 ⟨A, c, vs, rfl, hO, hV, hb⟩
               rw [HN.out] at hO ⊢
               have HO := Lib.hid hO
               have HV := Lib.hid hV
               have C1 := Lib.hid (C0.out.call hb)
               have X1 := Lib.hid (bel_call X0.out hb)
               clear hO hV hb)
  have hnb := HNB.out
  go_loopw [18, 6] (fun i v wr => ∃ k : Nat, k ≤ N ∧ i = .int .i64 k ∧ v = .int .i64 (clN a b ((wholeL a b).take k) : Nat) ∧ Below w1.heap.size w1 wr) (fun i _ _ => N - (intOf i).toNat)
  case atStart => exact ⟨0, Nat.zero_le _, rfl, rfl, Below.refl _ _⟩
  case round =>
    obtain ⟨k, hk, rfl, rfl, hB⟩ := hrel
    have HB := Lib.hid hB
    have C2 := Lib.hid (C1.out.call hB)
    clear hB
    by_cases hlt : k < N
    · have l0 : wr.cell? ⟨w.heap.size, 0, none⟩ = some (.int .i64 a) := C2.out.cell (show 0 < 2 by omega)
      have l1 : wr.cell? ⟨w.heap.size, 1, none⟩ = some (.int .i64 b) := C2.out.cell (show 1 < 2 by omega)
      obtain ⟨g, cap, hv, _⟩ := rowForm HO.out (by intro e; cases e; omega)
      cases hv
      obtain ⟨A1, c1, hvk, hO1, _⟩ := HV.out.row k (by rw [HN.out]; exact hlt)
      have hg1 : g < w1.heap.size := (HO.out.lt g rfl).2
      have o1 : wr.cell? ⟨g, k, none⟩ = some (.slice A1 (countZ a b).toNat c1) := (HB.out.cell (p := ⟨g, k, none⟩) hg1).trans ((HO.out.cellAt k (by omega)).trans hvk)
      have HMM : Hid ((wholeL a b).getD k [] ∈ wholeL a b) := Lib.hid (by
        have h : k < (wholeL a b).length := by rw [HN.out]; exact hlt
        have e : (wholeL a b).getD k [] = (wholeL a b)[k] := by simp [List.getD, List.getElem?_eq_getElem h]
        rw [e]; exact List.getElem_mem h)
      have HSZ := Lib.hid (whole_sz HMM.out)
      have HAR : Hid (ArgS wr A1 (countZ a b).toNat ((wholeL a b).getD k [])) := Lib.hid (ownS_arg (hO1.keep HB.out) (fun i hi => HSZ.out.2 i (by rw [HSZ.out.1]; exact hi)))
      have HCN := Lib.hid (clN_snoc (a := a) (b := b) (k := k) (by rw [HN.out]; exact hlt))
      have hcl : clN a b ((wholeL a b).take k) ≤ 429981696 := Nat.le_trans (clN_le _ _ _) (by rw [List.length_take]; omega)
      have hc9 : (countZ a b).toNat ≤ 9223372036854775807 := by
        by_cases hf : fewB a b = true
        · have := (fewB_yes hf).2; omega
        · have := HN.out; rw [wholeL_no (Bool.eq_false_iff.2 hf)] at this; simp at this; omega
      obtain ⟨q, hq⟩ : ∃ q, clB a b ((wholeL a b).getD k []) = q := ⟨_, rfl⟩
      have HQ := Lib.hid hq
      rw [hq] at HCN
      clear hq hO1 hvk
      generalize clN a b ((wholeL a b).take k) = d at *
      rcases q with _ | _
      all_goals
        go_wp2_with (go_at_call 21; refine (isClosedOrder_any _ _ _ _ _ ((wholeL a b).getD k []) _ (by unfold maxLen; omega) HAR.out).mono ?_; rw [HQ.out]; rintro e w3 ⟨rfl, hb3⟩)
        have HB3 := Lib.hid (bel_call HB.out hb3)
        clear hb3
        go_roundw
        case rel => exact ⟨k + 1, by omega, by go_num, by rw [HCN.out]; first | go_num | simp, HB3.out⟩
        case measure => simp [intOf]; omega
    · have hkN : k = N := by omega
      have HE : Hid (clN a b ((wholeL a b).take k) = clN a b (wholeL a b)) := Lib.hid (by rw [List.take_of_length_le (by rw [HN.out, hkN]; exact Nat.le_refl _)])
      clear hkN
      rw [HE.out]
      go_wp2_with fail
      go_ret2
      exact ⟨rfl, bel_call X1.out HB.out⟩

end Go.Proofs.Ytjghodfdejdjoaa
