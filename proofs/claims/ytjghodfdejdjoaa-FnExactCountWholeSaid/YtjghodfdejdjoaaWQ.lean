/- All whole orders from the code of zeros on, as both programs find them: how many there are, and the first one. For any lock. -/
import Derived.Test.YtjghodfdejdjoaaOp
import Derived.Lib.AppendZeros
import Derived.Lib.BufferMore
import Derived.OwnWalk
import Derived.Test.YtjghodfdejdjoaaOr2
import Derived.Maps.AppendAt
import Derived.Deep.AppendSrc
import Derived.Test.YtjghodfdejdjoaaMs

namespace Go.Proofs.Ytjghodfdejdjoaa
set_option maxRecDepth 100000
open Go.ChangeShapes Go.WideShapes Go.ChangeAt Go.RowKit Go.Joins

theorem indexS_any (A : Option Addr) (n c : Nat) (ts : List ByteArray) (s : ByteArray) (w : World) (hn : n ≤ maxLen) (hA : ArgS w A n ts) :
    Calls Try.prog 58 #[.slice A n c, .string s] w fun e w' => ∃ i : Int, e = .returned (.int .i64 i) ∧ decide (0 ≤ i) = inS ts s ∧ -1 ≤ i ∧ i ≤ 9223372036854775807 ∧ w = w' := by
  unfold maxLen at hn
  have HL := Lib.hid hA.len
  rcases hA.at_ with h0 | ⟨B, off, rfl, hb, hc⟩
  · subst h0
    have HV : Hid (inS ts s = false) := Lib.hid (by rw [List.length_eq_zero_iff.1 HL.out]; exact inS_no (by simp))
    clear hA
    go_enter Try.func58, Try.ntmps58
    go_wp2_with fail
    go_loop [8] (fun i => i = .int .i64 0) (fun _ => 0)
    case atStart => rfl
    case round =>
      obtain rfl := hrel
      go_wp2_with fail
      go_ret
      exact ⟨-1, rfl, HV.out.symm, by omega, by omega, rfl⟩
  · have HC := Lib.hid hc
    clear hc hA
    go_enter Try.func58, Try.ntmps58
    go_wp2_with fail
    go_loop [8] (fun i => ∃ k : Nat, k ≤ n ∧ i = .int .i64 k ∧ s ∉ ts.take k) (fun i => n - (intOf i).toNat)
    case atStart => exact ⟨0, by omega, rfl, by simp⟩
    case round =>
      obtain ⟨k, hk, rfl, hall⟩ := hrel
      have HAL := Lib.hid hall
      clear hall
      by_cases hlt : k < n
      · have o1 := HC.out k hlt
        have HM : Hid (ts.getD k ByteArray.empty ∈ ts) := Lib.hid (by rw [getD_eq (by rw [HL.out]; exact hlt)]; exact List.getElem_mem _)
        have HS : Hid (ts.getD k ByteArray.empty ≠ s → s ∉ ts.take (k + 1)) := Lib.hid (notin_snoc (by rw [HL.out]; exact hlt) HAL.out)
        generalize ts.getD k ByteArray.empty = x at o1 HM HS
        by_cases he : x = s
        · subst he
          have HV : Hid (inS ts x = true) := Lib.hid (inS_yes HM.out)
          have hb0 : (x.toList == x.toList) = true := by simp
          go_wp2_with fail
          go_ret
          exact ⟨(k : Int), rfl, by rw [HV.out]; exact decide_eq_true (by omega), by omega, by omega, rfl⟩
        · have HN := Lib.hid (HS.out he)
          have hb0 := bytesN he
          have hb1 := bytesN (fun e => he e.symm : s ≠ x)
          go_wp2_with fail
          go_round
          case rel => exact ⟨k + 1, by omega, by go_num, HN.out⟩
          case measure => simp [intOf]; omega
      · have HV : Hid (inS ts s = false) := Lib.hid (inS_no (by
          have := HAL.out
          rwa [List.take_of_length_le (by rw [HL.out]; omega)] at this))
        go_wp2_with fail
        go_ret
        exact ⟨-1, rfl, HV.out.symm, by omega, by omega, rfl⟩

theorem containsS_any (A : Option Addr) (n c : Nat) (ts : List ByteArray) (s : ByteArray) (w : World) (hn : n ≤ maxLen) (hA : ArgS w A n ts) :
    Calls Try.prog 44 #[.slice A n c, .string s] w fun e w' => e = .returned (.bool (inS ts s)) ∧ w = w' := by
  have HX := Lib.hid (fun (W : World) (h : W = w) => (by subst h; exact indexS_any A n c ts s W hn hA : Calls Try.prog 58 #[.slice A n c, .string s] W fun e w' => ∃ i : Int, e = .returned (.int .i64 i) ∧ decide (0 ≤ i) = inS ts s ∧ -1 ≤ i ∧ i ≤ 9223372036854775807 ∧ W = w'))
  clear hn hA
  go_enter Try.func44, Try.ntmps44
  go_wp2_with (go_at_call 58; refine (HX.out _ rfl).mono ?_; rintro e w1 ⟨i, rfl, hi, hi1, hi2, rfl⟩)
  go_ret
  exact ⟨rfl, rfl⟩

set_option maxHeartbeats 2000000 in
theorem growS_any (n : Nat) (h0 : 0 < n) (hn : n ≤ 1000) (w : World) :
    Calls Try.prog 59 #[.slice none 0 0, .int .i64 n] w fun e w' => ∃ v, e = .returned v ∧ w'.ownsRow w.heap.size 9 1 v 0 [] ∧ Below w.heap.size w w' := by
  obtain ⟨i0, hi, hy0, hy1, hy2⟩ := info_parts info_string
  have HR := Lib.hid (fun W : World => Lib.run_append_nil_zeros (P := Try.prog) W 24 3 24 9 i0 (.string ByteArray.empty) .i64 .i64 Try.underlying24 Try.underlying3 hi hy0 n h0 (by omega) (by omega) (by rw [hy2]; omega))
  go_enter Try.func59, Try.ntmps59
  go_wp2_with (at_builtin; refine Lib.wpList_append_run _ rfl _ _ 24 3 rfl (.slice none 0 0) (.int .i64 n) rfl rfl _ _ (HR.out _) ?_)
  go_ret
  refine ⟨_, rfl, ?_, ?_⟩
  · exact World.ownsRow_made _ _ _ (Nat.le_refl _) (grownCap_le_maxLen _ _ _ _ (by unfold maxLen; omega)) (by rw [Array.size_append, size_zeroCells, size_zeroCells]; have := grownCap_ge w n 0 9; simp; omega)
  · (repeat (first | assumption | exact Below.refl _ _ | (refine Below.alloc ?_ (by first | omega | (simp; done) | (simp; omega)) _) | (refine Below.setCell ?_ (by first | omega | (simp; done) | (simp; omega)) _) | refine bel_drewN ?_ _ | refine bel_drew ?_ | (refine bel_call ?_ (by assumption))))

/-- A list of values that lies somewhere. -/
structure PartS (w : World) (a : Addr) (n : Nat) (vs : List Value) : Prop where
  len : vs.length = n
  lt : a.block < w.heap.size
  at_ : ∀ j u, vs[j]? = some u → w.cell? (a.add j) = some u
  one : ∀ u ∈ vs, u.oneCell' = true

theorem addS_block (a : Addr) (j : Nat) : (a.add j).block = a.block := by unfold Addr.add; split <;> rfl

theorem PartS.below {w w' : World} {a : Addr} {n B : Nat} {vs : List Value} (h : PartS w a n vs) (hb : Below B w w') (hB : w.heap.size ≤ B) : PartS w' a n vs :=
  ⟨h.len, Nat.lt_of_lt_of_le h.lt hb.size, fun j u hj => by rw [hb.cell (p := a.add j) (by rw [addS_block]; have := h.lt; omega)]; exact h.at_ j u hj, h.one⟩

def twoSF (x y : Value) (j : Nat) : Value := (#[x, y] : Array Value).toList.getD j undef

set_option maxHeartbeats 4000000 in
theorem concatS_any (g : Nat) (a0 a1 : Addr) (n0 c0 n1 c1 cp : Nat) (v0 v1 : List Value) (w : World) (h0 : 0 < n0 + n1) (hn : n0 + n1 ≤ 1000) (hC : Cells w g 2 (twoSF (.slice (some a0) n0 c0) (.slice (some a1) n1 c1))) (hp0 : PartS w a0 n0 v0) (hp1 : PartS w a1 n1 v1) :
    Calls Try.prog 45 #[.slice (some ⟨g, 0, none⟩) 2 cp] w fun e w' => ∃ v, e = .returned v ∧ w'.ownsRow w.heap.size 9 1 v (n0 + n1) (v0 ++ v1) ∧ Below w.heap.size w w' := by
  obtain ⟨i0, hi, hy0, hy1, hy2⟩ := info_parts info_string
  have HC := Lib.hid hC
  have P0 := Lib.hid hp0
  have P1 := Lib.hid hp1
  have x0 : w.cell? ⟨g, 0, none⟩ = some (.slice (some a0) n0 c0) := hC.cell (show 0 < 2 by omega)
  have x1 : w.cell? ⟨g, 1, none⟩ = some (.slice (some a1) n1 c1) := hC.cell (show 1 < 2 by omega)
  clear hC hp0 hp1
  go_enter Try.func45, Try.ntmps45
  go_wp2_with fail
  go_loop [3, 11] (fun s i => (i = .int .i64 0 ∧ s = .int .i64 0) ∨ (i = .int .i64 1 ∧ s = .int .i64 n0) ∨ (i = .int .i64 2 ∧ s = .int .i64 ((n0 : Int) + n1))) (fun _ i => 2 - (intOf i).toNat)
  case atStart => exact .inl ⟨rfl, rfl⟩
  case round =>
    rcases hrel with ⟨rfl, rfl⟩ | ⟨rfl, rfl⟩ | ⟨rfl, rfl⟩
    · go_wp2_with fail
      go_round
      case rel => exact .inr (.inl ⟨rfl, rfl⟩)
      case measure => decide
    · go_wp2_with fail
      go_round
      case rel => exact .inr (.inr ⟨rfl, rfl⟩)
      case measure => decide
    · obtain ⟨N, hN⟩ : ∃ N, n0 + n1 = N := ⟨_, rfl⟩
      have HN := Lib.hid hN
      have hNi : (n0 : Int) + (n1 : Int) = (N : Int) := by omega
      rw [hNi]
      have hn0 : n0 ≤ 1000 := by omega
      have hn1 : n0 + n1 ≤ 1000 := by omega
      rw [hN] at h0 hn
      clear hNi hN x0 x1
      go_wp2_with (go_at_call 59; refine (growS_any N h0 hn _).mono ?_; rintro e w1 ⟨v, rfl, hO, hb⟩)
      have HCW := Lib.hid (HC.out.call hb)
      have Q0 := Lib.hid (P0.out.below hb (Nat.le_refl _))
      have Q1 := Lib.hid (P1.out.below hb (Nat.le_refl _))
      have hs1 := hb.size
      go_loopw [6, 27] (fun v i wr => ((i = .int .i64 0 ∧ wr.ownsRow w.heap.size 9 1 v 0 []) ∨ (i = .int .i64 1 ∧ wr.ownsRow w.heap.size 9 1 v n0 v0) ∨ (i = .int .i64 2 ∧ wr.ownsRow w.heap.size 9 1 v (n0 + n1) (v0 ++ v1))) ∧ Below w.heap.size w wr) (fun _ i _ => 2 - (intOf i).toNat)
      case atStart => exact ⟨.inl ⟨rfl, hO⟩, hb⟩
      case round =>
        clear hO hb hs1 HCW Q0 Q1
        obtain ⟨hrel, hB⟩ := hrel
        have Q0 := Lib.hid (P0.out.below hB (Nat.le_refl _))
        have Q1 := Lib.hid (P1.out.below hB (Nat.le_refl _))
        have HCR := Lib.hid (HC.out.call hB)
        have hsz := hB.size
        have x0 : wr.cell? ⟨g, 0, none⟩ = some (.slice (some a0) n0 c0) := HCR.out.cell (show 0 < 2 by omega)
        have x1 : wr.cell? ⟨g, 1, none⟩ = some (.slice (some a1) n1 c1) := HCR.out.cell (show 1 < 2 by omega)
        rcases hrel with ⟨rfl, hO⟩ | ⟨rfl, hO⟩ | ⟨rfl, hO⟩
        · have HO := Lib.hid hO
          clear hO
          go_wp2_with (at_builtin; refine wpList_append_own _ rfl _ _ 24 rfl w.heap.size 9 i0 (.string ByteArray.empty) 1 16 Try.underlying24 hi hy0 hy1 hy2 rfl (by decide) _ _ _ rfl HO.out a0 n0 c0 v0 rfl (by rw [Q0.out.len, Nat.mul_one]) Q0.out.at_ Q0.out.one (by unfold maxLen; omega) (by omega) hsz ?_; intro v' w2 hown' hgrow hiff; clear hiff)
          have HB2 := Lib.hid (hB.grown hgrow hsz (fun j hj => (HO.out.lt j hj).1))
          have HO2 := Lib.hid hown'
          clear hown' hgrow
          go_roundw
          case rel => exact ⟨.inr (.inl ⟨rfl, by simpa using HO2.out⟩), HB2.out⟩
          case measure => decide
        · have HO := Lib.hid hO
          clear hO
          go_wp2_with (at_builtin; refine wpList_append_own _ rfl _ _ 24 rfl w.heap.size 9 i0 (.string ByteArray.empty) 1 16 Try.underlying24 hi hy0 hy1 hy2 rfl (by decide) _ _ _ rfl HO.out a1 n1 c1 v1 rfl (by rw [Q1.out.len, Nat.mul_one]) Q1.out.at_ Q1.out.one (by unfold maxLen; omega) (by omega) hsz ?_; intro v' w2 hown' hgrow hiff; clear hiff)
          have HB2 := Lib.hid (hB.grown hgrow hsz (fun j hj => (HO.out.lt j hj).1))
          have HO2 := Lib.hid hown'
          clear hown' hgrow
          go_roundw
          case rel => exact ⟨.inr (.inr ⟨rfl, HO2.out⟩), HB2.out⟩
          case measure => decide
        · go_wp2_with fail
          go_ret
          exact ⟨_, rfl, by rw [← HN.out]; exact hO, hB⟩

end Go.Proofs.Ytjghodfdejdjoaa

namespace Go.Proofs.Ytjghodfdejdjoaa
open Go.ChangeShapes Go.WideShapes Go.ChangeAt Go.RowKit Go.Joins

/-- The values are the lists, each in memory that is known, and none in the block x. -/
structure OrdV (w : World) (B C : Nat) (x : Option Nat) (vs : List Value) (Ms : List (List ByteArray)) : Prop where
  len : vs.length = Ms.length
  row : ∀ j, j < Ms.length → ∃ A c, vs[j]? = some (.slice A C c) ∧ OwnS w B A C (Ms.getD j []) ∧ ∀ g, A = some ⟨g, 0, none⟩ → x ≠ some g

theorem OrdV.call {w w' : World} {B C : Nat} {x : Option Nat} {vs : List Value} {Ms : List (List ByteArray)} (h : OrdV w B C x vs Ms) (hb : Below w.heap.size w w') : OrdV w' B C x vs Ms :=
  ⟨h.len, fun j hj => let ⟨A, c, e, o, q⟩ := h.row j hj; ⟨A, c, e, o.keep hb, q⟩⟩

theorem OrdV.nil (w : World) (B C : Nat) (x : Option Nat) : OrdV w B C x [] [] := ⟨rfl, fun j hj => by simp at hj⟩

theorem OrdV.app {w : World} {B C : Nat} {x : Option Nat} {vs us : List Value} {Ms Ns : List (List ByteArray)} (h : OrdV w B C x vs Ms) (h' : OrdV w B C x us Ns) : OrdV w B C x (vs ++ us) (Ms ++ Ns) := by
  refine ⟨by rw [List.length_append, List.length_append, h.len, h'.len], fun j hj => ?_⟩
  rw [List.length_append] at hj
  by_cases hlt : j < Ms.length
  · obtain ⟨A, c, e, o⟩ := h.row j hlt
    refine ⟨A, c, by rw [List.getElem?_append_left (by rw [h.len]; exact hlt)]; exact e, ?_⟩
    have : (Ms ++ Ns).getD j [] = Ms.getD j [] := by simp [List.getD, List.getElem?_append_left hlt]
    rwa [this]
  · obtain ⟨A, c, e, o⟩ := h'.row (j - Ms.length) (by omega)
    refine ⟨A, c, by rw [List.getElem?_append_right (by rw [h.len]; omega), h.len]; exact e, ?_⟩
    have : (Ms ++ Ns).getD j [] = Ns.getD (j - Ms.length) [] := by simp [List.getD, List.getElem?_append_right (show Ms.length ≤ j by omega)]
    rwa [this]

theorem OrdV.one {w : World} {B C : Nat} {A : Option Addr} {c : Nat} {L : List ByteArray} (h : OwnS w B A C L) : OrdV w B C none [.slice A C c] [L] :=
  ⟨rfl, fun j hj => by
    obtain rfl : j = 0 := by simpa using hj
    exact ⟨A, c, rfl, by simpa using h, fun _ _ e => by cases e⟩⟩

theorem OrdV.cells1 {w : World} {B C : Nat} {x : Option Nat} {vs : List Value} {Ms : List (List ByteArray)} (h : OrdV w B C x vs Ms) : ∀ u ∈ vs, u.oneCell' = true := by
  intro u hu
  obtain ⟨j, hj, rfl⟩ := List.getElem_of_mem hu
  obtain ⟨A, c, e, _⟩ := h.row j (by rw [← h.len]; exact hj)
  rw [List.getElem?_eq_getElem hj] at e
  rw [Option.some.inj e]
  rfl

/-- Lists that lie above a place are in no block below it. -/
theorem OrdV.above {w : World} {B B' C : Nat} {x y : Option Nat} {vs : List Value} {Ms : List (List ByteArray)} (h : OrdV w B C x vs Ms) (hB : B' ≤ B) (hC : 0 < C) (hy : ∀ k, y = some k → k < B) : OrdV w B' C y vs Ms :=
  ⟨h.len, fun j hj => let ⟨A, c, e, o, q⟩ := h.row j hj; ⟨A, c, e, o.base hB, fun g eg => by
    intro e2
    have h1 := hy g e2
    rcases o.2.2 with h0 | ⟨g', e', hg', _⟩
    · omega
    · rw [eg] at e'
      cases e'
      omega⟩⟩

/-- .. and they stay where a row is appended to. -/
theorem OrdV.grown {w w' : World} {B C : Nat} {x y : Option Nat} {vs : List Value} {Ms : List (List ByteArray)} (h : OrdV w B C x vs Ms) (hg : w.grownBy w' x) (hC : 0 < C) (hy : y = x ∨ y = some w.heap.size) : OrdV w' B C y vs Ms :=
  ⟨h.len, fun j hj => by
    obtain ⟨A, c, e, o, q⟩ := h.row j hj
    rcases o.2.2 with h0 | ⟨g, rfl, hgB, hCe⟩
    · omega
    · have hne := q g rfl
      have hb := hg.block g hCe.lt (fun e => hne e.symm)
      refine ⟨_, c, e, ⟨o.1, o.2.1, .inr ⟨g, rfl, hgB, Nat.lt_of_lt_of_le hCe.lt hg.size, fun i hi => ?_⟩⟩, fun g' eg e2 => ?_⟩
      · rw [World.cell?_of_block (a := ⟨g, i, none⟩) hb, World.frozen?_of_block (a := ⟨g, i, none⟩) hb]
        exact hCe.at_ i hi
      · cases eg
        rcases hy with rfl | rfl
        · exact hne e2
        · cases e2
          exact Nat.lt_irrefl _ hCe.lt⟩

/-- What the search hands back. -/
def WhOut (w : World) (B C : Nat) (Ms : List (List ByteArray)) (e : Ending) (w' : World) : Prop :=
  ∃ v vs, e = .returned v ∧ w'.ownsRow w.heap.size 24 1 v Ms.length vs ∧ OrdV w' B C none vs Ms ∧ Below w.heap.size w w'

/-- A row put behind a row of the call's own, whatever it is. -/
theorem run_app2 {P : Program} {w : World} (base : Nat) (t ty e : TypeId) (i : TypeInfo) (z : Value) (bytes : Nat) (ht : P.underlying t = some (.slice e)) (hi : P.info? e = some i) (hz : i.zero = some z)
    (hsize : i.size = 1) (hby : i.bytes = bytes) (hzs : z.cells.size = 1) (v : Value) (n : Nat) (xs : List Value) (hown : w.ownsRow base e 1 v n xs)
    {base' : Nat} (u : Value) (m : Nat) (ys : List Value) (hown' : w.ownsRow base' e 1 u m ys) (h1 : ∀ c ∈ ys, c.oneCell' = true)
    (h63 : n + m ≤ maxLen) (hbytes : (n + m) * bytes ≤ 140737488355328) (hbase : base ≤ w.heap.size) :
    ∃ v' w', (Builtin.append_ #[t, t] ty #[v, u]).run P w = .ok v' w' ∧ w'.ownsRow base e 1 v' (n + m) (xs ++ ys) ∧ w.grownBy w' v.ownBlock ∧ (v'.ownBlock = v.ownBlock ∨ v'.ownBlock = some w.heap.size) := by
  have hl := hown'.1
  rcases hown'.2 with ⟨rfl, rfl⟩ | ⟨g, cap, cur, rfl, _, hg, hnc, _, _, htk⟩
  · obtain rfl : ys = [] := List.eq_nil_of_length_eq_zero (by simpa using hl)
    have hgr : w.grownBy w v.ownBlock := ⟨rfl, rfl, rfl, Nat.le_refl _, fun _ _ _ => rfl⟩
    refine ⟨v, w, ?_, by simpa using hown, hgr, .inl rfl⟩
    rcases hown.2 with ⟨rfl, rfl⟩ | ⟨g, cap, cur, rfl, _, hg, hnc, _, _, _⟩
    · simp [Builtin.append_, run_underlying ht, sizeOf, typeInfo, hi, Builtin.lenOf, Builtin.firstCells]
    · have hrun := run_append_room_src (P := P) w t t ty e i ht hi g 0 n cap (.slice none 0 0) 0 [] (Src.ofNil w ht 0) (by omega) (by simp) (by simp)
      have h0 : ∀ k, w.setCells g k [] = w := fun k => by simp [World.setCells]
      rw [h0] at hrun
      exact hrun
  · have hx : ∀ j c, ys[j]? = some c → w.cell? ((⟨g, 0, none⟩ : Addr).add j) = some c := fun j c hc => by
      have hj := (List.getElem?_eq_some_iff.1 hc).1
      have hadd : (⟨g, 0, none⟩ : Addr).add j = ⟨g, j, none⟩ := by unfold Addr.add; split <;> simp_all
      rw [hadd, hown'.cellAt j (by omega)]
      exact hc
    obtain ⟨v', w', r1, r2, r3, _, r5⟩ := run_append_own_at (P := P) (w := w) base t ty e i z 1 bytes ht hi hz hsize hby hzs (by decide) v n xs hown ⟨g, 0, none⟩ m cap ys hl hx h1 h63 hbytes hbase
    exact ⟨v', w', r1, r2, r3, r5⟩

theorem info_strs : (Try.prog.info? 24).map (fun i => (i.zero, i.size, i.bytes)) = some (some (.slice none 0 0), 1, 24) := by kernel_rfl

theorem ownsRow_down {w : World} {B B' : Nat} {e : TypeId} {v : Value} {n : Nat} {xs : List Value} (h : w.ownsRow B e 1 v n xs) (hB : B' ≤ B) : w.ownsRow B' e 1 v n xs :=
  ⟨h.1, h.2.imp id fun ⟨g, cap, cur, e, hb, r⟩ => ⟨g, cap, cur, e, Nat.le_trans hB hb, r⟩⟩

/-- A row of one value that has just been made. -/
theorem owns_one {w : World} {B : Nat} {t : TypeId} {u : Value} (hB : B ≤ w.heap.size) : (w.alloc (.cells #[u] t)).ownsRow B t 1 (.slice (some ⟨w.heap.size, 0, none⟩) 1 1) 1 [u] := by
  have h := World.ownsRow_lit (base := B) (e := t) (size := 1) w #[u] 1 hB (by unfold maxLen; omega) rfl
  exact h

set_option maxRecDepth 100000 in
set_option maxHeartbeats 8000000 in
theorem wholeBehind_any (n : Nat) (b : Int) (C : Nat) (hg : goodB n b = true) (h9 : C ≤ 9) : ∀ (r m : Nat) (A : Option Addr) (c : Nat) (L : List ByteArray) (B : Nat) (w : World), m + r = C → Beg w n b A m L → OwnS w B A m L → B ≤ w.heap.size →
    Calls Try.prog 31 #[.agg #[.int .i64 n, .int .i64 b], .slice A m c, .int .i64 C] w (WhOut w B C (whL n b r L)) := by
  have HG := Lib.hid hg
  clear hg
  intro r
  induction r with
  | zero =>
    intro m A c L B w hm hB hO hBw
    have HO := Lib.hid hO
    obtain rfl : m = C := by omega
    have hC63 : (m : Int) ≤ 9 := by omega
    clear hB hO
    go_enter Try.func31, Try.ntmps31
    go_wp2_with fail
    go_ret
    have hb1 := (Below.refl w.heap.size w).alloc (Nat.le_refl _) (.cells #[.int .i64 n, .int .i64 b] 27)
    have hb2 := hb1.alloc (o := .cells #[.slice A m c] 24) (by simp)
    refine ⟨_, [.slice A m c], rfl, ?_, OrdV.one (HO.out.keep hb2), hb2⟩
    have h := owns_one (w := w.alloc (.cells #[.int .i64 n, .int .i64 b] 27)) (B := w.heap.size) (t := 24) (u := .slice A m c) (by simp)
    rw [World.size_alloc] at h
    exact h
  | succ r ih =>
    intro m A c L B w hm hB hO hBw
    obtain ⟨i0, hi, hy0, hy1, hy2⟩ := info_parts info_strs
    have HB := Lib.hid hB
    have HO := Lib.hid hO
    have HL := Lib.hid hB.arg.len
    obtain ⟨k, rfl⟩ : ∃ k, m = k + 1 := ⟨m - 1, by have := hB.pos; omega⟩
    obtain ⟨D, off, rfl, hbD, hcD⟩ := hB.arg.at_.resolve_left (by omega)
    have O2 := Lib.hid (hcD k (by omega))
    have HTA := Lib.hid (hB.ask k (by omega))
    have HWL : Hid (whL n b (r + 1) L = whP n b r L (nextL n b (L.getD k ByteArray.empty))) := Lib.hid (by rw [whL_succ, HL.out, Nat.add_sub_cancel])
    have HFW : Hid (∀ j, (whP n b r L ((nextL n b (L.getD k ByteArray.empty)).take j)).length ≤ 5159780352) := Lib.hid fun j => whP_few (by omega)
    have HNA : Hid (∀ x, x ∈ nextL n b (L.getD k ByteArray.empty) → askB n b x = true) := Lib.hid fun x hx => next_ask HTA.out hx
    have HNF := Lib.hid (next_few (a := n) (b := b) (s := L.getD k ByteArray.empty))
    clear hcD hB hO
    generalize L.getD k ByteArray.empty = t at *
    generalize hN : nextL n b t = N at *
    have HN := Lib.hid hN
    have HTZ : Hid (t.size ≤ maxLen) := Lib.hid (by have := (asked HTA.out).n6; have := (asked HTA.out).size; unfold maxLen; omega)
    have X0 := Lib.hid (show Below w.heap.size w (w.alloc (.cells #[.int .i64 n, .int .i64 b] 27)) from (Below.refl _ _).alloc (Nat.le_refl _) _)
    have C0 := Lib.hid (box_new (W := w) (a := n) (b := b) (t := 27) rfl)
    have hw1 : IntKind.i64.wrap (k : Int) = (k : Int) := IntWalk.i64_in _ (by omega)
    have hk0 : (0 : Int) < (k : Int) + 1 := by omega
    have hk3 : (k : Int) < (k : Int) + 1 := by omega
    have hne : ((k : Int) + 1 == (C : Int)) = false := by rw [beq_eq_false_iff_ne]; omega
    clear hN
    go_enter Try.func31, Try.ntmps31
    have l0 : (w.alloc (.cells #[.int .i64 n, .int .i64 b] 27)).cell? ⟨w.heap.size, 0, none⟩ = some (.int .i64 n) := C0.out.cell (show 0 < 2 by omega)
    have l1 : (w.alloc (.cells #[.int .i64 n, .int .i64 b] 27)).cell? ⟨w.heap.size, 1, none⟩ = some (.int .i64 b) := C0.out.cell (show 1 < 2 by omega)
    have o2 : (w.alloc (.cells #[.int .i64 n, .int .i64 b] 27)).cell? ⟨D, off + k, none⟩ = some (.string t) := (X0.out.cell (p := ⟨D, off + k, none⟩) hbD).trans O2.out
    go_wp2_with fail
    go_region_law (go_simp; go_at_call 43; refine (next_any _ _ _ _ HTZ.out).mono ?_; rw [HTA.out, HN.out]; rintro e w2 ⟨A2, c2, rfl, hO2, hb2⟩
                   have X2 := Lib.hid (bel_call (bel_drew X0.out) hb2)
                   have C2 := Lib.hid (C0.out.drew.call hb2)
                   have ON := Lib.hid hO2
                   clear hb2 hO2)
    all_goals
      clear l0 l1 o2 hne
      go_wp2_with fail
      have hw0 : whP n b r L (N.take 0) = [] := by rw [List.take_zero]; rfl
      go_loopw [32, 7] (fun i v wr => ∃ j : Nat, j ≤ N.length ∧ i = .int .i64 j ∧ ∃ vs, wr.ownsRow w2.heap.size 24 1 v (whP n b r L (N.take j)).length vs ∧ OrdV wr B C v.ownBlock vs (whP n b r L (N.take j)) ∧ Below w.heap.size w wr ∧ Below w2.heap.size w2 wr) (fun i _ _ => N.length - (intOf i).toNat)
      case atStart => exact ⟨0, Nat.zero_le _, rfl, [], by rw [hw0]; exact World.ownsRow_nil _ _ _ _, by rw [hw0]; exact OrdV.nil _ _ _ _, X2.out, Below.refl _ _⟩
      case round =>
        clear hw0
        obtain ⟨j, hj, rfl, vs, hOw, hV, hbw, hb2w⟩ := hrel
        have HOW := Lib.hid hOw
        have HVV := Lib.hid hV
        have HBW := Lib.hid hbw
        have ONR := Lib.hid (ON.out.keep hb2w)
        have C3 := Lib.hid (C2.out.call hb2w)
        have HB2W := Lib.hid hb2w
        have hww2 := X2.out.size
        clear hOw hV hbw hb2w
        by_cases hlt : j < N.length
        · obtain ⟨g, rfl, _, hCN⟩ := ONR.out.lt hlt
          have o3 := hCN.cell hlt
          unfold strF at o3
          have HXM : Hid (N.getD j ByteArray.empty ∈ N) := Lib.hid (by rw [getD_eq hlt]; exact List.getElem_mem _)
          have HSN : Hid (whP n b r L (N.take (j + 1)) = whP n b r L (N.take j) ++ (if hsS L (N.getD j ByteArray.empty) then [] else whL n b r (L ++ [N.getD j ByteArray.empty]))) := Lib.hid (by
            rw [List.take_succ_eq_append_getElem hlt, whP_snoc, ← getD_eq hlt])
          have HFJ1 := Lib.hid (HFW.out (j + 1))
          clear hCN
          generalize N.getD j ByteArray.empty = x at *
          have HXA := Lib.hid (HNA.out x HXM.out)
          obtain ⟨W1, hW1⟩ : ∃ W1, whP n b r L (N.take (j + 1)) = W1 := ⟨_, rfl⟩
          rw [hW1] at HSN HFJ1
          have HE1 := Lib.hid hW1
          have hN12 := HNF.out
          have hwj : IntKind.i64.wrap ((j : Int) + 1) = (j : Int) + 1 := IntWalk.i64_in _ (by omega)
          clear hW1
          generalize whP n b r L (N.take j) = W0 at *
          by_cases hh : hsS L x = true
          · have HH := Lib.hid hh
            have HW1 : Hid (W1 = W0) := Lib.hid (by rw [HSN.out, hh]; simp)
            clear hh
            go_wp2_with (go_at_call 44; refine (containsS_any _ _ _ L _ _ (by unfold maxLen; omega) (HB.out.arg.below HBW.out)).mono ?_; rw [inS_hsS, HH.out]; rintro e w4 ⟨rfl, rfl⟩)
            go_roundw
            case rel => exact ⟨j + 1, hlt, by go_num, vs, by rw [HE1.out, HW1.out]; exact HOW.out, by rw [HE1.out, HW1.out]; exact HVV.out, HBW.out, HB2W.out⟩
            case measure => simp [intOf]; omega
          · have HH := Lib.hid (Bool.eq_false_iff.2 hh)
            obtain ⟨V, hV⟩ : ∃ V, whL n b r (L ++ [x]) = V := ⟨_, rfl⟩
            have HV := Lib.hid hV
            have HW1 : Hid (W1 = W0 ++ V) := Lib.hid (by rw [HSN.out, HH.out, ← hV]; rfl)
            have HL1 : Hid (W0.length + V.length ≤ 5159780352) := Lib.hid (by have := HFJ1.out; rw [HW1.out, List.length_append] at this; exact this)
            have l0 : wr.cell? ⟨w.heap.size, 0, none⟩ = some (.int .i64 n) := C3.out.cell (show 0 < 2 by omega)
            have l1 : wr.cell? ⟨w.heap.size, 1, none⟩ = some (.int .i64 b) := C3.out.cell (show 1 < 2 by omega)
            have zw : w.heap.size < wr.heap.size := C3.out.lt
            obtain ⟨Wa, hWa⟩ : ∃ Wa, Wa = wr.alloc (.cells #[.string x] 9) := ⟨_, rfl⟩
            obtain ⟨Wb, hWb⟩ : ∃ Wb, Wb = Wa.alloc (.cells #[.slice (some ⟨D, off, none⟩) (k + 1) c, .slice (some ⟨wr.heap.size, 0, none⟩) 1 1] 24) := ⟨_, rfl⟩
            have BA : Below wr.heap.size wr Wa := by rw [hWa]; exact (Below.refl _ _).alloc (Nat.le_refl _) _
            have zA : Wa.heap.size = wr.heap.size + 1 := by rw [hWa]; simp
            have BB : Below wr.heap.size wr Wb := by rw [hWb]; exact BA.alloc (by omega) _
            have zB : Wb.heap.size = wr.heap.size + 1 + 1 := by rw [hWb]; simp [zA]
            have HCC : Hid (Cells Wb (wr.heap.size + 1) 2 (twoSF (.slice (some ⟨D, off, none⟩) (k + 1) c) (.slice (some ⟨wr.heap.size, 0, none⟩) 1 1))) := Lib.hid (by
              rw [hWb]
              refine ⟨by simp [zA], fun i hi => ?_⟩
              rw [← zA, World.cell?_alloc_new, World.frozen?_alloc_new]
              have : i = 0 ∨ i = 1 := by omega
              rcases this with rfl | rfl <;> exact ⟨rfl, rfl⟩)
            have HP0 : Hid (PartS Wb ⟨D, off, none⟩ (k + 1) (sv L)) := Lib.hid ⟨by simp [sv, HL.out], by show D < _; omega, sv_news HL.out (fun i hi => (((HB.out.arg.below HBW.out).below BB).at_.elim (fun h => by omega) (fun ⟨b', off', e, _, hc⟩ => by cases e; exact hc i hi))), svOne L⟩
            have HP1 : Hid (PartS Wb ⟨wr.heap.size, 0, none⟩ 1 [.string x]) := Lib.hid ⟨rfl, by show wr.heap.size < _; omega, fun i u hu => by
              have hi : i < 1 := (List.getElem?_eq_some_iff.1 hu).1
              obtain rfl : i = 0 := by omega
              have hadd : (⟨wr.heap.size, 0, none⟩ : Addr).add 0 = ⟨wr.heap.size, 0, none⟩ := by unfold Addr.add; split <;> simp_all
              rw [hadd, hWb, World.cell?_alloc_lt _ _ _ (by show wr.heap.size < _; omega), hWa, World.cell?_alloc_new]
              exact hu, fun u hu => by simp at hu; subst hu; rfl⟩
            have HBB := Lib.hid BB
            have HZB := Lib.hid zB
            clear hh BA zA BB zB
            subst hWa
            subst hWb
            go_wp2_with (first
              | (go_at_call 44; refine (containsS_any _ _ _ L _ _ (by unfold maxLen; omega) (HB.out.arg.below HBW.out)).mono ?_; rw [inS_hsS, HH.out]; rintro e w4 ⟨rfl, rfl⟩)
              | (go_at_call 45; refine (concatS_any _ _ _ _ _ _ _ _ (sv L) [.string x] _ (by omega) (by omega) HCC.out HP0.out HP1.out).mono ?_; rintro e w5 ⟨v5, rfl, hO5, hb5⟩
                 have B5 : Hid (Below wr.heap.size wr w5) := Lib.hid (HBB.out.trans (hb5.mono (by rw [HZB.out]; omega)))
                 obtain ⟨A5, c5, rfl, hO6⟩ := own_strs (ts := L ++ [x]) (by rw [sv_snoc]; exact hO5) (by omega)
                 have O6 := Lib.hid (hO6.base (B' := wr.heap.size) (by rw [HZB.out]; omega))
                 have BEG6 := Lib.hid (Beg.snoc HB.out.ask HL.out HXA.out hO6)
                 have n0 : w5.cell? ⟨w.heap.size, 0, none⟩ = some (.int .i64 n) := (B5.out.cell (p := ⟨w.heap.size, 0, none⟩) zw).trans l0
                 have n1 : w5.cell? ⟨w.heap.size, 1, none⟩ = some (.int .i64 b) := (B5.out.cell (p := ⟨w.heap.size, 1, none⟩) zw).trans l1
                 clear hO5 hb5 hO6)
              | (go_at_call 31; refine (ih (k + 1 + 1) A5 c5 (L ++ [x]) wr.heap.size w5 (by omega) BEG6.out O6.out B5.out.size).mono ?_; rintro e w7 ⟨v7, vs7, rfl, hO7, hV7, hb7⟩
                 rw [HV.out] at hO7 hV7
                 have B7 : Hid (Below wr.heap.size wr w7) := Lib.hid (bel_call B5.out hb7)
                 obtain ⟨v8, w8, hrun, hO8, hg8, hat8⟩ := run_app2 (P := Try.prog) (w := w7) w2.heap.size 38 38 24 i0 (.slice none 0 0) 24 Try.underlying38 hi hy0 hy1 hy2 rfl _ _ vs (own_keeps HOW.out B7.out) v7 _ vs7 hO7 hV7.cells1 (by have := HL1.out; unfold maxLen; omega) (by have := HL1.out; omega) (by have := HB2W.out.size; have := B7.out.size; omega)
                 have HRUN := Lib.hid hrun
                 have HO8 := Lib.hid hO8
                 have HG8 := Lib.hid hg8
                 have HAT8 := Lib.hid hat8
                 have HV7 := Lib.hid hV7
                 clear hrun hO8 hg8 hat8 hV7 hO7 hb7)
              | (at_builtin; refine Lib.wpList_append_run _ rfl _ _ 38 38 rfl _ _ rfl rfl _ _ HRUN.out ?_))
            have HB7 := Lib.hid (bel_call HBW.out (B7.out.mono (Nat.le_refl _)))
            have hown := HOW.out.lt
            have HX : Hid (OrdV w8 B C v8.ownBlock (vs ++ vs7) W1) := Lib.hid (by
              rw [HW1.out]
              refine OrdV.app ((HVV.out.call B7.out).grown HG8.out (by omega) HAT8.out) ((HV7.out.above (Nat.le_trans hBw (Nat.le_trans hww2 HB2W.out.size)) (by omega) (fun q hq => (hown q hq).2)).grown HG8.out (by omega) HAT8.out))
            have HY : Hid (w8.ownsRow w2.heap.size 24 1 v8 W1.length (vs ++ vs7)) := Lib.hid (by rw [HW1.out, List.length_append]; exact HO8.out)
            have HZ1 : Hid (Below w.heap.size w w8) := Lib.hid (HB7.out.grown HG8.out (by have := HB7.out.size; omega) (fun q hq => by have := (hown q hq).1; omega))
            have HZ2 : Hid (Below w2.heap.size w2 w8) := Lib.hid ((bel_call HB2W.out B7.out).grown HG8.out (by have := HB2W.out.size; have := B7.out.size; omega) (fun q hq => (hown q hq).1))
            clear hown
            go_roundw
            case rel => exact ⟨j + 1, hlt, by go_num, vs ++ vs7, by rw [HE1.out]; exact HY.out, by rw [HE1.out]; exact HX.out, HZ1.out, HZ2.out⟩
            case measure => simp [intOf]; omega
        · obtain rfl : j = N.length := by omega
          have HE : Hid (whP n b r L (N.take N.length) = whL n b (r + 1) L) := Lib.hid (by rw [List.take_length, HWL.out])
          go_wp2_with fail
          go_ret
          rw [HE.out] at HOW HVV
          exact ⟨_, vs, rfl, ownsRow_down HOW.out hww2, HVV.out.above (Nat.le_refl _) (by omega) (fun k h => by cases h), HBW.out⟩

end Go.Proofs.Ytjghodfdejdjoaa

namespace Go.Proofs.Ytjghodfdejdjoaa
open Go.ChangeShapes Go.WideShapes Go.ChangeAt Go.RowKit Go.Joins

/-- There is a lock of at most 9 codes. -/
def fewB (a b : Int) : Bool := goodB a b && decide (countZ a b ≤ 9)

theorem fewB_yes {a b : Int} (h : fewB a b = true) : goodB a b = true ∧ countZ a b ≤ 9 := by
  unfold fewB at h
  simpa using h

theorem dig_zero (b : Int) (n : Nat) : digL b 0 n = List.replicate n 0 := by
  unfold digL
  apply List.ext_getElem <;> simp

/-- All of them. -/
def wholeL (a b : Int) : List (List ByteArray) := if fewB a b then whL a b ((countZ a b).toNat - 1) [zerosT a b] else []

/-- The first one. -/
def fwZ (a b : Int) : List ByteArray := hdW (wholeL a b)

theorem wholeL_no {a b : Int} (h : fewB a b = false) : wholeL a b = [] := by unfold wholeL; rw [h]; rfl

theorem zeros_ask {n : Nat} {b : Int} (h : goodB n b = true) : askB n b (zerosT n b) = true := by
  obtain ⟨h1, h2, h3, h4⟩ := good_yes h
  rw [zerosT_yes h]
  exact ask_of h ⟨by simp, fun j hj => by rw [List.length_replicate] at hj; simp [List.getD, hj]; omega⟩

theorem count_pos {a b : Int} (hg : goodB a b = true) : 1 ≤ (countZ a b).toNat := by
  obtain ⟨n, rfl⟩ : ∃ n : Nat, a = n := ⟨a.toNat, by have := good_yes hg; omega⟩
  obtain ⟨h1, h2, h3, h4⟩ := good_yes hg
  have := pw_bd6 h3 h4 (k := n) (by omega)
  rw [countZ_yes hg]
  omega

theorem orFew_any (a b : Int) (w : World) :
    Calls Try.prog 16 #[.agg #[.int .i64 a, .int .i64 b]] w fun e w' => e = .returned (.bool (fewB a b)) ∧ Below w.heap.size w w' := by
  by_cases hg : goodB a b = true
  · have HG := Lib.hid hg
    have hg' := good_yes hg
    obtain ⟨n, rfl⟩ : ∃ n : Nat, a = n := ⟨a.toNat, by omega⟩
    have HV : Hid (fewB n b = decide (pw b n ≤ 9)) := Lib.hid (by unfold fewB; rw [hg, countZ_yes hg]; rfl)
    clear hg hg'
    go_enter Try.func16, Try.ntmps16
    go_wp2_with (first | (go_at_call 22; refine (whGood_any _ _ _).mono ?_; rw [HG.out]; rintro e w1 ⟨rfl, hb⟩; obtain ⟨hc, hf, hz⟩ := bcell hb; have hz0 : w.heap.size < w1.heap.size := by (try simp at hz); omega) | (go_at_call 23; refine (whCount_any _ _ _ HG.out).mono ?_; rintro e w1 ⟨rfl, hb⟩; obtain ⟨hc, hf, hz⟩ := bcell hb; have hz0 : w.heap.size < w1.heap.size := by (try simp at hz); omega))
    go_ret
    refine ⟨ret_bool HV.out.symm, ?_⟩
    (repeat (first | assumption | exact Below.refl _ _ | (refine Below.alloc ?_ (by first | omega | (simp; done) | (simp; omega)) _) | (refine Below.setCell ?_ (by first | omega | (simp; done) | (simp; omega)) _) | refine bel_drewN ?_ _ | refine bel_drew ?_ | (refine bel_call ?_ (by assumption))))
  · have HG := Lib.hid (Bool.eq_false_iff.2 hg)
    have HV : Hid (fewB a b = false) := Lib.hid (by unfold fewB; rw [HG.out]; rfl)
    clear hg
    go_enter Try.func16, Try.ntmps16
    go_wp2_with (first | (go_at_call 22; refine (whGood_any _ _ _).mono ?_; rw [HG.out]; rintro e w1 ⟨rfl, hb⟩; obtain ⟨hc, hf, hz⟩ := bcell hb; have hz0 : w.heap.size < w1.heap.size := by (try simp at hz); omega))
    go_ret
    refine ⟨ret_bool HV.out.symm, ?_⟩
    (repeat (first | assumption | exact Below.refl _ _ | (refine Below.alloc ?_ (by first | omega | (simp; done) | (simp; omega)) _) | (refine Below.setCell ?_ (by first | omega | (simp; done) | (simp; omega)) _) | refine bel_drewN ?_ _ | refine bel_drew ?_ | (refine bel_call ?_ (by assumption))))

theorem orZero_any (n : Nat) (b : Int) (w : World) (hg : goodB n b = true) :
    Calls Try.prog 18 #[.agg #[.int .i64 n, .int .i64 b]] w fun e w' => ∃ A c, e = .returned (.slice A 1 c) ∧ OwnS w' w.heap.size A 1 [zerosT n b] ∧ Below w.heap.size w w' := by
  have HG := Lib.hid hg
  have HZ : Hid (textOf (digL b 0 n) = zerosT n b) := Lib.hid (by rw [dig_zero, zerosT_yes hg])
  clear hg
  go_enter Try.func18, Try.ntmps18
  go_wp2_with (go_at_call 28; refine (whOf_any _ _ _ _ HG.out (by omega) (by omega)).mono ?_; rw [HZ.out]; rintro e w1 ⟨rfl, hb⟩; obtain ⟨hc, hf, hz⟩ := bcell hb; have hz0 : w.heap.size < w1.heap.size := by (try simp at hz); omega)
  go_ret
  refine ⟨_, _, rfl, ownS_one rfl (by omega), ?_⟩
  (repeat (first | assumption | exact Below.refl _ _ | (refine Below.alloc ?_ (by first | omega | (simp; done) | (simp; omega)) _) | (refine Below.setCell ?_ (by first | omega | (simp; done) | (simp; omega)) _) | refine bel_drewN ?_ _ | refine bel_drew ?_ | (refine bel_call ?_ (by assumption))))

set_option maxHeartbeats 2000000 in
theorem specCountWhole_any (a b : Int) (w : World) :
    Calls Try.prog 12 #[.agg #[.int .i64 a, .int .i64 b]] w fun e w' => e = .returned (.tuple #[.int .i64 ((wholeL a b).length : Nat), .bool (fewB a b)]) ∧ Below w.heap.size w w' := by
  by_cases hf : fewB a b = true
  · have HFE := Lib.hid hf
    obtain ⟨hg, hc⟩ := fewB_yes hf
    obtain ⟨n, rfl⟩ : ∃ n : Nat, a = n := ⟨a.toNat, by have := good_yes hg; omega⟩
    have HG := Lib.hid hg
    obtain ⟨h1, h2, h3, h4⟩ := good_yes hg
    have hpw := pw_bd6 h3 h4 (k := n) (by omega)
    obtain ⟨C, hC⟩ : ∃ C : Nat, pw b n = (C : Int) := ⟨(pw b n).toNat, by omega⟩
    have HC := Lib.hid hC
    have h9 : C ≤ 9 := by rw [countZ_yes hg, hC] at hc; omega
    have h0 : 1 ≤ C := by omega
    have HM : Hid (wholeL n b = whL n b (C - 1) [zerosT n b]) := Lib.hid (by unfold wholeL; rw [hf, if_pos rfl, countZ_yes hg, hC, Int.toNat_natCast])
    have HZA := Lib.hid (zeros_ask hg)
    have HLN : Hid ((wholeL n b).length ≤ 429981696) := Lib.hid (by rw [HM.out]; exact Nat.le_trans (whL_le _ _) (pow_few (by omega)))
    have HCN : Hid (clN n b (wholeL n b) ≤ 429981696) := Lib.hid (Nat.le_trans (clN_le _ _ _) HLN.out)
    clear hf hg hc hC hpw
    have C0 := Lib.hid (box_new (W := w) (a := n) (b := b) (t := 27) rfl)
    have X0 := Lib.hid (show Below w.heap.size w (w.alloc (.cells #[.int .i64 n, .int .i64 b] 27)) from (Below.refl _ _).alloc (Nat.le_refl _) _)
    go_enter Try.func12, Try.ntmps12
    go_wp2_with (go_at_call 16; refine (orFew_any _ _ _).mono ?_; rw [HFE.out]; rintro e w1 ⟨rfl, hb1⟩
                 have X1 := Lib.hid (bel_call X0.out hb1)
                 have C1 := Lib.hid (C0.out.call hb1)
                 clear hb1)
    have l0 : w1.cell? ⟨w.heap.size, 0, none⟩ = some (.int .i64 n) := C1.out.cell (show 0 < 2 by omega)
    have l1 : w1.cell? ⟨w.heap.size, 1, none⟩ = some (.int .i64 b) := C1.out.cell (show 1 < 2 by omega)
    go_region_law (first
      | (go_simp; go_at_call 18; refine (orZero_any _ _ _ HG.out).mono ?_; rintro e w2 ⟨A2, c2, rfl, hO2, hb2⟩
         have X2 := Lib.hid (bel_call (bel_drew X1.out) hb2)
         have C2 := Lib.hid (C1.out.drew.call hb2)
         have BE := Lib.hid (Beg.snoc (L := []) (m := 0) (A := A2) (fun k hk => by omega) rfl HZA.out hO2)
         have m0 : w2.cell? ⟨w.heap.size, 0, none⟩ = some (.int .i64 n) := C2.out.cell (show 0 < 2 by omega)
         have m1 : w2.cell? ⟨w.heap.size, 1, none⟩ = some (.int .i64 b) := C2.out.cell (show 1 < 2 by omega)
         clear hb2 hO2)
      | (go_simp; go_at_call 17; refine (orSearch_any n b C HG.out HC.out h9 (C - 1) 1 A2 c2 [zerosT n b] _ (by omega) BE.out).mono ?_; rw [← HM.out]; rintro e w3 ⟨A3, c3, rfl, hO3, hb3⟩
         have X3 := Lib.hid (bel_call X2.out hb3)
         have O3 := Lib.hid (hO3.base X2.out.size)
         clear hb3 hO3))
    all_goals
      go_wp2_with fail
      go_ret2
      exact ⟨by rw [HFE.out]; rfl, X3.out⟩
  · have HFE := Lib.hid (Bool.eq_false_iff.2 hf)
    have HM := Lib.hid (wholeL_no HFE.out)
    clear hf
    go_enter Try.func12, Try.ntmps12
    go_wp2_with (go_at_call 16; refine (orFew_any _ _ _).mono ?_; rw [HFE.out]; rintro e w1 ⟨rfl, hb⟩; obtain ⟨hc, hf, hz⟩ := bcell hb; have hz0 : w.heap.size < w1.heap.size := by (try simp at hz); omega)
    go_ret2
    rw [HFE.out, HM.out]
    refine ⟨rfl, ?_⟩
    (repeat (first | assumption | exact Below.refl _ _ | (refine Below.alloc ?_ (by first | omega | (simp; done) | (simp; omega)) _) | (refine Below.setCell ?_ (by first | omega | (simp; done) | (simp; omega)) _) | refine bel_drewN ?_ _ | refine bel_drew ?_ | (refine bel_call ?_ (by assumption))))

set_option maxHeartbeats 2000000 in
theorem specCountClosed_any (a b : Int) (w : World) :
    Calls Try.prog 14 #[.agg #[.int .i64 a, .int .i64 b]] w fun e w' => e = .returned (.tuple #[.int .i64 (clN a b (wholeL a b) : Nat), .bool (fewB a b)]) ∧ Below w.heap.size w w' := by
  by_cases hf : fewB a b = true
  · have HFE := Lib.hid hf
    obtain ⟨hg, hc⟩ := fewB_yes hf
    obtain ⟨n, rfl⟩ : ∃ n : Nat, a = n := ⟨a.toNat, by have := good_yes hg; omega⟩
    have HG := Lib.hid hg
    obtain ⟨h1, h2, h3, h4⟩ := good_yes hg
    have hpw := pw_bd6 h3 h4 (k := n) (by omega)
    obtain ⟨C, hC⟩ : ∃ C : Nat, pw b n = (C : Int) := ⟨(pw b n).toNat, by omega⟩
    have HC := Lib.hid hC
    have h9 : C ≤ 9 := by rw [countZ_yes hg, hC] at hc; omega
    have h0 : 1 ≤ C := by omega
    have HM : Hid (wholeL n b = whL n b (C - 1) [zerosT n b]) := Lib.hid (by unfold wholeL; rw [hf, if_pos rfl, countZ_yes hg, hC, Int.toNat_natCast])
    have HZA := Lib.hid (zeros_ask hg)
    have HLN : Hid ((wholeL n b).length ≤ 429981696) := Lib.hid (by rw [HM.out]; exact Nat.le_trans (whL_le _ _) (pow_few (by omega)))
    have HCN : Hid (clN n b (wholeL n b) ≤ 429981696) := Lib.hid (Nat.le_trans (clN_le _ _ _) HLN.out)
    clear hf hg hc hC hpw
    have C0 := Lib.hid (box_new (W := w) (a := n) (b := b) (t := 27) rfl)
    have X0 := Lib.hid (show Below w.heap.size w (w.alloc (.cells #[.int .i64 n, .int .i64 b] 27)) from (Below.refl _ _).alloc (Nat.le_refl _) _)
    go_enter Try.func14, Try.ntmps14
    go_wp2_with (go_at_call 16; refine (orFew_any _ _ _).mono ?_; rw [HFE.out]; rintro e w1 ⟨rfl, hb1⟩
                 have X1 := Lib.hid (bel_call X0.out hb1)
                 have C1 := Lib.hid (C0.out.call hb1)
                 clear hb1)
    have l0 : w1.cell? ⟨w.heap.size, 0, none⟩ = some (.int .i64 n) := C1.out.cell (show 0 < 2 by omega)
    have l1 : w1.cell? ⟨w.heap.size, 1, none⟩ = some (.int .i64 b) := C1.out.cell (show 1 < 2 by omega)
    go_region_law (first
      | (go_simp; go_at_call 18; refine (orZero_any _ _ _ HG.out).mono ?_; rintro e w2 ⟨A2, c2, rfl, hO2, hb2⟩
         have X2 := Lib.hid (bel_call (bel_drew X1.out) hb2)
         have C2 := Lib.hid (C1.out.drew.call hb2)
         have BE := Lib.hid (Beg.snoc (L := []) (m := 0) (A := A2) (fun k hk => by omega) rfl HZA.out hO2)
         have m0 : w2.cell? ⟨w.heap.size, 0, none⟩ = some (.int .i64 n) := C2.out.cell (show 0 < 2 by omega)
         have m1 : w2.cell? ⟨w.heap.size, 1, none⟩ = some (.int .i64 b) := C2.out.cell (show 1 < 2 by omega)
         clear hb2 hO2)
      | (go_simp; go_at_call 17; refine (orSearch_any n b C HG.out HC.out h9 (C - 1) 1 A2 c2 [zerosT n b] _ (by omega) BE.out).mono ?_; rw [← HM.out]; rintro e w3 ⟨A3, c3, rfl, hO3, hb3⟩
         have X3 := Lib.hid (bel_call X2.out hb3)
         have O3 := Lib.hid (hO3.base X2.out.size)
         clear hb3 hO3))
    all_goals
      go_wp2_with fail
      go_ret2
      exact ⟨by rw [HFE.out]; rfl, X3.out⟩
  · have HFE := Lib.hid (Bool.eq_false_iff.2 hf)
    have HM := Lib.hid (wholeL_no HFE.out)
    clear hf
    go_enter Try.func14, Try.ntmps14
    go_wp2_with (go_at_call 16; refine (orFew_any _ _ _).mono ?_; rw [HFE.out]; rintro e w1 ⟨rfl, hb⟩; obtain ⟨hc, hf, hz⟩ := bcell hb; have hz0 : w.heap.size < w1.heap.size := by (try simp at hz); omega)
    go_ret2
    rw [HFE.out, HM.out]
    refine ⟨rfl, ?_⟩
    (repeat (first | assumption | exact Below.refl _ _ | (refine Below.alloc ?_ (by first | omega | (simp; done) | (simp; omega)) _) | (refine Below.setCell ?_ (by first | omega | (simp; done) | (simp; omega)) _) | refine bel_drewN ?_ _ | refine bel_drew ?_ | (refine bel_call ?_ (by assumption))))

set_option maxHeartbeats 2000000 in
theorem specFirstWhole_any (a b : Int) (w : World) :
    Calls Try.prog 6 #[.agg #[.int .i64 a, .int .i64 b]] w fun e w' => StrsOut w (fwZ a b) (fewB a b) e w' := by
  by_cases hf : fewB a b = true
  · have HFE := Lib.hid hf
    obtain ⟨hg, hc⟩ := fewB_yes hf
    obtain ⟨n, rfl⟩ : ∃ n : Nat, a = n := ⟨a.toNat, by have := good_yes hg; omega⟩
    have HG := Lib.hid hg
    obtain ⟨h1, h2, h3, h4⟩ := good_yes hg
    have hpw := pw_bd6 h3 h4 (k := n) (by omega)
    obtain ⟨C, hC⟩ : ∃ C : Nat, pw b n = (C : Int) := ⟨(pw b n).toNat, by omega⟩
    have HC := Lib.hid hC
    have h9 : C ≤ 9 := by rw [countZ_yes hg, hC] at hc; omega
    have h0 : 1 ≤ C := by omega
    have HM : Hid (wholeL n b = whL n b (C - 1) [zerosT n b]) := Lib.hid (by unfold wholeL; rw [hf, if_pos rfl, countZ_yes hg, hC, Int.toNat_natCast])
    have HZA := Lib.hid (zeros_ask hg)
    have HLN : Hid ((wholeL n b).length ≤ 429981696) := Lib.hid (by rw [HM.out]; exact Nat.le_trans (whL_le _ _) (pow_few (by omega)))
    have HCN : Hid (clN n b (wholeL n b) ≤ 429981696) := Lib.hid (Nat.le_trans (clN_le _ _ _) HLN.out)
    clear hf hg hc hC hpw
    have C0 := Lib.hid (box_new (W := w) (a := n) (b := b) (t := 27) rfl)
    have X0 := Lib.hid (show Below w.heap.size w (w.alloc (.cells #[.int .i64 n, .int .i64 b] 27)) from (Below.refl _ _).alloc (Nat.le_refl _) _)
    go_enter Try.func6, Try.ntmps6
    go_wp2_with (go_at_call 16; refine (orFew_any _ _ _).mono ?_; rw [HFE.out]; rintro e w1 ⟨rfl, hb1⟩
                 have X1 := Lib.hid (bel_call X0.out hb1)
                 have C1 := Lib.hid (C0.out.call hb1)
                 clear hb1)
    have l0 : w1.cell? ⟨w.heap.size, 0, none⟩ = some (.int .i64 n) := C1.out.cell (show 0 < 2 by omega)
    have l1 : w1.cell? ⟨w.heap.size, 1, none⟩ = some (.int .i64 b) := C1.out.cell (show 1 < 2 by omega)
    go_region_law (first
      | (go_simp; go_at_call 18; refine (orZero_any _ _ _ HG.out).mono ?_; rintro e w2 ⟨A2, c2, rfl, hO2, hb2⟩
         have X2 := Lib.hid (bel_call (bel_drew X1.out) hb2)
         have C2 := Lib.hid (C1.out.drew.call hb2)
         have BE := Lib.hid (Beg.snoc (L := []) (m := 0) (A := A2) (fun k hk => by omega) rfl HZA.out hO2)
         have m0 : w2.cell? ⟨w.heap.size, 0, none⟩ = some (.int .i64 n) := C2.out.cell (show 0 < 2 by omega)
         have m1 : w2.cell? ⟨w.heap.size, 1, none⟩ = some (.int .i64 b) := C2.out.cell (show 1 < 2 by omega)
         clear hb2 hO2)
      | (go_simp; go_at_call 17; refine (orSearch_any n b C HG.out HC.out h9 (C - 1) 1 A2 c2 [zerosT n b] _ (by omega) BE.out).mono ?_; rw [← HM.out]; rintro e w3 ⟨A3, c3, rfl, hO3, hb3⟩
         have X3 := Lib.hid (bel_call X2.out hb3)
         have O3 := Lib.hid (hO3.base X2.out.size)
         clear hb3 hO3))
    all_goals
      go_wp2_with fail
      go_ret2
      exact ⟨A3, c3, by rw [HFE.out]; rfl, O3.out, X3.out⟩
  · have HFE := Lib.hid (Bool.eq_false_iff.2 hf)
    have HM := Lib.hid (wholeL_no HFE.out)
    clear hf
    go_enter Try.func6, Try.ntmps6
    go_wp2_with (go_at_call 16; refine (orFew_any _ _ _).mono ?_; rw [HFE.out]; rintro e w1 ⟨rfl, hb⟩; obtain ⟨hc, hf, hz⟩ := bcell hb; have hz0 : w.heap.size < w1.heap.size := by (try simp at hz); omega)
    go_ret2
    unfold fwZ
    rw [HFE.out, HM.out]
    refine strs_none ?_
    (repeat (first | assumption | exact Below.refl _ _ | (refine Below.alloc ?_ (by first | omega | (simp; done) | (simp; omega)) _) | (refine Below.setCell ?_ (by first | omega | (simp; done) | (simp; omega)) _) | refine bel_drewN ?_ _ | refine bel_drew ?_ | (refine bel_call ?_ (by assumption))))

end Go.Proofs.Ytjghodfdejdjoaa

namespace Go.Proofs.Ytjghodfdejdjoaa
open Go.ChangeShapes Go.WideShapes Go.ChangeAt Go.RowKit Go.Joins

theorem next_of {a b : Int} {s t : ByteArray} (h : askB a b s = true) (ht : t ∈ nxC b (dg s) (2 * s.size)) : t ∈ nextL a b s := by
  rw [nextL_yes h]
  have hk : t.data.toList ∈ tidy (keyL (nxC b (dg s) (2 * s.size))) := (tidy_mem _ _).2 (List.mem_map.2 ⟨t, ht, rfl⟩)
  exact List.mem_map.2 ⟨_, hk, by cases t; rfl⟩

theorem whL_in {a b : Int} : ∀ (r : Nat) (L M : List ByteArray), M.length = L.length + r → M.take L.length = L → 0 < L.length → (∀ j, L.length ≤ j → j < M.length → M.getD j ByteArray.empty ∈ nextL a b (M.getD (j - 1) ByteArray.empty)) → M.Nodup → M ∈ whL a b r L := by
  intro r
  induction r with
  | zero =>
    intro L M hl ht _ _ _
    have : M = L := by rw [← ht, List.take_of_length_le (by omega)]
    rw [this]
    simp [whL]
  | succ r ih =>
    intro L M hl ht h0 hn hd
    have hlt : L.length < M.length := by omega
    have hlast : M.getD (L.length - 1) ByteArray.empty = L.getD (L.length - 1) ByteArray.empty := by
      rw [← ht, List.length_take, Nat.min_eq_left (by omega)]
      simp [List.getD, show L.length - 1 < L.length by omega]
    have hc := hn L.length (Nat.le_refl _) hlt
    rw [hlast] at hc
    have htk : M.take (L.length + 1) = L ++ [M.getD L.length ByteArray.empty] := by
      rw [List.take_succ_eq_append_getElem hlt, ht]
      simp [List.getD, List.getElem?_eq_getElem hlt]
    have hno : hsS L (M.getD L.length ByteArray.empty) = false := by
      rw [Bool.eq_false_iff]
      intro h
      have hm := hsS_iff.1 h
      have e2 : M.getD L.length ByteArray.empty = M[L.length] := by simp [List.getD, List.getElem?_eq_getElem hlt]
      rw [e2] at hm
      have hdr : M[L.length] ∈ M.drop L.length := by
        rw [List.drop_eq_getElem_cons hlt]
        exact List.mem_cons_self
      have hsp := hd
      rw [← List.take_append_drop L.length M, List.nodup_append] at hsp
      clear hc hlast htk e2
      generalize M[L.length] = x at *
      have hm2 : x ∈ M.take L.length := by rw [ht]; exact hm
      exact hsp.2.2 _ hm2 _ hdr rfl
    rw [whL_succ]
    unfold whP
    refine List.mem_flatMap.2 ⟨_, hc, ?_⟩
    rw [hno]
    refine ih _ M (by simp; omega) (by rw [List.length_append, List.length_singleton]; exact htk) (by simp) (fun j hj hjl => hn j (by simp at hj; omega) hjl) hd

/-- Each of the codes comes next to the one before. -/
def pathOK (a b : Int) (M : List ByteArray) : Bool :=
  decide (M.length = (countZ a b).toNat) && decide (M.take 1 = [zerosT a b]) && decide M.Nodup &&
    (List.range (M.length - 1)).all fun j => askB a b (M.getD j ByteArray.empty) && (nxC b (dg (M.getD j ByteArray.empty)) (2 * (M.getD j ByteArray.empty).size)).any fun t => decide (t = M.getD (j + 1) ByteArray.empty)

theorem path_whole {a b : Int} {M : List ByteArray} (hf : fewB a b = true) (h : pathOK a b M = true) : M ∈ wholeL a b := by
  unfold pathOK at h
  simp only [Bool.and_eq_true, decide_eq_true_eq, List.all_eq_true, List.mem_range, List.any_eq_true] at h
  obtain ⟨⟨⟨h1, h2⟩, h3⟩, h4⟩ := h
  unfold wholeL
  rw [hf, if_pos rfl]
  have hM : 0 < M.length := by
    cases M with
    | nil => simp at h2
    | cons => simp
  refine whL_in _ _ M (by simp; omega) h2 (by simp) (fun j hj hjl => ?_) h3
  simp at hj
  obtain ⟨ha, t, ht, e⟩ := h4 (j - 1) (by omega)
  rw [show j - 1 + 1 = j by omega] at e
  rw [← e]
  exact next_of ha ht

def pathOf (ds : List (List Int)) : List ByteArray := ds.map textOf

theorem whole_some {a b : Int} (hf : fewB a b = true) : 0 < (wholeL a b).length := by
  obtain ⟨hg, hc⟩ := fewB_yes hf
  obtain ⟨n, rfl⟩ : ∃ n : Nat, a = n := ⟨a.toNat, by have := good_yes hg; omega⟩
  obtain ⟨h1, h2, h3, h4⟩ := good_yes hg
  rw [countZ_yes hg] at hc
  have key : ∀ M, pathOK n b M = true → 0 < (wholeL n b).length := fun M h => List.length_pos_of_mem (path_whole hf h)
  have hn : n = 1 ∨ n = 2 ∨ n = 3 ∨ n = 4 ∨ n = 5 ∨ n = 6 := by omega
  have hb : b = 2 ∨ b = 3 ∨ b = 4 ∨ b = 5 ∨ b = 6 ∨ b = 7 ∨ b = 8 ∨ b = 9 ∨ b = 10 := by omega
  clear h1 h2 h3 h4 hf hg
  rcases hn with rfl | rfl | rfl | rfl | rfl | rfl
  · refine key (pathOf ((List.range b.toNat).map fun (i : Nat) => [(i : Int)])) ?_
    clear key
    rcases hb with rfl | rfl | rfl | rfl | rfl | rfl | rfl | rfl | rfl
    · decide +kernel
    · decide +kernel
    · decide +kernel
    · decide +kernel
    · decide +kernel
    · decide +kernel
    · decide +kernel
    · decide +kernel
    · exact absurd hc (by decide)
  · rcases hb with rfl | rfl | rfl | rfl | rfl | rfl | rfl | rfl | rfl
    · refine key (pathOf [[0, 0], [0, 1], [1, 1], [1, 0]]) ?_
      clear key
      decide +kernel
    · refine key (pathOf [[0, 0], [0, 1], [0, 2], [1, 2], [1, 0], [1, 1], [2, 1], [2, 2], [2, 0]]) ?_
      clear key
      decide +kernel
    all_goals exact absurd hc (by decide)
  · rcases hb with rfl | rfl | rfl | rfl | rfl | rfl | rfl | rfl | rfl
    · refine key (pathOf [[0, 0, 0], [0, 0, 1], [0, 1, 1], [0, 1, 0], [1, 1, 0], [1, 1, 1], [1, 0, 1], [1, 0, 0]]) ?_
      clear key
      decide +kernel
    all_goals exact absurd hc (by decide)
  all_goals
    rcases hb with rfl | rfl | rfl | rfl | rfl | rfl | rfl | rfl | rfl <;> exact absurd hc (by decide)

end Go.Proofs.Ytjghodfdejdjoaa

namespace Go.Proofs.Ytjghodfdejdjoaa
open Go.ChangeShapes Go.WideShapes Go.ChangeAt Go.RowKit Go.Joins

/-- What wholeOrders hands back. -/
def WoOut (w : World) (a b : Int) (e : Ending) (w' : World) : Prop :=
  ∃ A c vs, e = .returned (.tuple #[.slice A (wholeL a b).length c, .bool (fewB a b)]) ∧ w'.ownsRow w.heap.size 24 1 (.slice A (wholeL a b).length c) (wholeL a b).length vs ∧
    OrdV w' w.heap.size (countZ a b).toNat none vs (wholeL a b) ∧ Below w.heap.size w w'

theorem row_form {w : World} {base : Nat} {e : TypeId} {v : Value} {n : Nat} {xs : List Value} (h : w.ownsRow base e 1 v n xs) : ∃ A c, v = .slice A n c := by
  rcases h.2 with ⟨rfl, rfl⟩ | ⟨g, cap, cur, rfl, _⟩
  · exact ⟨none, 0, rfl⟩
  · exact ⟨_, cap, rfl⟩

set_option maxHeartbeats 2000000 in
theorem wholeOrders_any (a b : Int) (w : World) :
    Calls Try.prog 19 #[.agg #[.int .i64 a, .int .i64 b]] w (WoOut w a b) := by
  by_cases hf : fewB a b = true
  · have HFE := Lib.hid hf
    obtain ⟨hg, hc⟩ := fewB_yes hf
    obtain ⟨n, rfl⟩ : ∃ n : Nat, a = n := ⟨a.toNat, by have := good_yes hg; omega⟩
    have HG := Lib.hid hg
    obtain ⟨h1, h2, h3, h4⟩ := good_yes hg
    have hpw := pw_bd6 h3 h4 (k := n) (by omega)
    obtain ⟨C, hC⟩ : ∃ C : Nat, pw b n = (C : Int) := ⟨(pw b n).toNat, by omega⟩
    have HC : Hid (countZ n b = (C : Int)) := Lib.hid (by rw [countZ_yes hg, hC])
    have h9 : C ≤ 9 := by rw [countZ_yes hg, hC] at hc; omega
    have h0 : 1 ≤ C := by omega
    have HM : Hid (wholeL n b = whL n b (C - 1) [zerosT n b]) := Lib.hid (by unfold wholeL; rw [hf, if_pos rfl, countZ_yes hg, hC, Int.toNat_natCast])
    have HZA := Lib.hid (zeros_ask hg)
    clear hf hg hc hC hpw
    have C0 := Lib.hid (box_new (W := w) (a := n) (b := b) (t := 27) rfl)
    have X0 := Lib.hid (show Below w.heap.size w (w.alloc (.cells #[.int .i64 n, .int .i64 b] 27)) from (Below.refl _ _).alloc (Nat.le_refl _) _)
    go_enter Try.func19, Try.ntmps19
    go_wp2_with (first
      | (go_at_call 29; refine (count_any _ _ _).mono ?_; rw [HG.out, HC.out]; rintro e w1 ⟨rfl, hb1⟩
         have X1 := Lib.hid (bel_call X0.out hb1)
         have C1 := Lib.hid (C0.out.call hb1)
         have l0 : w1.cell? ⟨w.heap.size, 0, none⟩ = some (.int .i64 n) := C1.out.cell (show 0 < 2 by omega)
         have l1 : w1.cell? ⟨w.heap.size, 1, none⟩ = some (.int .i64 b) := C1.out.cell (show 1 < 2 by omega)
         clear hb1)
      | (go_at_call 30; refine (zero_any _ _ _).mono ?_; rw [HG.out]; rintro e w2 ⟨rfl, hb2⟩
         have X2 := Lib.hid (bel_call X1.out hb2)
         have C2 := Lib.hid (C1.out.call hb2)
         have m0 : w2.cell? ⟨w.heap.size, 0, none⟩ = some (.int .i64 n) := C2.out.cell (show 0 < 2 by omega)
         have m1 : w2.cell? ⟨w.heap.size, 1, none⟩ = some (.int .i64 b) := C2.out.cell (show 1 < 2 by omega)
         have X3 := Lib.hid (X2.out.alloc (o := .cells #[.string (zerosT n b)] 9) X2.out.size)
         have C3 := Lib.hid (C2.out.alloc (.cells #[.string (zerosT n b)] 9))
         have OZ := Lib.hid (ownS_one (W := w2) (B := w.heap.size) (s := zerosT n b) (t := 9) rfl X2.out.size)
         clear hb2)
      | (go_at_call 31; refine (wholeBehind_any n b C HG.out h9 (C - 1) 1 _ _ [zerosT n b] w.heap.size _ (by omega) (Beg.snoc (L := []) (m := 0) (fun k hk => by omega) rfl HZA.out OZ.out) OZ.out X3.out.size).mono ?_; rw [← HM.out]; rintro e w4 ⟨v4, vs, rfl, hO4, hV4, hb4⟩
         have X4 := Lib.hid (bel_call X3.out hb4)
         have O4 := Lib.hid (ownsRow_down hO4 X3.out.size)
         have V4 := Lib.hid hV4
         clear hb4 hO4 hV4))
    go_ret2
    obtain ⟨A, c, hv⟩ := row_form O4.out
    exact ⟨A, c, vs, by rw [HFE.out, hv]; rfl, by rw [← hv]; exact O4.out, by rw [HC.out, Int.toNat_natCast]; exact V4.out, X4.out⟩
  · have HFE := Lib.hid (Bool.eq_false_iff.2 hf)
    have HM := Lib.hid (wholeL_no HFE.out)
    have hout : ∀ w', Below w.heap.size w w' → WoOut w a b (.returned (.tuple #[.slice none 0 0, .bool false])) w' := fun w' hb => by
      unfold WoOut
      rw [HM.out, HFE.out]
      exact ⟨none, 0, [], rfl, World.ownsRow_nil _ _ _ _, OrdV.nil _ _ _ _, hb⟩
    by_cases hg : goodB a b = true
    · have HG := Lib.hid hg
      have hc : 9 < countZ a b := by
        unfold fewB at HFE
        rw [hg] at HFE
        have := HFE.out
        simp at this
        omega
      have hb9 : countZ a b ≤ 1000000 := by
        obtain ⟨n, rfl⟩ : ∃ n : Nat, a = n := ⟨a.toNat, by have := good_yes hg; omega⟩
        obtain ⟨h1, h2, h3, h4⟩ := good_yes hg
        have := pw_bd6 h3 h4 (k := n) (by omega)
        rw [countZ_yes hg]; omega
      have HOUT := Lib.hid hout
      clear hf hg hout
      go_enter Try.func19, Try.ntmps19
      go_wp2_with (go_at_call 29; refine (count_any _ _ _).mono ?_; rw [HG.out]; rintro e w1 ⟨rfl, hb⟩; obtain ⟨hc, hf, hz⟩ := bcell hb; have hz0 : w.heap.size < w1.heap.size := by (try simp at hz); omega)
      go_ret2
      refine HOUT.out _ ?_
      (repeat (first | assumption | exact Below.refl _ _ | (refine Below.alloc ?_ (by first | omega | (simp; done) | (simp; omega)) _) | (refine Below.setCell ?_ (by first | omega | (simp; done) | (simp; omega)) _) | refine bel_drewN ?_ _ | refine bel_drew ?_ | (refine bel_call ?_ (by assumption))))
    · have HG := Lib.hid (Bool.eq_false_iff.2 hg)
      have HOUT := Lib.hid hout
      clear hf hg hout
      go_enter Try.func19, Try.ntmps19
      go_wp2_with (go_at_call 29; refine (count_any _ _ _).mono ?_; rw [HG.out]; rintro e w1 ⟨rfl, hb⟩; obtain ⟨hc, hf, hz⟩ := bcell hb; have hz0 : w.heap.size < w1.heap.size := by (try simp at hz); omega)
      go_ret2
      refine HOUT.out _ ?_
      (repeat (first | assumption | exact Below.refl _ _ | (refine Below.alloc ?_ (by first | omega | (simp; done) | (simp; omega)) _) | (refine Below.setCell ?_ (by first | omega | (simp; done) | (simp; omega)) _) | refine bel_drewN ?_ _ | refine bel_drew ?_ | (refine bel_call ?_ (by assumption))))

theorem countWhole_any (a b : Int) (w : World) :
    Calls Try.prog 13 #[.agg #[.int .i64 a, .int .i64 b]] w fun e w' => e = .returned (.tuple #[.int .i64 ((wholeL a b).length : Nat), .bool (fewB a b)]) ∧ Below w.heap.size w w' := by
  have X0 := Lib.hid (show Below w.heap.size w (w.alloc (.cells #[.int .i64 a, .int .i64 b] 27)) from (Below.refl _ _).alloc (Nat.le_refl _) _)
  go_enter Try.func13, Try.ntmps13
  go_wp2_with (go_at_call 19; refine (wholeOrders_any _ _ _).mono ?_; rintro e w1 ⟨A, c, vs, rfl, hO, hV, hb⟩)
  go_ret2
  exact ⟨rfl, bel_call X0.out hb⟩

theorem firstWhole_any (a b : Int) (w : World) :
    Calls Try.prog 8 #[.agg #[.int .i64 a, .int .i64 b]] w (StrsOut w (fwZ a b) (fewB a b)) := by
  unfold fwZ
  have X0 := Lib.hid (show Below w.heap.size w (w.alloc (.cells #[.int .i64 a, .int .i64 b] 27)) from (Below.refl _ _).alloc (Nat.le_refl _) _)
  by_cases hf : fewB a b = true
  · have HFE := Lib.hid hf
    have hpos := whole_some hf
    obtain ⟨N, hN⟩ : ∃ N, (wholeL a b).length = N := ⟨_, rfl⟩
    have hN0 : 0 < N := by rw [← hN]; exact hpos
    have hne : ((N : Int) == 0) = false := by rw [beq_eq_false_iff_ne]; omega
    have HN := Lib.hid hN
    have HH : Hid ((wholeL a b).getD 0 [] = hdW (wholeL a b)) := Lib.hid (by unfold hdW; cases wholeL a b <;> rfl)
    have HLC : Hid ((hdW (wholeL a b)).length = (countZ a b).toNat) := Lib.hid (by
      have hm : hdW (wholeL a b) ∈ wholeL a b := by
        unfold hdW
        cases h : wholeL a b with
        | nil => rw [h] at hpos; simp at hpos
        | cons x l => simp
      obtain ⟨hg, hc⟩ := fewB_yes hf
      have hc1 := count_pos hg
      clear hN
      generalize hdW (wholeL a b) = H at hm ⊢
      unfold wholeL at hm
      rw [hf, if_pos rfl] at hm
      have h5 := (whL_mem hm).1
      rw [List.length_singleton] at h5
      omega)
    clear hf hpos hN
    go_enter Try.func8, Try.ntmps8
    go_wp2_with (go_at_call 19; refine (wholeOrders_any _ _ _).mono ?_; rintro e w1 ⟨A, c, vs, rfl, hO, hV, hb⟩
                 rw [HN.out] at hO ⊢
                 rw [HFE.out]
                 obtain ⟨g, cap, hv, _⟩ := rowForm hO (by intro e; cases e; omega)
                 injection hv with hv1 hv2 hv3
                 subst hv1
                 obtain ⟨A1, c1, hv0, hO1, _⟩ := hV.row 0 (by rw [HN.out]; exact hN0)
                 have o1 : w1.cell? ⟨g, 0, none⟩ = some (.slice A1 (countZ a b).toNat c1) := (hO.cellAt 0 (by omega)).trans hv0
                 have O1 := Lib.hid hO1
                 have HB := Lib.hid hb
                 clear hO hV hO1 hb)
    go_ret2
    refine ⟨A1, c1, by rw [HLC.out, HFE.out]; rfl, ?_, bel_call X0.out HB.out⟩
    rw [HLC.out, ← HH.out]
    exact O1.out.base (by simp)
  · have HFE := Lib.hid (Bool.eq_false_iff.2 hf)
    have HM := Lib.hid (wholeL_no HFE.out)
    clear hf
    go_enter Try.func8, Try.ntmps8
    go_wp2_with (go_at_call 19; refine (wholeOrders_any _ _ _).mono ?_; rintro e w1 ⟨A, c, vs, rfl, hO, hV, hb⟩; rw [HM.out]; rw [HFE.out]; clear hO hV)
    go_ret2
    rw [HFE.out, HM.out]
    exact strs_none (bel_call X0.out hb)

theorem StrsOut.ls {w w' : World} {ts : List ByteArray} {ok : Bool} {e : Ending} (h : StrsOut w ts ok e w') :
    ∃ A c, e = .returned (.tuple #[.slice A ts.length c, .bool ok]) ∧ LS w' w.heap.size w'.heap.size A ts ∧ Below w.heap.size w w' := by
  obtain ⟨A, c, rfl, hO, hb⟩ := h
  exact ⟨A, c, rfl, LS.of_own hO, hb⟩

end Go.Proofs.Ytjghodfdejdjoaa
