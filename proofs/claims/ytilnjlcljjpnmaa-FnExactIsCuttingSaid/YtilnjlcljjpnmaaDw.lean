/- Dead codes with one more, as the model lists them. For lists that can be. -/
import Derived.Test.YtilnjlcljjpnmaaPs
import Derived.Deep.RegionLaw
import Derived.Deep.AppendSrc
namespace Go.Proofs.Ytilnjlcljjpnmaa
open Go.ChangeShapes Go.WideShapes Go.ChangeAt Go.RowKit Go.Joins

theorem sv_news {w : World} {b off n : Nat} {ts : List ByteArray} (hl : ts.length = n) (h : ∀ k, k < n → w.cell? ⟨b, off + k, none⟩ = some (.string (ts.getD k ByteArray.empty))) : ∀ j u, (sv ts)[j]? = some u → w.cell? ((⟨b, off, none⟩ : Addr).add j) = some u := by
  intro j u hu
  have hj : j < n := by
    have := (List.getElem?_eq_some_iff.1 hu).1
    simp [sv] at this; omega
  have ha : (⟨b, off, none⟩ : Addr).add j = ⟨b, off + j, none⟩ := by unfold Addr.add; split <;> simp_all
  rw [ha, h j hj, ← hu]
  simp [sv, List.getD, List.getElem?_eq_getElem (show j < ts.length by omega)]

theorem svOne (ts : List ByteArray) : ∀ u ∈ sv ts, u.oneCell' = true := by
  intro u hu
  obtain ⟨t, _, rfl⟩ := List.mem_map.1 hu
  rfl

theorem rowForm {w : World} {base : Nat} {e : TypeId} {v : Value} {n : Nat} {xs : List Value} (h : w.ownsRow base e 1 v n xs) (hv : v ≠ .slice none 0 0) : ∃ g c, v = .slice (some ⟨g, 0, none⟩) n c ∧ n ≤ c := by
  rcases h.2 with ⟨h0, _⟩ | ⟨g, cap, cur, rfl, _, _, hc, _⟩
  · exact absurd h0 hv
  · exact ⟨g, cap, rfl, hc⟩

theorem l1OwnS_any (A : Option Addr) (n c : Nat) (ts : List ByteArray) (w : World) (hn : n ≤ 1048576) (hA : ArgS w A n ts) :
    Calls Try.prog 120 #[.slice A n c] w fun e w' => ∃ g c', e = .returned (.slice (some ⟨g, 0, none⟩) n c') ∧ n ≤ c' ∧ w'.ownsRow w.heap.size 9 1 (.slice (some ⟨g, 0, none⟩) n c') n (sv ts) ∧ Below w.heap.size w w' := by
  obtain ⟨i0, hi, hy0, hy1, hy2⟩ := info_parts info_string
  have HL := Lib.hid hA.len
  have HO := Lib.hid (World.ownsRow_made (base := w.heap.size) (e := 9) (size := 1) w #[] 0 (Nat.le_refl _) (by unfold maxLen; omega) rfl)
  have HB0 := Lib.hid ((Below.refl w.heap.size w).alloc (Nat.le_refl _) (.cells #[] 9))
  rcases A with _ | ad
  · have h0 : n = 0 := by
      rcases hA.at_ with h | ⟨_, _, e, _⟩
      · exact h
      · cases e
    subst h0
    obtain rfl : ts = [] := List.eq_nil_of_length_eq_zero HL.out
    clear hA
    go_enter Try.func120, Try.ntmps120
    go_wp2_with fail
    go_ret
    exact ⟨w.heap.size, 0, rfl, Nat.le_refl _, HO.out, HB0.out⟩
  · have HN : Hid (∀ j u, (sv ts)[j]? = some u → (w.alloc (.cells #[] 9)).cell? (ad.add j) = some u) := Lib.hid (by
      rcases hA.at_ with h0 | ⟨b, off, e, hb, hc⟩
      · intro j u hu
        have : ts = [] := List.eq_nil_of_length_eq_zero (by rw [hA.len, h0])
        subst this
        simp [sv] at hu
      · cases e
        exact sv_news hA.len (fun k hk => by rw [World.cell?_alloc_lt _ _ _ hb]; exact hc k hk))
    clear hA
    go_enter Try.func120, Try.ntmps120
    go_wp2_with (at_builtin; refine wpList_append_own _ rfl _ _ 24 rfl w.heap.size 9 i0 (.string ByteArray.empty) 1 16 Try.underlying24 hi hy0 hy1 hy2 rfl (by decide) _ _ _ rfl HO.out ad n c (sv ts) rfl (by simp [sv]; have := HL.out; omega) HN.out (svOne _) (by unfold maxLen; omega) (by omega) (by simp) ?_; intro v' w1 hown' hgrow hiff)
    have hv : v' ≠ .slice none 0 0 := fun e => by have := (hiff.1 e).1; cases this
    have HB1 := Lib.hid (HB0.out.grown hgrow HB0.out.size (fun j hj => (HO.out.lt j hj).1))
    obtain ⟨g, c', rfl, hc⟩ := rowForm hown' hv
    go_ret
    refine ⟨g, c', by rw [Nat.zero_add]; rfl, by omega, ?_, HB1.out⟩
    rw [Nat.zero_add] at hown'
    simpa using hown'

/-- append onto a row of the call's own, as one step of a region that draws. -/
theorem stepOwn {P : Program} {ops : Array Oper} {o : Oper} {a : Act} {w : World} {K : Act → World → Prop} {Q : Exit → Act → World → Prop} {E : Prop}
    (hg : o.guard = none) (s x : Operand) (t : TypeId) (hop : o.op = Op.call { callee := Callee.builtin Builtin.append, args := #[s, x], argTypes := #[t, t] })
    (base : Nat) (e : TypeId) (i : TypeInfo) (z : Value) (size bytes : Nat) (h1 : P.underlying t = some (.slice e)) (h2 : P.info? e = some i) (h3 : i.zero = some z) (h4 : i.size = size) (h5 : i.bytes = bytes) (h6 : z.cells.size = size) (h7 : 0 < size)
    (v : Value) (n : Nat) (xs : List Value) (hs : a.eval s = v) (hown : w.ownsRow base e size v n xs)
    (ad : Addr) (m c : Nat) (news : List Value) (hx : a.eval x = .slice (some ad) m c) (hn : news.length = m * size) (hc : ∀ j u, news[j]? = some u → w.cell? (ad.add j) = some u) (h1c : ∀ u ∈ news, u.oneCell' = true)
    (b1 : n + m ≤ maxLen) (b2 : (n + m) * bytes ≤ 140737488355328) (hbase : base ≤ w.heap.size)
    (hK : ∀ v' w', w'.ownsRow base e size v' (n + m) (xs ++ news) → w.grownBy w' v.ownBlock → K (a.put o.dst v') w') :
    if Region.wanted o (yielded ops a.tmps) = true then Oper.wp P o a w K Q else E := by
  have hw : Region.wanted o (yielded ops a.tmps) = true := by simp [Region.wanted, hg]
  rw [if_pos hw]
  obtain ⟨v', w', hrun, r1, r2, _⟩ := run_append_own (P := P) w base t o.type e i z size bytes h1 h2 h3 h4 h5 h6 h7 v n xs hown ad m c news hn hc h1c b1 b2 hbase
  unfold Oper.wp
  simp [execOp, hop, resolve, invoke, builtin, hs, hx, hrun, Result.andThen]
  exact hK v' w' r1 r2

theorem addLit (g o j : Nat) : (⟨g, o, none⟩ : Addr).add j = ⟨g, o + j, none⟩ := by unfold Addr.add; split <;> simp_all

theorem cellsX {w : World} {x : ByteArray} {t : TypeId} {g : Nat} (hg : g = w.heap.size) : Cells (w.alloc (.cells #[.string x] t)) g 1 (fun _ => .string x) := by
  subst hg
  refine ⟨by simp, fun j hj => ?_⟩
  rw [World.cell?_alloc_new, World.frozen?_alloc_new]
  obtain rfl : j = 0 := by omega
  exact ⟨rfl, rfl⟩

theorem newsX {w : World} {x : ByteArray} {g : Nat} (h : Cells w g 1 (fun _ => .string x)) : ∀ j u, ([.string x] : List Value)[j]? = some u → w.cell? ((⟨g, 0, none⟩ : Addr).add j) = some u := by
  intro j u hu
  have hj : j < 1 := (List.getElem?_eq_some_iff.1 hu).1
  obtain rfl : j = 0 := by omega
  injection hu with hu
  subst hu
  have ha : (⟨g, 0, none⟩ : Addr).add 0 = ⟨g, 0, none⟩ := by unfold Addr.add; split <;> simp_all
  rw [ha, h.cell (by omega)]

theorem newsDrop {w : World} {g N j c : Nat} {R : List ByteArray} {A : Addr} (hN : R.length = N) (hj : j ≤ N) (hc : N ≤ c) (hA : (if c = j then some ⟨g, 0, none⟩ else some ⟨g, j, none⟩ : Option Addr) = some A) (h : Cells w g N (strF R)) : ∀ i u, (sv (R.drop j))[i]? = some u → w.cell? (A.add i) = some u := by
  intro i u hu
  unfold sv at hu
  rw [List.getElem?_map, List.getElem?_drop] at hu
  have hi : j + i < N := by
    rcases Nat.lt_or_ge (j + i) N with h | h
    · exact h
    · rw [List.getElem?_eq_none (by omega)] at hu; cases hu
  rw [if_neg (by omega)] at hA
  injection hA with hA
  subst hA
  rw [List.getElem?_eq_getElem (by omega)] at hu
  injection hu with hu
  subst hu
  rw [addLit, h.cell (by omega)]
  simp [strF, List.getD, List.getElem?_eq_getElem (show j + i < R.length by omega)]

theorem ArgS.take {w : World} {A : Option Addr} {n : Nat} {ts : List ByteArray} (h : ArgS w A n ts) {k : Nat} (hk : k ≤ n) : ArgS w A k (ts.take k) := by
  have hg : ∀ j, j < k → (ts.take k).getD j ByteArray.empty = ts.getD j ByteArray.empty := fun j hj => by
    simp [List.getD, hj]
  refine ⟨by rw [List.length_take, h.len]; omega, ?_, fun j hj => by rw [hg j hj]; exact h.sz j (by omega)⟩
  rcases h.at_ with h0 | ⟨b, off, e, hb, hc⟩
  · exact .inl (by omega)
  · exact .inr ⟨b, off, e, hb, fun j hj => by rw [hc j (by omega), hg j hj]⟩

theorem ArgS.cellAt {w : World} {g n : Nat} {ts : List ByteArray} (h : ArgS w (some ⟨g, 0, none⟩) n ts) {k : Nat} (hk : k < n) : g < w.heap.size ∧ w.cell? ⟨g, k, none⟩ = some (.string (ts.getD k ByteArray.empty)) := by
  rcases h.at_ with h0 | ⟨b, off, e, hb, hc⟩
  · omega
  · injection e with e; injection e with e1 e2; subst e1; subst e2
    have := hc k hk
    rw [Nat.zero_add] at this
    exact ⟨hb, this⟩

theorem newsT {w W : World} {g n c k : Nat} {ts : List ByteArray} {A : Addr} (hk : k ≤ n) (hc : n ≤ c) (hA' : (if c = k then some ⟨g, 0, none⟩ else some ⟨g, k, none⟩ : Option Addr) = some A) (hA : ArgS w (some ⟨g, 0, none⟩) n ts) (hb : Below w.heap.size w W) : ∀ i u, (sv (ts.drop k))[i]? = some u → W.cell? (A.add i) = some u := by
  intro i u hu
  have hN := hA.len
  unfold sv at hu
  rw [List.getElem?_map, List.getElem?_drop] at hu
  have hi : k + i < n := by
    rcases Nat.lt_or_ge (k + i) n with h | h
    · exact h
    · rw [List.getElem?_eq_none (by omega)] at hu; cases hu
  rw [if_neg (by omega)] at hA'
  injection hA' with hA'
  subst hA'
  rw [List.getElem?_eq_getElem (by omega)] at hu
  injection hu with hu
  subst hu
  obtain ⟨h1, h2⟩ := hA.cellAt hi
  rw [addLit, hb.cell (p := ⟨g, k + i, none⟩) h1, h2]
  simp [List.getD, List.getElem?_eq_getElem (show k + i < ts.length by omega)]

theorem withOut {W : World} {base n m k : Nat} {v : Value} {ts : List ByteArray} {x : ByteArray} (hl : ts.length = n) (hm : k + m = n) (hn : n ≤ 1000) (hx : x.size ≤ maxLen) (hz : ∀ j, j < n → (ts.getD j ByteArray.empty).size ≤ maxLen)
    (hr : W.ownsRow base 9 1 v (k + 1 + m) (sv (ts.take k) ++ [.string x] ++ sv (ts.drop k))) : ∃ us g' c', v = .slice (some ⟨g', 0, none⟩) (n + 1) c' ∧ (∀ t, t ∈ us ↔ t ∈ ts ∨ t = x) ∧ ArgS W (some ⟨g', 0, none⟩) (n + 1) us := by
  have hsv : sv (ts.take k) ++ [.string x] ++ sv (ts.drop k) = sv (ts.take k ++ [x] ++ ts.drop k) := by simp [sv]
  rw [hsv, show k + 1 + m = n + 1 by omega] at hr
  have hmem : ∀ t, t ∈ ts.take k ++ [x] ++ ts.drop k ↔ t ∈ ts ∨ t = x := fun t => by
    have : t ∈ ts ↔ t ∈ ts.take k ∨ t ∈ ts.drop k := by rw [← List.mem_append, List.take_append_drop]
    rw [List.mem_append, List.mem_append, List.mem_singleton, this]
    constructor
    · rintro ((h | h) | h)
      · exact .inl (.inl h)
      · exact .inr h
      · exact .inl (.inr h)
    · rintro ((h | h) | h)
      · exact .inl (.inl h)
      · exact .inr h
      · exact .inl (.inr h)
  have hlu : (ts.take k ++ [x] ++ ts.drop k).length = n + 1 := by simp; omega
  obtain ⟨A, c', rfl, h1, h2, h3⟩ := own_strs hr (by omega)
  rcases h3 with h3 | ⟨g', rfl, _, hC⟩
  · omega
  · refine ⟨_, g', c', rfl, hmem, hlu, .inr ⟨g', 0, rfl, hC.lt, fun j hj => by rw [Nat.zero_add]; exact hC.cell hj⟩, fun j hj => ?_⟩
    have hin : (ts.take k ++ [x] ++ ts.drop k).getD j ByteArray.empty ∈ ts.take k ++ [x] ++ ts.drop k := by
      rw [getD_eq (by omega)]
      exact List.getElem_mem _
    rcases (hmem _).1 hin with h | h
    · obtain ⟨q, hq, e⟩ := List.getElem_of_mem h
      rw [← e]
      have := hz q (by omega)
      rwa [getD_eq hq] at this
    · rw [h]; exact hx

set_option maxRecDepth 100000 in
set_option maxHeartbeats 4000000 in
theorem deWith_any (g n c : Nat) (ts : List ByteArray) (x : ByteArray) (w : World) (hn : n ≤ 1000) (hcap : n ≤ c) (hc9 : c ≤ 1048576) (hx : x.size ≤ maxLen) (hA : ArgS w (some ⟨g, 0, none⟩) n ts) :
    Calls Try.prog 87 #[.slice (some ⟨g, 0, none⟩) n c, .string x] w fun e w' => ∃ us g' c', e = .returned (.slice (some ⟨g', 0, none⟩) (n + 1) c') ∧ (∀ t, t ∈ us ↔ t ∈ ts ∨ t = x) ∧ ArgS w' (some ⟨g', 0, none⟩) (n + 1) us ∧ Below w.heap.size w w' := by
  obtain ⟨i0, hi, hy0, hy1, hy2⟩ := info_parts info_string
  have HL := Lib.hid hA.len
  have HA := Lib.hid hA
  have HC := Lib.hid (show ∀ k, k < n → w.cell? ⟨g, k, none⟩ = some (.string (ts.getD k ByteArray.empty)) from fun k hk => (hA.cellAt hk).2)
  clear hA
  go_enter Try.func87, Try.ntmps87
  go_wp2_with fail
  go_loop [5] (fun i => ∃ k : Nat, k ≤ n ∧ i = .int .i64 k) (fun i => n - (intOf i).toNat)
  case atStart => exact ⟨0, by omega, rfl⟩
  case round =>
    obtain ⟨k, hk, rfl⟩ := hrel
    have hcs : (k < n ∧ Op.bytesLess (ts.getD k ByteArray.empty).toList x.toList = true) ∨ (k < n ∧ Op.bytesLess (ts.getD k ByteArray.empty).toList x.toList = false) ∨ k = n := by
      rcases Nat.lt_or_ge k n with h | h
      · cases e : Op.bytesLess (ts.getD k ByteArray.empty).toList x.toList
        · exact .inr (.inl ⟨h, rfl⟩)
        · exact .inl ⟨h, rfl⟩
      · exact .inr (.inr (by omega))
    have o1 := HC.out k
    generalize ts.getD k ByteArray.empty = y at hcs o1
    rcases hcs with ⟨hlt, hless⟩ | ⟨hlt, hless⟩ | hkn
    · have o2 := o1 hlt
      clear o1
      go_wp2_with fail
      go_round
      case rel => exact ⟨k + 1, by omega, by go_num⟩
      case measure => simp [intOf]; omega
    all_goals
      have hkn2 : k ≤ n := by omega
      have hkc : k ≤ c := by omega
      have HAK := Lib.hid (HA.out.take hkn2)
      have B0 := Lib.hid (show Below w.heap.size w w.drew from bel_drew (Below.refl _ _))
      have B1 := Lib.hid (show Below w.heap.size w (w.drew.alloc (.cells #[.string x] 9)) from (bel_drew (Below.refl _ _)).alloc (Nat.le_refl _) _)
      have X1 := Lib.hid (cellsX (w := w.drew) (x := x) (t := 9) (g := w.heap.size) rfl)
      have SD : Hid ((sv (ts.drop k)).length = (n - k) * 1) := Lib.hid (by have := HL.out; simp [sv]; omega)
      have HND := Lib.hid (fun (W : World) (A : Addr) (hA : (if c = k then some ⟨g, 0, none⟩ else some ⟨g, k, none⟩ : Option Addr) = some A) (hb : Below w.heap.size w W) => newsT hkn2 hcap hA HA.out hb)
      have HOUT := Lib.hid (fun (W : World) (base : Nat) (v : Value) hr => withOut (W := W) (base := base) (v := v) (m := n - k) HL.out (show k + (n - k) = n by omega) hn hx HA.out.sz hr)
      obtain ⟨A', hA'⟩ : ∃ A, (if c = k then some ⟨g, 0, none⟩ else some ⟨g, k, none⟩ : Option Addr) = some A := by split <;> exact ⟨_, rfl⟩
      have HAA := Lib.hid hA'
      have hk9 : k ≤ 1000 := by omega
      try have o2 := o1 hlt
      clear o1
      try (obtain rfl := hkn)
      try simp only [Nat.sub_self] at SD HOUT
      go_wp2_with fail
      go_region_law (first
        | (go_simp; go_at_call 120; refine (l1OwnS_any _ _ _ (ts.take _) _ (by omega) (HAK.out.below B1.out)).mono ?_; rintro e w5 ⟨g5, c5, rfl, hc5, hrow5, hb5⟩
           have XX := Lib.hid (X1.out.call hb5)
           have HB5 := Lib.hid (bel_call B1.out hb5)
           obtain ⟨bs, hl5, hu5, ho5⟩ : ∃ bs, w.heap.size ≤ bs ∧ bs ≤ w5.heap.size ∧ w5.ownsRow bs 9 1 (.slice (some ⟨g5, 0, none⟩) k c5) k (sv (ts.take k)) := ⟨_, B1.out.size, hb5.size, hrow5⟩
           have HO5 := Lib.hid ho5
           clear hrow5 hb5 ho5)
        | (go_simp; go_at_call 120; refine (l1OwnS_any _ _ _ (ts.take _) _ (by omega) (HAK.out.below B0.out)).mono ?_; rintro e w5 ⟨g5, c5, rfl, hc5, hrow5, hb5⟩
           have XX := Lib.hid (cellsX (w := w5) (x := x) (t := 9) (g := w5.heap.size) rfl)
           have HB5 := Lib.hid ((bel_call B0.out hb5).alloc (bel_call B0.out hb5).size (.cells #[.string x] 9))
           obtain ⟨bs, hl5, hu5, ho5⟩ : ∃ bs, w.heap.size ≤ bs ∧ bs ≤ (w5.alloc (.cells #[.string x] 9)).heap.size ∧ (w5.alloc (.cells #[.string x] 9)).ownsRow bs 9 1 (.slice (some ⟨g5, 0, none⟩) k c5) k (sv (ts.take k)) := ⟨_, B0.out.size, by have := hb5.size; rw [World.size_alloc]; omega, hrow5.alloc _⟩
           have HO5 := Lib.hid ho5
           clear hrow5 hb5 ho5)
        | (refine stepOwn rfl (.tmp 23) (.tmp 25) 24 rfl _ 9 i0 (.string ByteArray.empty) 1 16 Try.underlying24 hi hy0 hy1 hy2 rfl (by decide) (.slice (some ⟨g5, 0, none⟩) _ c5) _ (sv (ts.take _)) rfl HO5.out ⟨_, 0, none⟩ 1 1 [.string x] rfl rfl (newsX XX.out) (by simp [Value.oneCell']) (by unfold maxLen; omega) (by omega) hu5 ?_; intro v7 w7 hown7 hgrow7
           have HO7 := Lib.hid hown7
           have HB7 := Lib.hid (HB5.out.grown hgrow7 HB5.out.size (fun k hk => Nat.le_trans hl5 (HO5.out.lt k hk).1))
           have hu7 := Nat.le_trans hu5 hgrow7.size
           clear hown7 hgrow7)
        | (refine stepOwn rfl (.tmp 26) (.tmp 29) 24 rfl _ 9 i0 (.string ByteArray.empty) 1 16 Try.underlying24 hi hy0 hy1 hy2 rfl (by decide) v7 _ (sv (ts.take _) ++ [.string x]) rfl HO7.out A' _ (c - _) (sv (ts.drop _)) rfl SD.out (HND.out _ _ HAA.out HB7.out) (svOne _) (by unfold maxLen; omega) (by omega) hu7 ?_; intro v8 w8 hown8 hgrow8
           have HO8 := Lib.hid hown8
           have HB8 := Lib.hid (HB7.out.grown hgrow8 HB7.out.size (fun k hk => Nat.le_trans hl5 (HO7.out.lt k hk).1))
           clear hown8 hgrow8))
      all_goals
        obtain ⟨us, g', c', rfl, hmem, harg⟩ := HOUT.out _ _ _ HO8.out
        go_wp2_with fail
        go_ret
        exact ⟨us, g', c', rfl, hmem, harg, HB8.out⟩

end Go.Proofs.Ytilnjlcljjpnmaa
