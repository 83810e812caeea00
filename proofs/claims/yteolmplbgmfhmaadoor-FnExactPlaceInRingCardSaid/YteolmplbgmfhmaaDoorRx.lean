/- The least words whose lengths divide the number of wheels, as the model lists them. For locks of few codes. -/
import Derived.Test.YteolmplbgmfhmaaDoorRu
namespace Go.Proofs.YteolmplbgmfhmaaDoor
open Go.ChangeShapes Go.WideShapes Go.ChangeAt Go.RowKit Go.Joins

/-- The least number of which something holds. -/
noncomputable def lstN (p : Nat → Prop) : Nat := Classical.epsilon fun m => p m ∧ ∀ k, k < m → ¬ p k

theorem lstN_spec {p : Nat → Prop} (h : ∃ m, p m) : p (lstN p) := (Classical.epsilon_spec (ex_least p h)).1

theorem lstN_le {p : Nat → Prop} {m : Nat} (h : p m) : lstN p ≤ m := Nat.le_of_not_lt fun hlt => (Classical.epsilon_spec (ex_least p ⟨m, h⟩)).2 m hlt h

theorem row_pre {w : World} {base : Nat} {e : TypeId} {A : Option Addr} {k c : Nat} {xs : List Value} (h : w.ownsRow base e 1 (.slice A (k + 1) c) (k + 1) xs) : w.ownsRow base e 1 (.slice A k c) k (xs.take k) := by
  obtain ⟨hl, h⟩ := h
  refine ⟨by rw [List.length_take]; omega, ?_⟩
  rcases h with ⟨h, _⟩ | ⟨g, cap, cur, hv, hb, hh, hle, hm, hs, ht⟩
  · injection h with _ h2 _
    omega
  · injection hv with h1 _ h3
    subst h1 h3
    exact .inr ⟨g, c, cur, rfl, hb, hh, by omega, hm, hs, by rw [← ht, List.take_take]; congr 1; omega⟩

theorem row_set {w : World} {base : Nat} {e : TypeId} {g n c i : Nat} {xs : List Value} (h : w.ownsRow base e 1 (.slice (some ⟨g, 0, none⟩) n c) n xs) (u : Value) : (w.setCell ⟨g, i, none⟩ u).ownsRow base e 1 (.slice (some ⟨g, 0, none⟩) n c) n (xs.set i u) := by
  obtain ⟨hl, h⟩ := h
  refine ⟨by rw [List.length_set]; exact hl, ?_⟩
  rcases h with ⟨h, _⟩ | ⟨g', cap, cur, hv, hb, hh, hle, hm, hs, ht⟩
  · cases h
  · injection hv with h1 _ h3
    injection h1 with h1
    injection h1 with h1 _ _
    subst h1 h3
    refine .inr ⟨g, c, cur.setIfInBounds i u, rfl, hb, heap_setCell_same w g i cur e u hh, hle, hm, by rw [Array.size_setIfInBounds]; exact hs, ?_⟩
    rw [← ht, Array.toList_setIfInBounds, List.take_set]

/-- Rows of different kinds lie apart. -/
theorem rows_apart {w : World} {base base' size size' n n' : Nat} {e e' : TypeId} {v v' : Value} {xs xs' : List Value} (h : w.ownsRow base e size v n xs) (h' : w.ownsRow base' e' size' v' n' xs') (hne : e ≠ e') : v.ownBlock = none ∨ v.ownBlock ≠ v'.ownBlock := by
  rcases h.2 with ⟨rfl, _⟩ | ⟨g, cap, cur, rfl, _, hh, _⟩
  · exact .inl rfl
  · refine .inr fun e1 => ?_
    rcases h'.2 with ⟨rfl, _⟩ | ⟨g', cap', cur', rfl, _, hh', _⟩
    · cases e1
    · injection e1 with e1
      have e1 : g = g' := e1
      subst e1
      rw [hh] at hh'
      injection hh' with hh'
      injection hh' with _ h2 _
      exact hne h2

theorem inc_set {t : List Int} (h : t ≠ []) : (iv t).set (t.length - 1) (.int .i64 (t.getD (t.length - 1) 0 + 1)) = iv (incW t) := by
  have h0 : 0 < t.length := List.length_pos_iff.2 h
  unfold iv
  rw [← List.map_set]
  congr 1
  apply List.ext_getElem
  · rw [List.length_set, incW_length h]
  · intro j h1 h2
    rw [List.length_set] at h1
    have := incW_at h h1
    rw [List.getD, List.getElem?_eq_getElem h2, Option.getD_some] at this
    rw [this, List.getElem_set]
    by_cases e : j = t.length - 1
    · rw [if_pos e, if_pos e.symm]
    · rw [if_neg e, if_neg (fun e1 => e e1.symm)]
      simp [List.getD, List.getElem?_eq_getElem h1]

theorem rep_self {x : List Int} : repW x.length x = x := by
  apply List.ext_getElem
  · rw [repW_length]
  · intro j h1 h2
    have := repW_at (w := x) h2
    rw [List.getD, List.getElem?_eq_getElem h1, Option.getD_some, Nat.mod_eq_of_lt h2] at this
    rw [this, List.getD, List.getElem?_eq_getElem h2, Option.getD_some]

theorem rep_snoc (k : Nat) (x : List Int) : repW (k + 1) x = repW k x ++ [x.getD (k % x.length) 0] := by
  unfold repW
  rw [List.range_succ, List.map_append]
  rfl

theorem trim_nil (m : Int) : trimW m [] = [] := rfl

theorem trim_drop {m : Int} (l : List Int) : trimW m (l ++ [m]) = trimW m l := by
  unfold trimW
  rw [List.reverse_append]
  simp

theorem trim_keep {m y : Int} {l : List Int} (h : y ≠ m) : trimW m (l ++ [y]) = l ++ [y] := by
  unfold trimW
  rw [List.reverse_append]
  simp [h]

theorem iv_length (l : List Int) : (iv l).length = l.length := by unfold iv; rw [List.length_map]

theorem iv_snoc (l : List Int) (x : Int) : iv (l ++ [x]) = iv l ++ [.int .i64 x] := by unfold iv; rw [List.map_append]; rfl

theorem iv_take (l : List Int) (k : Nat) : (iv l).take k = iv (l.take k) := by unfold iv; rw [List.map_take]

/-- What is known at the head of the loop: the word without its greatest last digits, the words that are listed; m: how many can be left. -/
structure RwSt (w wr : World) (n : Nat) (b : Int) (m : Nat) (vO vW : Value) (t : List Int) (dn : List (List Int)) : Prop where
  st : (t = [] ∧ dn = keepW b n) ∨ (t ≠ [] ∧ chkW b n m (incW t) = true ∧ dn ++ (wordsW b n m (incW t)).filter (fun w => n % w.length == 0) = keepW b n)
  rowO : wr.ownsRow w.heap.size 9 1 vO dn.length (sv (dn.map textOf))
  rowW : wr.ownsRow w.heap.size 3 1 vW t.length (iv t)
  len : t.length ≤ n
  below : Below w.heap.size w wr

theorem rw_behind {n f : Nat} {b : Int} {x : List Int} {dn : List (List Int)} (h : chkW b n (f + 1) x = true) (hk : dn ++ (wordsW b n (f + 1) x).filter (fun w => n % w.length == 0) = keepW b n) :
    ∃ m, m ≤ f ∧ ∀ dn', dn' = (if n % x.length = 0 then dn ++ [x] else dn) → ((nxW b n x = [] ∧ dn' = keepW b n) ∨ (nxW b n x ≠ [] ∧ chkW b n m (incW (nxW b n x)) = true ∧ dn' ++ (wordsW b n m (incW (nxW b n x))).filter (fun w => n % w.length == 0) = keepW b n)) := by
  have key : ∀ (tl : List (List Int)) (dn' : List (List Int)), dn ++ (x :: tl).filter (fun w => n % w.length == 0) = keepW b n → dn' = (if n % x.length = 0 then dn ++ [x] else dn) → dn' ++ tl.filter (fun w => n % w.length == 0) = keepW b n := fun tl dn' hk e => by
    rw [← hk, e, List.filter_cons]
    by_cases hd : n % x.length = 0
    · rw [if_pos hd, if_pos (by simp [hd]), List.append_assoc]; rfl
    · rw [if_neg hd, if_neg (by simpa using hd)]
  rcases (chk_step h).2 with e | ⟨e, hc⟩
  · rw [words_end e] at hk
    refine ⟨0, Nat.zero_le _, fun dn' hd => .inl ⟨e, ?_⟩⟩
    have := key [] dn' hk hd
    simpa using this
  · rw [words_on e] at hk
    exact ⟨f, Nat.le_refl _, fun dn' hd => .inr ⟨e, hc, key _ dn' hk hd⟩⟩

theorem grown_cell (w : World) (g i : Nat) (v : Value) : w.grownBy (w.setCell ⟨g, i, none⟩ v) (some g) := by
  have hb := (Below.refl 0 w).setCell (p := ⟨g, i, none⟩) (Nat.zero_le _) v
  exact ⟨hb.os, hb.tape, hb.output, hb.size, fun k _ hne => Below.heap_setCell _ _ _ _ fun e => hne (by rw [e])⟩

theorem own_parts {w : World} {base n : Nat} {e : TypeId} {v : Value} {l : List Int} (h : w.ownsRow base e 1 v n (iv l)) (hn : 0 < n) (hl : l.length = n) :
    ∃ g c, v = .slice (some ⟨g, 0, none⟩) n c ∧ base ≤ g ∧ g < w.heap.size ∧ n ≤ c ∧ ∀ j, j < n → w.cell? ⟨g, j, none⟩ = some (.int .i64 (l.getD j 0)) ∧ w.frozen? ⟨g, j, none⟩ = false := by
  obtain ⟨g, c, rfl, hb, hlt⟩ := h.form hn
  refine ⟨g, c, rfl, hb, hlt, own_capR h _ _ _ rfl, fun j hj => ⟨?_, h.frozenAt j⟩⟩
  rw [h.cellAt j (by omega)]
  unfold iv
  rw [List.getElem?_map, List.getElem?_eq_getElem (by omega)]
  simp [List.getD, List.getElem?_eq_getElem (show j < l.length by omega)]

theorem row_cells {w : World} {base g n c : Nat} {e : TypeId} {l : List Int} (h : w.ownsRow base e 1 (.slice (some ⟨g, 0, none⟩) n c) n (iv l)) (hl : l.length = n) (hn : 0 < n) : Cells w g n (digF l) := by
  obtain ⟨g', c', e1, _, hlt, _, hc⟩ := own_parts h hn hl
  injection e1 with e1 _ _
  injection e1 with e1
  injection e1 with e1 _ _
  subst e1
  exact ⟨hlt, fun j hj => hc j hj⟩

set_option maxRecDepth 100000 in
set_option maxHeartbeats 8000000 in
theorem riWords_any (n : Nat) (b : Int) (w : World) (h : riB n b = true) :
    Calls Tryd.prog 39 #[.int .i64 b, .int .i64 n] w fun e w' => ∃ A c, e = .returned (.slice A (lwL n b).length c) ∧ OwnS w' w.heap.size A (lwL n b).length (lwL n b) ∧ Below w.heap.size w w' := by
  obtain ⟨i0, hi, hz0, hz1, hz2⟩ := info_parts info_string
  obtain ⟨j0, hj, hy0, hy1, hy2⟩ := info_parts info_int
  obtain ⟨h1, h6, h2, h10⟩ := good_yes (riB_good h)
  have HH := Lib.hid h
  have HL := Lib.hid (lwL_yes h)
  have HKL := Lib.hid (keep_length h)
  have S0 : Hid (RwSt w (w.alloc (.cells #[.int .i64 (-1)] 3)) n b 400 (.slice none 0 0) (.slice (some ⟨w.heap.size, 0, none⟩) 1 1) [-1] []) := Lib.hid {
    st := .inr ⟨by decide, chkW_of h, rfl⟩
    rowO := World.ownsRow_nil _ _ _ _
    rowW := ⟨rfl, .inr ⟨w.heap.size, 1, #[.int .i64 (-1)], rfl, Nat.le_refl _, by show (w.heap.push _)[w.heap.size]? = _; rw [Array.getElem?_push_size], Nat.le_refl _, by unfold maxLen; decide, rfl, rfl⟩⟩
    len := by show 1 ≤ n; omega
    below := (Below.refl _ _).alloc (Nat.le_refl _) _ }
  clear h
  go_enter Tryd.func39, Tryd.ntmps39
  go_wp2
  go_loopw [5, 6, 7] (fun vO vW _ wr => ∃ m, ∃ (t : List Int) (dn : List (List Int)), RwSt w wr n b m vO vW t dn) (fun vO vW _ wr => lstN fun m => ∃ (t : List Int) (dn : List (List Int)), RwSt w wr n b m vO vW t dn)
  case atStart => exact ⟨400, [-1], [], S0.out⟩
  case round =>
    have hJ := lstN_spec hrel
    generalize hm : (lstN fun m => ∃ (t : List Int) (dn : List (List Int)), RwSt w wr n b m u5 u6 t dn) = m at hJ
    obtain ⟨t, dn, hS⟩ := hJ
    have HS := Lib.hid hS
    have HM := Lib.hid hm
    clear hm hrel S0
    rcases hS.st with ⟨rfl, hdn⟩ | ⟨htn, hc, hk⟩
    · have hlW := row_lenR hS.rowW
      have hO := hS.rowO
      have hdl : (dn.map textOf).length ≤ 1000 := by rw [List.length_map, hdn]; exact HKL.out
      have HDN := Lib.hid hdn
      rw [show dn.length = (dn.map textOf).length from (List.length_map _).symm] at hO
      obtain ⟨A, c, rfl, hOS⟩ := own_strs (ts := dn.map textOf) hO (by omega)
      have HOS := Lib.hid hOS
      rcases hS.rowW.2 with ⟨rfl, _⟩ | ⟨g, cap, cur, rfl, _⟩
      all_goals
        clear hS hO hlW hdl hdn hOS
        go_wp2
        go_ret
        rw [HL.out, ← HDN.out]
        first | exact ⟨A, c, rfl, HOS.out, HS.out.below⟩ | exact ⟨A, ⟨c, rfl⟩, HOS.out, HS.out.below⟩
    · have htp : 0 < t.length := List.length_pos_iff.2 htn
      obtain ⟨T, hT⟩ : ∃ T, t.length = T + 1 := ⟨t.length - 1, by omega⟩
      have hrw0 := hS.rowW
      rw [hT] at hrw0
      obtain ⟨g, c, rfl, hgb, hgl, hgc, hcells⟩ := own_parts hrw0 (by omega) hT
      obtain ⟨f, rfl⟩ := chk_pos hc
      obtain ⟨hok, _⟩ := chk_step hc
      obtain ⟨m2, hm2, hbeh⟩ := rw_behind hc hk
      have HBEH := Lib.hid hbeh
      have htl := hS.len
      have hil := incW_length htn
      have hlast := hcells T (by omega)
      have hxl := hok.low T (by rw [hil]; omega)
      rw [incW_at htn (by omega), hT, Nat.add_sub_cancel, if_pos rfl] at hxl
      obtain ⟨x, hx⟩ : ∃ x, t.getD T 0 = x := ⟨_, rfl⟩
      rw [hx] at hlast hxl
      obtain ⟨o1, o2⟩ := hlast
      have hRW : Hid ((wr.setCell ⟨g, T, none⟩ (.int .i64 (x + 1))).ownsRow w.heap.size 3 1 (.slice (some ⟨g, 0, none⟩) (T + 1) c) (T + 1) (iv (incW t))) := Lib.hid (by
        have h := row_set (i := T) hrw0 (.int .i64 (x + 1))
        have h2 := inc_set htn
        rw [hT, Nat.add_sub_cancel, hx] at h2
        rwa [h2] at h)
      have hHO : Hid ((wr.setCell ⟨g, T, none⟩ (.int .i64 (x + 1))).ownsRow w.heap.size 9 1 u5 dn.length (sv (dn.map textOf))) := Lib.hid (hS.rowO.kept (grown_cell wr g T _) (rows_apart hS.rowO hS.rowW (by decide)))
      have HB0 : Hid (Below w.heap.size w (wr.setCell ⟨g, T, none⟩ (.int .i64 (x + 1)))) := Lib.hid (hS.below.setCell hgb _)
      have HXL : Hid ((incW t).length = T + 1) := Lib.hid (by rw [hil, hT])
      have HXN : Hid (T + 1 ≤ n) := Lib.hid (by omega)
      have hTn := HXN.out
      have HREPS : Hid (repW (T + 1) (incW t) = incW t) := Lib.hid (by have := rep_self (x := incW t); rwa [HXL.out] at this)
      have HDG := Lib.hid (hok.low.digits h10)
      have HCE := Lib.hid (row_cells hRW.out HXL.out (by omega))
      have hdl : dn.length ≤ 1000 := by
        have := congrArg List.length hk
        rw [List.length_append] at this
        have := HKL.out
        omega
      have hx8 : -1 ≤ x ∧ x ≤ 9 := by omega
      obtain ⟨hx8, hx9⟩ := hx8
      have hmf : m2 ≤ f := hm2
      have HHO := Lib.hid hHO.out
      have HHW := Lib.hid hRW.out
      clear hS hrw0 hcells hc hok hbeh hk hil hx hxl htn htl hRW hHO hm2
      generalize incW t = X at HBEH HXL HREPS HDG HCE HHW
      obtain ⟨wc, hwc⟩ : ∃ wc, wr.setCell ⟨g, T, none⟩ (.int .i64 (x + 1)) = wc := ⟨_, rfl⟩
      rw [hwc] at HB0 HCE HHO HHW
      by_cases hd : n % X.length = 0
      · have HST := Lib.hid (HBEH.out (dn ++ [X]) (by rw [if_pos hd]))
        have hdi : (n : Int) % ((T : Int) + 1) = 0 := by have e := HXL.out; rw [e] at hd; exact_mod_cast hd
        clear hd
        go_wp2_with (first | (go_at_call 53; refine (whText_n g c X HXL.out _ HCE.out HDG.out (by omega)).mono ?_; rintro e w5 ⟨rfl, hb5⟩; have HO5 := Lib.hid (own_keeps HHO.out hb5); have HW5 := Lib.hid (own_keeps HHW.out hb5); have HB5 := Lib.hid (bel_call HB0.out hb5); clear hb5) | (at_builtin; refine wpList_append_own _ rfl _ _ 34 rfl w.heap.size 9 i0 (.string ByteArray.empty) 1 16 Tryd.underlying34 hi hz0 hz1 hz2 rfl (by decide) _ _ _ rfl (HO5.out.alloc _) ⟨w5.heap.size, 0, none⟩ 1 1 [.string (textOf X)] rfl rfl (news_of rfl) (by simp [Value.oneCell']) (by unfold maxLen; omega) (by omega) (by have := HB5.out.size; simp; omega) ?_))
        intro vn w6 hown6 hgrow6 _
        have hap := rows_apart (HW5.out.alloc (.cells #[.string (textOf X)] 9)) (HO5.out.alloc (.cells #[.string (textOf X)] 9)) (by decide)
        have HW := Lib.hid ((HW5.out.alloc _).kept hgrow6 hap)
        have HB : Hid (Below w.heap.size w w6) := Lib.hid ((HB5.out.alloc HB5.out.size _).grown hgrow6 (by have := HB5.out.size; simp; omega) (fun j hj => (HO5.out.lt j hj).1))
        have HO : Hid (w6.ownsRow w.heap.size 9 1 vn (dn ++ [X]).length (sv ((dn ++ [X]).map textOf))) := Lib.hid (by
          rw [List.length_append, List.map_append]
          show w6.ownsRow _ _ _ _ (dn.length + 1) (sv (dn.map textOf ++ [textOf X]))
          rw [sv_snoc]
          exact hown6)
        clear hown6 hgrow6 hap
        go_wp2
        go_loopw [6] (fun vW wr => ∃ k : Nat, T + 1 ≤ k ∧ k ≤ n ∧ wr.ownsRow w.heap.size 3 1 vW k (iv (repW k X)) ∧ wr.ownsRow w.heap.size 9 1 vn (dn ++ [X]).length (sv ((dn ++ [X]).map textOf)) ∧ Below w.heap.size w wr) (fun vW _ => n - lenR vW)
        case atStart => exact ⟨T + 1, Nat.le_refl _, HXN.out, by rw [HREPS.out]; exact HW.out, HO.out, HB.out⟩
        case round =>
          obtain ⟨k, hk1, hkn, hrw, hro, hB⟩ := hrel
          have HRO := Lib.hid hro
          have HRW2 := Lib.hid hrw
          have hlk := row_lenR hrw
          obtain ⟨g2, c2, rfl, hgb2, hgl2, hgc2, hcells2⟩ := own_parts hrw (by omega) (repW_length k X)
          by_cases hlt : k < n
          · obtain ⟨q, hq⟩ : ∃ q : Nat, k - (T + 1) = q := ⟨_, rfl⟩
            have hidx : (k : Int) - ((T : Int) + 1) = (q : Int) := by omega
            obtain ⟨y, hy⟩ : ∃ y, X.getD (k % X.length) 0 = y := ⟨_, rfl⟩
            have hqy : (repW k X).getD q 0 = y := by
              rw [repW_at (by omega), ← hy, ← hq]
              congr 1
              rw [HXL.out, Nat.mod_eq_sub_mod hk1]
            have hcq := (hcells2 q (by omega)).1
            rw [hqy] at hcq
            have HSN : Hid (iv (repW (k + 1) X) = iv (repW k X) ++ [.int .i64 y]) := Lib.hid (by rw [rep_snoc, iv_snoc, hy])
            have hql : q < k := by omega
            clear hrw hro hcells2 hy hqy hq
            go_wp2_with (at_builtin; refine wpList_append_own _ rfl _ _ 42 rfl w.heap.size 3 j0 (.int .i64 0) 1 8 Tryd.underlying42 hj hy0 hy1 hy2 rfl (by decide) _ _ _ rfl (HRW2.out.alloc _) ⟨wr.heap.size, 0, none⟩ 1 1 [.int .i64 y] rfl rfl (news_of rfl) (by simp [Value.oneCell']) (by unfold maxLen; omega) (by omega) (by have := hB.size; simp; omega) ?_)
            intro vn w7 hown7 hgrow7 _
            have hap := rows_apart (HRO.out.alloc (.cells #[.int .i64 y] 3)) (HRW2.out.alloc (.cells #[.int .i64 y] 3)) (by decide)
            have HO7 := Lib.hid ((HRO.out.alloc _).kept hgrow7 hap)
            have HB7 : Hid (Below w.heap.size w w7) := Lib.hid ((hB.alloc hB.size _).grown hgrow7 (by have := hB.size; simp; omega) (fun j hj => (HRW2.out.lt j hj).1))
            have HR7 : Hid (w7.ownsRow w.heap.size 3 1 vn (k + 1) (iv (repW (k + 1) X))) := Lib.hid (by rw [HSN.out]; exact hown7)
            have hl7 := row_lenR HR7.out
            clear hown7 hgrow7 hap
            go_wp2
            go_roundw
            case rel => exact ⟨k + 1, by omega, by omega, HR7.out, HO7.out, HB7.out⟩
            case measure =>
              show n - lenR vn < n - lenR _
              rw [hl7, hlk]
              omega
          · obtain rfl : k = n := by omega
            have HTK : Hid ((repW k X).take k = repW k X) := Lib.hid (List.take_of_length_le (by rw [repW_length]; exact Nat.le_refl _))
            clear hrw hro hcells2
            go_wp2
            go_loopw [6] (fun vW wr => ∃ p : Nat, p ≤ k ∧ wr.ownsRow w.heap.size 3 1 vW p (iv ((repW k X).take p)) ∧ trimW (b - 1) ((repW k X).take p) = nxW b k X ∧ wr.ownsRow w.heap.size 9 1 vn (dn ++ [X]).length (sv ((dn ++ [X]).map textOf)) ∧ Below w.heap.size w wr) (fun vW _ => lenR vW)
            case atStart => exact ⟨k, Nat.le_refl _, by rw [HTK.out]; exact HRW2.out, by rw [HTK.out]; rfl, HRO.out, hB⟩
            case round =>
              clear hB hgb2 hgl2 hgc2 hlk HRO HRW2 HTK
              obtain ⟨p, hpn, hrw, htr, hro, hB⟩ := hrel
              have HRO := Lib.hid hro
              have HTR := Lib.hid htr
              have HRW2 := Lib.hid hrw
              have hlk := row_lenR hrw
              rcases p with _ | p
              · have HS2 : Hid (RwSt w wr k b m2 vn _ [] (dn ++ [X])) := Lib.hid {
                  st := by
                    rw [List.take_zero, trim_nil] at htr
                    rcases HST.out with ⟨_, h2⟩ | ⟨h1, _⟩
                    · exact .inl ⟨rfl, h2⟩
                    · exact absurd htr.symm h1
                  rowO := hro
                  rowW := hrw
                  len := Nat.zero_le _
                  below := hB }
                rcases hrw.2 with ⟨rfl, _⟩ | ⟨g3, cap3, cur3, rfl, _⟩
                all_goals
                  clear hrw htr hro hlk
                  go_wp2
                  go_roundw
                  case rel => exact ⟨m2, [], (dn ++ [X]), HS2.out⟩
                  case measure =>
                    rw [HM.out]
                    exact Nat.lt_of_le_of_lt (lstN_le ⟨[], (dn ++ [X]), HS2.out⟩) (by omega)
              · have hpl : ((repW k X).take (p + 1)).length = p + 1 := by rw [List.length_take, repW_length]; omega
                obtain ⟨g3, c3, rfl, hgb3, hgl3, hgc3, hcells3⟩ := own_parts hrw (by omega) hpl
                have hcp := (hcells3 p (by omega)).1
                obtain ⟨y, hy⟩ : ∃ y, ((repW k X).take (p + 1)).getD p 0 = y := ⟨_, rfl⟩
                rw [hy] at hcp
                have hsp : (repW k X).take (p + 1) = (repW k X).take p ++ [y] := by
                  have hp : p < (repW k X).length := by rw [repW_length]; omega
                  rw [List.take_succ_eq_append_getElem hp]
                  congr 2
                  rw [← hy, List.getD, List.getElem?_take_of_lt (by omega), List.getElem?_eq_getElem hp]
                  rfl
                by_cases hyb : y = b - 1
                · have HTR2 : Hid (trimW (b - 1) ((repW k X).take p) = nxW b k X) := Lib.hid (by rw [← htr, hsp, hyb, trim_drop])
                  have HR3 : Hid (wr.ownsRow w.heap.size 3 1 (.slice (some ⟨g3, 0, none⟩) p c3) p (iv ((repW k X).take p))) := Lib.hid (by
                    have h3 := row_pre hrw
                    rw [iv_take, List.take_take] at h3
                    rwa [Nat.min_eq_left (by omega)] at h3)
                  clear hrw htr hro hcells3 hy hsp hpl
                  go_wp2
                  go_roundw
                  case rel => exact ⟨p, by omega, HR3.out, HTR2.out, HRO.out, hB⟩
                  case measure => show p < p + 1; omega
                · have HNX : Hid ((repW k X).take (p + 1) = nxW b k X) := Lib.hid (by rw [← htr, hsp, trim_keep hyb])
                  have HS2 : Hid (RwSt w wr k b m2 vn (.slice (some ⟨g3, 0, none⟩) (p + 1) c3) ((repW k X).take (p + 1)) (dn ++ [X])) := Lib.hid {
                    st := by
                      have hne : nxW b k X ≠ [] := fun e => by have := congrArg List.length HNX.out; rw [hpl, e] at this; simp at this
                      rw [HNX.out]
                      rcases HST.out with ⟨h1, _⟩ | h1
                      · exact absurd h1 hne
                      · exact .inr h1
                    rowO := hro
                    rowW := by rw [hpl]; exact hrw
                    len := by rw [hpl]; exact hpn
                    below := hB }
                  clear hrw htr hro hcells3 hy hsp
                  go_wp2
                  go_roundw
                  case rel => exact ⟨m2, _, (dn ++ [X]), HS2.out⟩
                  case measure =>
                    rw [HM.out]
                    exact Nat.lt_of_le_of_lt (lstN_le ⟨_, (dn ++ [X]), HS2.out⟩) (by omega)
      · have HST := Lib.hid (HBEH.out dn (by rw [if_neg hd]))
        have hdi : ¬ (n : Int) % ((T : Int) + 1) = 0 := by have e := HXL.out; rw [e] at hd; exact_mod_cast hd
        have hdb : ((n : Int) % ((T : Int) + 1) == 0) = false := by rw [beq_eq_false_iff_ne]; exact hdi
        have HO := Lib.hid HHO.out
        have HW := Lib.hid HHW.out
        have HB := Lib.hid HB0.out
        clear hd
        go_wp2
        go_loopw [6] (fun vW wr => ∃ k : Nat, T + 1 ≤ k ∧ k ≤ n ∧ wr.ownsRow w.heap.size 3 1 vW k (iv (repW k X)) ∧ wr.ownsRow w.heap.size 9 1 u5 dn.length (sv (dn.map textOf)) ∧ Below w.heap.size w wr) (fun vW _ => n - lenR vW)
        case atStart => exact ⟨T + 1, Nat.le_refl _, HXN.out, by rw [HREPS.out]; exact HW.out, HO.out, HB.out⟩
        case round =>
          obtain ⟨k, hk1, hkn, hrw, hro, hB⟩ := hrel
          have HRO := Lib.hid hro
          have HRW2 := Lib.hid hrw
          have hlk := row_lenR hrw
          obtain ⟨g2, c2, rfl, hgb2, hgl2, hgc2, hcells2⟩ := own_parts hrw (by omega) (repW_length k X)
          by_cases hlt : k < n
          · obtain ⟨q, hq⟩ : ∃ q : Nat, k - (T + 1) = q := ⟨_, rfl⟩
            have hidx : (k : Int) - ((T : Int) + 1) = (q : Int) := by omega
            obtain ⟨y, hy⟩ : ∃ y, X.getD (k % X.length) 0 = y := ⟨_, rfl⟩
            have hqy : (repW k X).getD q 0 = y := by
              rw [repW_at (by omega), ← hy, ← hq]
              congr 1
              rw [HXL.out, Nat.mod_eq_sub_mod hk1]
            have hcq := (hcells2 q (by omega)).1
            rw [hqy] at hcq
            have HSN : Hid (iv (repW (k + 1) X) = iv (repW k X) ++ [.int .i64 y]) := Lib.hid (by rw [rep_snoc, iv_snoc, hy])
            have hql : q < k := by omega
            clear hrw hro hcells2 hy hqy hq
            go_wp2_with (at_builtin; refine wpList_append_own _ rfl _ _ 42 rfl w.heap.size 3 j0 (.int .i64 0) 1 8 Tryd.underlying42 hj hy0 hy1 hy2 rfl (by decide) _ _ _ rfl (HRW2.out.alloc _) ⟨wr.heap.size, 0, none⟩ 1 1 [.int .i64 y] rfl rfl (news_of rfl) (by simp [Value.oneCell']) (by unfold maxLen; omega) (by omega) (by have := hB.size; simp; omega) ?_)
            intro vn w7 hown7 hgrow7 _
            have hap := rows_apart (HRO.out.alloc (.cells #[.int .i64 y] 3)) (HRW2.out.alloc (.cells #[.int .i64 y] 3)) (by decide)
            have HO7 := Lib.hid ((HRO.out.alloc _).kept hgrow7 hap)
            have HB7 : Hid (Below w.heap.size w w7) := Lib.hid ((hB.alloc hB.size _).grown hgrow7 (by have := hB.size; simp; omega) (fun j hj => (HRW2.out.lt j hj).1))
            have HR7 : Hid (w7.ownsRow w.heap.size 3 1 vn (k + 1) (iv (repW (k + 1) X))) := Lib.hid (by rw [HSN.out]; exact hown7)
            have hl7 := row_lenR HR7.out
            clear hown7 hgrow7 hap
            go_wp2
            go_roundw
            case rel => exact ⟨k + 1, by omega, by omega, HR7.out, HO7.out, HB7.out⟩
            case measure =>
              show n - lenR vn < n - lenR _
              rw [hl7, hlk]
              omega
          · obtain rfl : k = n := by omega
            have HTK : Hid ((repW k X).take k = repW k X) := Lib.hid (List.take_of_length_le (by rw [repW_length]; exact Nat.le_refl _))
            clear hrw hro hcells2
            go_wp2
            go_loopw [6] (fun vW wr => ∃ p : Nat, p ≤ k ∧ wr.ownsRow w.heap.size 3 1 vW p (iv ((repW k X).take p)) ∧ trimW (b - 1) ((repW k X).take p) = nxW b k X ∧ wr.ownsRow w.heap.size 9 1 u5 dn.length (sv (dn.map textOf)) ∧ Below w.heap.size w wr) (fun vW _ => lenR vW)
            case atStart => exact ⟨k, Nat.le_refl _, by rw [HTK.out]; exact HRW2.out, by rw [HTK.out]; rfl, HRO.out, hB⟩
            case round =>
              clear hB hgb2 hgl2 hgc2 hlk HRO HRW2 HTK
              obtain ⟨p, hpn, hrw, htr, hro, hB⟩ := hrel
              have HRO := Lib.hid hro
              have HTR := Lib.hid htr
              have HRW2 := Lib.hid hrw
              have hlk := row_lenR hrw
              rcases p with _ | p
              · have HS2 : Hid (RwSt w wr k b m2 u5 _ [] dn) := Lib.hid {
                  st := by
                    rw [List.take_zero, trim_nil] at htr
                    rcases HST.out with ⟨_, h2⟩ | ⟨h1, _⟩
                    · exact .inl ⟨rfl, h2⟩
                    · exact absurd htr.symm h1
                  rowO := hro
                  rowW := hrw
                  len := Nat.zero_le _
                  below := hB }
                rcases hrw.2 with ⟨rfl, _⟩ | ⟨g3, cap3, cur3, rfl, _⟩
                all_goals
                  clear hrw htr hro hlk
                  go_wp2
                  go_roundw
                  case rel => exact ⟨m2, [], dn, HS2.out⟩
                  case measure =>
                    rw [HM.out]
                    exact Nat.lt_of_le_of_lt (lstN_le ⟨[], dn, HS2.out⟩) (by omega)
              · have hpl : ((repW k X).take (p + 1)).length = p + 1 := by rw [List.length_take, repW_length]; omega
                obtain ⟨g3, c3, rfl, hgb3, hgl3, hgc3, hcells3⟩ := own_parts hrw (by omega) hpl
                have hcp := (hcells3 p (by omega)).1
                obtain ⟨y, hy⟩ : ∃ y, ((repW k X).take (p + 1)).getD p 0 = y := ⟨_, rfl⟩
                rw [hy] at hcp
                have hsp : (repW k X).take (p + 1) = (repW k X).take p ++ [y] := by
                  have hp : p < (repW k X).length := by rw [repW_length]; omega
                  rw [List.take_succ_eq_append_getElem hp]
                  congr 2
                  rw [← hy, List.getD, List.getElem?_take_of_lt (by omega), List.getElem?_eq_getElem hp]
                  rfl
                by_cases hyb : y = b - 1
                · have HTR2 : Hid (trimW (b - 1) ((repW k X).take p) = nxW b k X) := Lib.hid (by rw [← htr, hsp, hyb, trim_drop])
                  have HR3 : Hid (wr.ownsRow w.heap.size 3 1 (.slice (some ⟨g3, 0, none⟩) p c3) p (iv ((repW k X).take p))) := Lib.hid (by
                    have h3 := row_pre hrw
                    rw [iv_take, List.take_take] at h3
                    rwa [Nat.min_eq_left (by omega)] at h3)
                  clear hrw htr hro hcells3 hy hsp hpl
                  go_wp2
                  go_roundw
                  case rel => exact ⟨p, by omega, HR3.out, HTR2.out, HRO.out, hB⟩
                  case measure => show p < p + 1; omega
                · have HNX : Hid ((repW k X).take (p + 1) = nxW b k X) := Lib.hid (by rw [← htr, hsp, trim_keep hyb])
                  have HS2 : Hid (RwSt w wr k b m2 u5 (.slice (some ⟨g3, 0, none⟩) (p + 1) c3) ((repW k X).take (p + 1)) dn) := Lib.hid {
                    st := by
                      have hne : nxW b k X ≠ [] := fun e => by have := congrArg List.length HNX.out; rw [hpl, e] at this; simp at this
                      rw [HNX.out]
                      rcases HST.out with ⟨h1, _⟩ | h1
                      · exact absurd h1 hne
                      · exact .inr h1
                    rowO := hro
                    rowW := by rw [hpl]; exact hrw
                    len := by rw [hpl]; exact hpn
                    below := hB }
                  clear hrw htr hro hcells3 hy hsp
                  go_wp2
                  go_roundw
                  case rel => exact ⟨m2, _, dn, HS2.out⟩
                  case measure =>
                    rw [HM.out]
                    exact Nat.lt_of_le_of_lt (lstN_le ⟨_, dn, HS2.out⟩) (by omega)

end Go.Proofs.YteolmplbgmfhmaaDoor
