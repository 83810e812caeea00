/- The least words of which rings are made, as the program goes through them. For locks of few codes. -/
import Derived.Test.YteolmplbgmfhmaaDoorRy
import Derived.WalkMore
import Derived.ScopeJumps
namespace Go.Proofs.YteolmplbgmfhmaaDoor
open Go.ChangeShapes Go.WideShapes Go.ChangeAt Go.RowKit Go.Joins

/-- The words that are left behind one of them; ahead of all: all. -/
def Reach (b : Int) (n : Nat) (cur : List Int) (rest : List (List Int)) : Prop :=
  (cur = [] ∧ rest = wordsW b n 400 [0]) ∨ ∃ f, chkW b n (f + 1) cur = true ∧ wordsW b n (f + 1) cur = cur :: rest

theorem reach_words {b : Int} {n f : Nat} {w : List Int} (h : chkW b n f w = true) : ∃ rest, wordsW b n f w = w :: rest ∧ Reach b n w rest := by
  obtain ⟨g, rfl⟩ := chk_pos h
  rcases (chk_step h).2 with e | ⟨e, _⟩
  · exact ⟨[], words_end e, .inr ⟨g, h, words_end e⟩⟩
  · exact ⟨_, words_on e, .inr ⟨g, h, words_on e⟩⟩

theorem reach_step {b : Int} {n : Nat} {cur x : List Int} {rest : List (List Int)} (hr : riB n b = true) (h : Reach b n cur (x :: rest)) : Reach b n x rest ∧ WordOk b n x := by
  rcases h with ⟨rfl, h⟩ | ⟨f, hc, hw⟩
  · obtain ⟨r, e, hR⟩ := reach_words (chkW_of hr)
    rw [e] at h
    injection h with h1 h2
    subst h1 h2
    exact ⟨hR, words_ok (chkW_of hr) _ (by rw [e]; exact List.mem_cons_self)⟩
  · rcases (chk_step hc).2 with e | ⟨e, hc2⟩
    · rw [words_end e] at hw
      injection hw with _ h2
      cases h2
    · rw [words_on e] at hw
      injection hw with _ hw
      obtain ⟨r, e2, hR⟩ := reach_words hc2
      rw [e2] at hw
      injection hw with h1 h2
      subst h1 h2
      exact ⟨hR, words_ok hc2 _ (by rw [e2]; exact List.mem_cons_self)⟩

set_option maxHeartbeats 1000000 in
theorem lwS_any {n : Nat} {b : Int} {cur : List Int} {rest : List (List Int)} (h : riB n b = true) (hR : Reach b n cur rest) (w : World) :
    Calls Tryd.prog 55 #[.agg #[.int .i64 n, .int .i64 b], .string (textOf cur)] w fun e w' => e = .returned (.string (textOf (rest.headD []))) ∧ Below w.heap.size w w' := by
  rcases hR with ⟨rfl, rfl⟩ | ⟨f, hc, hw⟩
  · obtain ⟨r, e, _⟩ := reach_words (chkW_of h)
    rw [e]
    exact lwb_none n b w
  · obtain ⟨hok, hs⟩ := chk_step hc
    have hn : nxW b n cur = [] ∨ nxW b n cur ≠ [] ∧ WordOk b n (incW (nxW b n cur)) := hs.imp id fun ⟨e, hc2⟩ => ⟨e, by
      obtain ⟨g, rfl⟩ := chk_pos hc2
      exact (chk_step hc2).1⟩
    have hnext : rest.headD [] = nextWd b n cur := by
      unfold nextWd
      rcases hs with e | ⟨e, hc2⟩
      · rw [words_end e] at hw
        injection hw with _ hw
        rw [← hw, if_pos e]
        rfl
      · rw [words_on e] at hw
        injection hw with _ hw
        obtain ⟨r, e2, _⟩ := reach_words hc2
        rw [← hw, e2, if_neg e]
        rfl
    rw [hnext]
    exact lwb_any n b cur w h hok hn

/-- Those from the first one on whose length divides n. -/
def drpW (n : Nat) (rest : List (List Int)) : List (List Int) := rest.dropWhile fun w => n % w.length != 0

theorem drp_skip {n : Nat} {x : List Int} {rest : List (List Int)} (h : ¬ n % x.length = 0) : drpW n (x :: rest) = drpW n rest := by
  unfold drpW
  rw [List.dropWhile_cons, if_pos (by simpa using h)]

theorem drp_stop {n : Nat} {x : List Int} {rest : List (List Int)} (h : n % x.length = 0) : drpW n (x :: rest) = x :: rest := by
  unfold drpW
  rw [List.dropWhile_cons, if_neg (by simp [h])]

theorem filter_drp {n : Nat} : ∀ (rest : List (List Int)), rest.filter (fun w => n % w.length == 0) = (drpW n rest).filter fun w => n % w.length == 0
  | [] => rfl
  | x :: rest => by
    by_cases h : n % x.length = 0
    · rw [drp_stop h]
    · rw [drp_skip h, ← filter_drp rest, List.filter_cons, if_neg (by simpa using h)]

theorem ex_least (p : Nat → Prop) (h : ∃ m, p m) : ∃ m, p m ∧ ∀ k, k < m → ¬ p k := by
  obtain ⟨m, hm⟩ := h
  induction m using Nat.strongRecOn with
  | ind m ih =>
    by_cases e : ∃ k, k < m ∧ p k
    · obtain ⟨k, hk, hp⟩ := e
      exact ih k hk hp
    · exact ⟨m, hm, fun k hk hp => e ⟨k, hk, hp⟩⟩

/-- A scope that is left, or jumps back to one label; a number that is known of each pass falls. -/
theorem wp_scope_num {P : Program} {a : Act} {w : World} {Q : Exit → Act → World → Prop} {c rest : Code} (l : Nat) (J : Nat → Act → World → Prop) (hf : findLabel c l = some (.seq .skip rest))
    (pass : ∀ m a w, J m a w → rest.wp P (Exit.jump l (fun a' w' => ∃ m', m' < m ∧ J m' a' w') Q) a w)
    (first : (∀ m a w, J m a w → rest.wp P (Exit.jump l (fun a w => ∃ m, J m a w) Q) a w) → c.wp P (Exit.jump l (fun a w => ∃ m, J m a w) Q) a w) : (Code.scope c).wp P Q a w := by
  have pass2 : ∀ m a w, J m a w → rest.wp P (Exit.jump l (fun a w => ∃ m, J m a w) Q) a w := fun m a w hJ b k cs => by
    obtain ⟨e, a₁, w₁, hq, harr⟩ := pass m a w hJ b k cs
    refine ⟨e, a₁, w₁, ?_, harr⟩
    cases e with
    | goto l' => exact ⟨hq.1, hq.2.imp fun _ h => h.2⟩
    | normal => exact hq
    | exit id => exact hq
    | ret => exact hq
    | panic ch => exact hq
    | outgrown => exact hq
  refine wp_scope_jumps l (fun a w => ∃ m, J m a w) (fun a w => Classical.epsilon fun m => J m a w ∧ ∀ k, k < m → ¬ J k a w) hf (first pass2) fun a w hJ => wp_seq (wp_skip fun b k cs => ?_)
  have hs := Classical.epsilon_spec (ex_least (fun m => J m a w) hJ)
  obtain ⟨e, a₁, w₁, hq, harr⟩ := pass _ a w hs.1 b k cs
  refine ⟨e, a₁, w₁, ?_, harr⟩
  cases e with
  | goto l' =>
    obtain ⟨h1, m', hm', hJ'⟩ := hq
    have hs' := Classical.epsilon_spec (ex_least (fun m => J m a₁ w₁) ⟨m', hJ'⟩)
    refine ⟨h1, ⟨m', hJ'⟩, Nat.lt_of_le_of_lt (Nat.le_of_not_lt fun hlt => hs'.2 m' hlt hJ') hm'⟩
  | normal => exact hq
  | exit id => exact hq
  | ret => exact hq
  | panic ch => exact hq
  | outgrown => exact hq

theorem cell_ltR {w : World} {p : Addr} {v : Value} (h : w.cell? p = some v) : p.block < w.heap.size := by
  unfold World.cell? at h
  by_cases e : p.block < w.heap.size
  · exact e
  · rw [Array.getElem?_eq_none (by omega)] at h
    simp at h

/-- What the closure leaves: the word that is told, and the cell that holds it; nothing else that was there has changed. -/
def NextOut (w : World) (Wd : Nat) (t : ByteArray) (e : Ending) (w' : World) : Prop :=
  e = .returned (.string t) ∧ w'.cell? ⟨Wd, 0, none⟩ = some (.string t) ∧ w'.frozen? ⟨Wd, 0, none⟩ = false ∧ w.grownBy w' (some Wd)

theorem grown_of {w w' : World} (hb : Below w.heap.size w w') (row : Option Nat) : w.grownBy w' row :=
  ⟨hb.os, hb.tape, hb.output, hb.size, fun k hk _ => hb.block k hk⟩

theorem _root_.Go.World.grownBy.andThen' {w w' w'' : World} {row : Option Nat} (h : w.grownBy w' row) (h2 : w'.grownBy w'' row) : w.grownBy w'' row :=
  ⟨h2.os.trans h.os, h2.tape.trans h.tape, h2.output.trans h.output, Nat.le_trans h.size h2.size, fun k hk hne => (h2.block k (Nat.lt_of_lt_of_le hk h.size) hne).trans (h.block k hk hne)⟩

theorem grown_set {w w' : World} {Wd : Nat} (h : w.grownBy w' (some Wd)) (v : Value) : w.grownBy (w'.setCell ⟨Wd, 0, none⟩ v) (some Wd) := by
  have hb := (Below.refl 0 w').setCell (p := ⟨Wd, 0, none⟩) (Nat.zero_le _) v
  refine ⟨hb.os.trans h.os, hb.tape.trans h.tape, hb.output.trans h.output, Nat.le_trans h.size hb.size, fun k hk hne => ?_⟩
  rw [← h.block k hk hne]
  exact Below.heap_setCell _ _ _ _ fun e => hne (by rw [e])

set_option maxRecDepth 100000 in
set_option maxHeartbeats 4000000 in
theorem ringNext_any {n : Nat} {b : Int} {cur : List Int} {rest : List (List Int)} (h : riB n b = true) (hR : Reach b n cur rest) (L Wd : Nat) (w : World) (hne : L ≠ Wd)
    (c0 : w.cell? ⟨L, 0, none⟩ = some (.int .i64 n)) (c1 : w.cell? ⟨L, 1, none⟩ = some (.int .i64 b)) (cw : w.cell? ⟨Wd, 0, none⟩ = some (.string (textOf cur))) (fw : w.frozen? ⟨Wd, 0, none⟩ = false) :
    Calls Tryd.prog 54 #[.pointer (some ⟨L, 0, none⟩), .pointer (some ⟨Wd, 0, none⟩)] w (NextOut w Wd (textOf ((drpW n rest).headD []))) := by
  have HH := Lib.hid h
  have HNE := Lib.hid hne
  have hLw := cell_ltR c0
  have hWw := cell_ltR cw
  obtain ⟨h1, h6, h2, h10⟩ := good_yes (riB_good h)
  have J0 : Hid (Reach b n cur rest ∧ w.cell? ⟨L, 0, none⟩ = some (.int .i64 n) ∧ w.cell? ⟨L, 1, none⟩ = some (.int .i64 b) ∧ w.cell? ⟨Wd, 0, none⟩ = some (.string (textOf cur)) ∧ w.frozen? ⟨Wd, 0, none⟩ = false) := Lib.hid ⟨hR, c0, c1, cw, fw⟩
  obtain ⟨T, hT⟩ : ∃ T, textOf ((drpW n rest).headD []) = T := ⟨_, rfl⟩
  have HT := Lib.hid hT
  rw [hT]
  clear h hR hne c0 c1 cw fw hT
  go_enter Tryd.func54, Tryd.ntmps54
  go_wp2_with fail
  refine wp_scope_num 0 (fun m a' wr => ∃ (cur' : List Int) (rest' : List (List Int)) (u3 u4 u5 u6 u7 u8 u9 u10 u11 u12 u13 u14 u15 u16 : Value), a' = { tmps := #[.pointer (some ⟨L, 0, none⟩), .pointer (some ⟨Wd, 0, none⟩), .string ⟨#[]⟩, u3, u4, u5, u6, u7, u8, u9, u10, u11, u12, u13, u14, u15, u16], defers := [] } ∧ rest'.length = m ∧ Reach b n cur' rest' ∧ drpW n rest' = drpW n rest ∧ wr.cell? ⟨L, 0, none⟩ = some (.int .i64 n) ∧ wr.cell? ⟨L, 1, none⟩ = some (.int .i64 b) ∧ wr.cell? ⟨Wd, 0, none⟩ = some (.string (textOf cur')) ∧ wr.frozen? ⟨Wd, 0, none⟩ = false ∧ w.grownBy wr (some Wd)) rfl ?_ ?_
  · rintro m _ wr ⟨cur', rest', u3, u4, u5, u6, u7, u8, u9, u10, u11, u12, u13, u14, u15, u16, rfl, hm, hR, hd, c0, c1, cw, fw, hg⟩
    have HR := Lib.hid hR
    have HD := Lib.hid hd
    have HG := Lib.hid hg
    have HM := Lib.hid hm
    have hLr : L < wr.heap.size := Nat.lt_of_lt_of_le hLw hg.size
    have hWr : Wd < wr.heap.size := Nat.lt_of_lt_of_le hWw hg.size
    clear hR hd hg hm
    rcases rest' with _ | ⟨x, r⟩
    · have hX0 : (textOf []).toList.isEmpty = true := by rw [ByteArray.toList_eq]; rfl
      have HTT : Hid (T = textOf []) := Lib.hid (by rw [← HT.out, ← HD.out]; rfl)
      go_wp2_with (go_at_call 55; refine (lwS_any HH.out HR.out _).mono ?_; rw [List.headD_nil]; rintro e w1 ⟨rfl, hb⟩; have HB := Lib.hid hb; have p0 : w1.cell? ⟨Wd, 0, none⟩ = some (.string (textOf cur')) := (by rw [hb.cell (p := ⟨Wd, 0, none⟩) hWr]; exact cw); have p1 : w1.frozen? ⟨Wd, 0, none⟩ = false := (by rw [hb.frozen (p := ⟨Wd, 0, none⟩) hWr]; exact fw); clear hb)
      change bodyPost _ _ _ Exit.ret _ _
      go_ret
      rw [HTT.out]
      refine ⟨rfl, World.cell?_setCell_same _ _ _ p0, by rw [World.frozen?_setCell]; exact p1, grown_set (HG.out.andThen' (grown_of HB.out (some Wd))) _⟩
    · obtain ⟨hRx, hok⟩ := reach_step HH.out HR.out
      have hx1 := hok.pos
      have hx6 := hok.le
      have hxn : x ≠ [] := fun e => by rw [e] at hx1; simp at hx1
      have hxe := text_some hxn
      have hts : (textOf x).size = x.length := textOf_size x
      have HRX := Lib.hid hRx
      have hL2 : ∀ w' v, (World.setCell w' ⟨Wd, 0, none⟩ v).cell? ⟨L, 0, none⟩ = w'.cell? ⟨L, 0, none⟩ := fun w' v => World.cell?_setCell_far _ _ _ _ (fun e => HNE.out e.symm)
      have hLW : L ≠ Wd := HNE.out
      have hWL : Wd ≠ L := fun e => HNE.out e.symm
      clear hRx hok hxn
      by_cases hdv : n % x.length = 0
      · have hdi : (n : Int) % (x.length : Int) = 0 := by omega
        have HTT : Hid (T = textOf x) := Lib.hid (by rw [← HT.out, ← HD.out, drp_stop hdv]; rfl)
        clear hdv
        go_wp2_with (go_at_call 55; refine (lwS_any HH.out HR.out _).mono ?_; rw [List.headD_cons]; rintro e w1 ⟨rfl, hb⟩; have HB := Lib.hid hb; have p0 : w1.cell? ⟨Wd, 0, none⟩ = some (.string (textOf cur')) := (by rw [hb.cell (p := ⟨Wd, 0, none⟩) hWr]; exact cw); have p1 : w1.frozen? ⟨Wd, 0, none⟩ = false := (by rw [hb.frozen (p := ⟨Wd, 0, none⟩) hWr]; exact fw); have r0 : w1.cell? ⟨L, 0, none⟩ = some (.int .i64 n) := (by rw [hb.cell (p := ⟨L, 0, none⟩) hLr]; exact c0); have q0 : (w1.setCell ⟨Wd, 0, none⟩ (.string (textOf x))).cell? ⟨L, 0, none⟩ = some (.int .i64 n) := (by rw [hL2, hb.cell (p := ⟨L, 0, none⟩) hLr]; exact c0); clear hb)
        change bodyPost _ _ _ Exit.ret _ _
        go_ret
        rw [HTT.out]
        refine ⟨rfl, World.cell?_setCell_same _ _ _ p0, by rw [World.frozen?_setCell]; exact p1, grown_set (HG.out.andThen' (grown_of HB.out (some Wd))) _⟩
      · have hdi : ¬ (n : Int) % (x.length : Int) = 0 := by omega
        have HDX : Hid (drpW n r = drpW n rest) := Lib.hid (by rw [← HD.out, drp_skip hdv])
        have hml : r.length < m := by rw [← HM.out]; simp
        have HML := Lib.hid hml
        clear hdv hml
        go_wp2_with (go_at_call 55; refine (lwS_any HH.out HR.out _).mono ?_; rw [List.headD_cons]; rintro e w1 ⟨rfl, hb⟩; have HB := Lib.hid hb; have p0 : w1.cell? ⟨Wd, 0, none⟩ = some (.string (textOf cur')) := (by rw [hb.cell (p := ⟨Wd, 0, none⟩) hWr]; exact cw); have p1 : w1.frozen? ⟨Wd, 0, none⟩ = false := (by rw [hb.frozen (p := ⟨Wd, 0, none⟩) hWr]; exact fw); have r0 : w1.cell? ⟨L, 0, none⟩ = some (.int .i64 n) := (by rw [hb.cell (p := ⟨L, 0, none⟩) hLr]; exact c0); have q0 : (w1.setCell ⟨Wd, 0, none⟩ (.string (textOf x))).cell? ⟨L, 0, none⟩ = some (.int .i64 n) := (by rw [hL2, hb.cell (p := ⟨L, 0, none⟩) hLr]; exact c0); have q1 : (w1.setCell ⟨Wd, 0, none⟩ (.string (textOf x))).cell? ⟨L, 1, none⟩ = some (.int .i64 b) := (by rw [World.cell?_setCell_far _ _ _ _ (fun e => HNE.out e.symm), hb.cell (p := ⟨L, 1, none⟩) hLr]; exact c1); clear hb)
        go_step3
        refine ⟨rfl, r.length, HML.out, x, r, _, _, _, _, _, _, _, _, _, _, _, _, _, _, rfl, rfl, HRX.out, HDX.out, q0, q1, World.cell?_setCell_same _ _ _ p0, by rw [World.frozen?_setCell]; exact p1, grown_set (HG.out.andThen' (grown_of HB.out (some Wd))) _⟩
  · intro hpass
    go_wp2_with fail
    go_step3
    rename_i hK
    obtain ⟨hR, c0, c1, cw, fw⟩ := J0.out
    exact hK _ _ (hpass _ _ _ ⟨cur, rest, _, _, _, _, _, _, _, _, _, _, _, _, _, _, rfl, rfl, hR, rfl, c0, c1, cw, fw, ⟨rfl, rfl, rfl, Nat.le_refl _, fun _ _ _ => rfl⟩⟩)

end Go.Proofs.YteolmplbgmfhmaaDoor
