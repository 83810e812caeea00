/- The least words whose lengths divide the number of wheels, as the program lists them. No conditions. -/
import Derived.Test.YteolmplbgmfhmaaDoorRn
import Derived.Test.YteolmplbgmfhmaaDoorRs
namespace Go.Proofs.YteolmplbgmfhmaaDoor
open Go.ChangeShapes Go.WideShapes Go.ChangeAt Go.RowKit Go.Joins

/-- The least words, as texts. -/
def lwL (a b : Int) : List ByteArray := if riB a b then (keepW b a.toNat).map textOf else []

theorem lwL_yes {n : Nat} {b : Int} (h : riB n b = true) : lwL n b = (keepW b n).map textOf := by unfold lwL; rw [h]; rfl

theorem lwL_no {a b : Int} (h : riB a b = false) : lwL a b = [] := by unfold lwL; rw [h]; rfl

/-- A list of texts and yes or no are handed back. -/
def LwOut (w : World) (ts : List ByteArray) (ok : Bool) (e : Ending) (w' : World) : Prop :=
  ∃ A c, e = .returned (.tuple #[.slice A ts.length c, .bool ok]) ∧ OwnS w' w.heap.size A ts.length ts ∧ ts.length ≤ c ∧ Below w.heap.size w w'

theorem lwOut_none (w w' : World) (hb : Below w.heap.size w w') : LwOut w [] false (.returned (.tuple #[.slice none 0 0, .bool false])) w' :=
  ⟨none, 0, rfl, ⟨rfl, by decide, .inl rfl⟩, Nat.le_refl _, hb⟩

theorem kp_step {b : Int} {n : Nat} (hr : riB n b = true) : ∀ {rest : List (List Int)} {cur : List Int}, Reach b n cur rest →
    (drpW n rest = [] ∧ rest.filter (fun w => n % w.length == 0) = []) ∨ ∃ y r, drpW n rest = y :: r ∧ Reach b n y r ∧ WordOk b n y ∧ rest.filter (fun w => n % w.length == 0) = y :: r.filter fun w => n % w.length == 0
  | [], _, _ => .inl ⟨rfl, rfl⟩
  | x :: rest, cur, h => by
    obtain ⟨h1, h2⟩ := reach_step hr h
    by_cases hd : n % x.length = 0
    · exact .inr ⟨x, rest, drp_stop hd, h1, h2, by rw [List.filter_cons, if_pos (by simp [hd])]⟩
    · rw [drp_skip hd, List.filter_cons, if_neg (by simpa using hd)]
      exact kp_step hr h1

set_option maxRecDepth 100000 in
theorem ringWords_any (n : Nat) (b : Int) (w : World) :
    Calls Tryd.prog 40 #[.agg #[.int .i64 n, .int .i64 b]] w fun e w' => e = .returned (.func (.func 54) #[] #[.pointer (some ⟨w.heap.size, 0, none⟩), .pointer (some ⟨w.heap.size + 1, 0, none⟩)]) ∧
      w'.cell? ⟨w.heap.size, 0, none⟩ = some (.int .i64 n) ∧ w'.cell? ⟨w.heap.size, 1, none⟩ = some (.int .i64 b) ∧ w'.cell? ⟨w.heap.size + 1, 0, none⟩ = some (.string (textOf [])) ∧ w'.frozen? ⟨w.heap.size + 1, 0, none⟩ = false ∧ w'.heap.size = w.heap.size + 2 ∧ Below w.heap.size w w' := by
  go_enter Tryd.func40, Tryd.ntmps40
  go_wp2
  go_ret
  refine ⟨rfl, ?_, ?_, ?_, ?_, by simp, by (repeat (first | assumption | exact Below.refl _ _ | (refine Below.alloc ?_ (by first | omega | (simp; done) | (simp; omega)) _) | (refine Below.setCell ?_ (by first | omega | (simp; done) | (simp; omega)) _) | refine bel_drewN ?_ _ | refine bel_drew ?_ | (refine bel_call ?_ (by assumption))))⟩
  all_goals first | rfl | (simp; done) | (simp [textOf_nil]; rfl)

def lenR : Value → Nat
  | .slice _ n _ => n
  | _ => 0

theorem row_lenR {w : World} {base size n : Nat} {e : TypeId} {v : Value} {xs : List Value} (h : w.ownsRow base e size v n xs) : lenR v = n := by
  rcases h.2 with ⟨rfl, rfl⟩ | ⟨g, cap, cur, rfl, _⟩ <;> rfl

theorem own_capR {w : World} {base : Nat} {e : TypeId} {size : Nat} {v : Value} {n : Nat} {xs : List Value} (h : w.ownsRow base e size v n xs) (A : Option Addr) (m c : Nat) (hv : v = .slice A m c) : n ≤ c := by
  rcases h.2 with ⟨e1, e2⟩ | ⟨g, cap, cur, e1, _, _, hle, _⟩
  · omega
  · rw [e1] at hv
    injection hv with _ _ h3
    omega

/-- What is known at the head of the loop. -/
structure LwSt (w wr : World) (n : Nat) (b : Int) (L Wd base : Nat) (v : Value) (x : List Int) (dn : List (List Int)) : Prop where
  st : (x = [] ∧ dn = keepW b n) ∨ (x ≠ [] ∧ ∃ rest, Reach b n x rest ∧ dn ++ x :: rest.filter (fun w => n % w.length == 0) = keepW b n)
  row : wr.ownsRow base 9 1 v dn.length (sv (dn.map textOf))
  c0 : wr.cell? ⟨L, 0, none⟩ = some (.int .i64 n)
  c1 : wr.cell? ⟨L, 1, none⟩ = some (.int .i64 b)
  cw : wr.cell? ⟨Wd, 0, none⟩ = some (.string (textOf x))
  fw : wr.frozen? ⟨Wd, 0, none⟩ = false
  size : base ≤ wr.heap.size
  below : Below w.heap.size w wr

theorem lw_next {n : Nat} {b : Int} {L Wd base : Nat} {v : Value} {cur : List Int} {rest dn : List (List Int)} {w wr w1 : World} {e : Ending} (hr : riB n b = true) (hR : Reach b n cur rest)
    (hk : dn ++ rest.filter (fun w => n % w.length == 0) = keepW b n) (row : wr.ownsRow base 9 1 v dn.length (sv (dn.map textOf))) (c0 : wr.cell? ⟨L, 0, none⟩ = some (.int .i64 n)) (c1 : wr.cell? ⟨L, 1, none⟩ = some (.int .i64 b))
    (hne : L ≠ Wd) (hb : base ≤ wr.heap.size) (hWb : Wd < base) (hWw : w.heap.size ≤ Wd) (hB : Below w.heap.size w wr) (h : NextOut wr Wd (textOf ((drpW n rest).headD [])) e w1) :
    ∃ y, e = .returned (.string (textOf y)) ∧ LwSt w w1 n b L Wd base v y dn := by
  obtain ⟨he, hc, hf, hg⟩ := h
  have hrow : w1.ownsRow base 9 1 v dn.length (sv (dn.map textOf)) := row.kept hg (by
    cases hv : v.ownBlock with
    | none => exact .inl rfl
    | some k => exact .inr fun e => by injection e with e; have := (row.lt k hv).1; omega)
  have d0 : w1.cell? ⟨L, 0, none⟩ = some (.int .i64 n) := hg.cell c0 (fun e => hne (by injection e))
  have d1 : w1.cell? ⟨L, 1, none⟩ = some (.int .i64 b) := hg.cell c1 (fun e => hne (by injection e))
  have hB1 : Below w.heap.size w w1 := hB.grown hg hB.size (fun k hk => by injection hk with hk; omega)
  have hz : base ≤ w1.heap.size := Nat.le_trans hb hg.size
  rcases kp_step hr hR with ⟨hd, hfl⟩ | ⟨y, r, hd, hRy, hok, hfl⟩
  · rw [hd] at he hc
    rw [hfl, List.append_nil] at hk
    exact ⟨[], he, ⟨.inl ⟨rfl, hk⟩, hrow, d0, d1, hc, hf, hz, hB1⟩⟩
  · rw [hd] at he hc
    rw [hfl] at hk
    exact ⟨y, he, ⟨.inr ⟨fun e => by have := hok.pos; rw [e] at this; simp at this, r, hRy, hk⟩, hrow, d0, d1, hc, hf, hz, hB1⟩⟩

set_option maxRecDepth 100000 in
set_option maxHeartbeats 4000000 in
theorem leastWords_any (a b : Int) (w : World) :
    Calls Tryd.prog 19 #[.agg #[.int .i64 a, .int .i64 b]] w (LwOut w (lwL a b) (riB a b)) := by
  by_cases hg : riB a b = true
  · obtain ⟨i0, hi, hz0, hz1, hz2⟩ := info_parts info_string
    have HG := Lib.hid hg
    obtain ⟨n, rfl⟩ : ∃ n : Nat, a = n := ⟨a.toNat, by have := good_yes (riB_good hg); omega⟩
    have HL := Lib.hid (lwL_yes hg)
    have hkl := keep_length hg
    have HKL := Lib.hid hkl
    have R0 := Lib.hid (show Reach b n [] (wordsW b n 400 [0]) from .inl ⟨rfl, rfl⟩)
    have K0 := Lib.hid (show [] ++ (wordsW b n 400 [0]).filter (fun w => n % w.length == 0) = keepW b n from rfl)
    have hX0 : (textOf []).toList.isEmpty = true := by rw [ByteArray.toList_eq]; rfl
    clear hg hkl
    go_enter Tryd.func19, Tryd.ntmps19
    go_wp2_with (first | (go_at_call 38; refine (ringLength_any _ _ _).mono ?_; rw [HG.out]; rintro e w1 ⟨rfl, hb⟩; have HB := Lib.hid (show Below w.heap.size w w1 from by (repeat (first | assumption | exact Below.refl _ _ | (refine Below.alloc ?_ (by first | omega | (simp; done) | (simp; omega)) _) | (refine Below.setCell ?_ (by first | omega | (simp; done) | (simp; omega)) _) | refine bel_drewN ?_ _ | refine bel_drew ?_ | (refine bel_call ?_ (by assumption))))); have m0 : w1.cell? ⟨w.heap.size, 0, none⟩ = some (.int .i64 n) := (by rw [hb.cell (p := ⟨w.heap.size, 0, none⟩) (by simp)]; simp); have m1 : w1.cell? ⟨w.heap.size, 1, none⟩ = some (.int .i64 b) := (by rw [hb.cell (p := ⟨w.heap.size, 1, none⟩) (by simp)]; simp); clear hb) | (go_at_call 40; refine (ringWords_any n b _).mono ?_; rintro e w2 ⟨rfl, q0, q1, qw, qf, qz, hb2⟩; have HB2 := Lib.hid (bel_call HB.out hb2); have hw1 := HB.out.size; clear hb2) | (go_at_call 54; refine (ringNext_any HG.out R0.out w1.heap.size (w1.heap.size + 1) _ (by omega) q0 q1 qw qf).mono ?_; intro e w3 hN; obtain ⟨y, rfl, hLS⟩ := lw_next (w := w) (base := w1.heap.size + 2) (v := .slice none 0 0) HG.out R0.out K0.out (World.ownsRow_nil _ _ _ _) q0 q1 (by omega) (by omega) (by omega) (by omega) HB2.out hN; have HLS := Lib.hid hLS; clear hLS hN q0 q1 qw qf))
    go_loopw [6, 8] (fun v u wr => ∃ (x : List Int) (dn : List (List Int)), u = .string (textOf x) ∧ LwSt w wr n b w1.heap.size (w1.heap.size + 1) (w1.heap.size + 2) v x dn) (fun v _ _ => 1001 - lenR v)
    case atStart => exact ⟨y, [], rfl, HLS.out⟩
    case round =>
      clear m0 m1 qz
      obtain ⟨x, dn, rfl, hst⟩ := hrel
      have HST := Lib.hid hst
      have HROW := Lib.hid hst.row
      have hlen := row_lenR hst.row
      have hzw := hst.size
      rcases hst.st with ⟨rfl, hdn⟩ | ⟨hxn, rest, hR, hk⟩
      · have HDN := Lib.hid hdn
        have hrow := hst.row
        have HCAP := Lib.hid (own_capR hrow)
        have hdl : (dn.map textOf).length ≤ 1000 := by rw [List.length_map, hdn]; exact HKL.out
        rw [show dn.length = (dn.map textOf).length from (List.length_map _).symm] at hrow
        obtain ⟨A, c, rfl, hO⟩ := own_strs (ts := dn.map textOf) hrow (by omega)
        have hcap := HCAP.out _ _ _ rfl
        have HO := Lib.hid hO
        clear hst hrow hlen hdn hO
        go_wp2
        go_ret2
        rw [HL.out, HG.out, ← HDN.out]
        exact ⟨A, c, rfl, HO.out.base (by omega), by rw [List.length_map]; exact hcap, HST.out.below⟩
      · have hxe := text_some hxn
        have HR := Lib.hid hR
        have HK : Hid ((dn ++ [x]) ++ rest.filter (fun w => n % w.length == 0) = keepW b n) := Lib.hid (by rw [List.append_assoc]; exact hk)
        have hdl : dn.length < 1000 := by
          have := congrArg List.length hk
          rw [List.length_append, List.length_cons] at this
          have := HKL.out
          omega
        have HLEN := Lib.hid hlen
        have e0 : (wr.alloc (.cells #[.string (textOf x)] 9)).cell? ⟨w1.heap.size, 0, none⟩ = some (.int .i64 n) := by rw [World.cell?_alloc_lt _ _ _ (by show w1.heap.size < wr.heap.size; omega)]; exact HST.out.c0
        have e1 : (wr.alloc (.cells #[.string (textOf x)] 9)).cell? ⟨w1.heap.size, 1, none⟩ = some (.int .i64 b) := by rw [World.cell?_alloc_lt _ _ _ (by show w1.heap.size < wr.heap.size; omega)]; exact HST.out.c1
        have ew : (wr.alloc (.cells #[.string (textOf x)] 9)).cell? ⟨w1.heap.size + 1, 0, none⟩ = some (.string (textOf x)) := by rw [World.cell?_alloc_lt _ _ _ (by show w1.heap.size + 1 < wr.heap.size; omega)]; exact HST.out.cw
        have ef : (wr.alloc (.cells #[.string (textOf x)] 9)).frozen? ⟨w1.heap.size + 1, 0, none⟩ = false := by rw [((Below.refl wr.heap.size wr).alloc (Nat.le_refl _) _).frozen (p := ⟨w1.heap.size + 1, 0, none⟩) (by show w1.heap.size + 1 < wr.heap.size; omega)]; exact HST.out.fw
        have E0 := Lib.hid (And.intro e0 (And.intro e1 (And.intro ew ef)))
        clear hst hlen hR hk hxn e0 e1 ew ef
        go_wp2_with (at_builtin; refine wpList_append_own _ rfl _ _ 34 rfl (w1.heap.size + 2) 9 i0 (.string ByteArray.empty) 1 16 Tryd.underlying34 hi hz0 hz1 hz2 rfl (by decide) _ _ _ rfl (HROW.out.alloc _) ⟨wr.heap.size, 0, none⟩ 1 1 [.string (textOf x)] rfl rfl (news_of rfl) (by simp [Value.oneCell']) (by unfold maxLen; omega) (by omega) (by simp; omega) ?_)
        intro v' w5 hown' hgrow _
        have hlo := HROW.out.lt
        have hB5 : Below w.heap.size w w5 := (HST.out.below.alloc HST.out.below.size _).grown hgrow (by have := HST.out.below.size; simp; omega) (fun j hj => by have := (hlo j hj).1; omega)
        have f0 : w5.cell? ⟨w1.heap.size, 0, none⟩ = some (.int .i64 n) := hgrow.cell E0.out.1 (fun e => by have h' : w1.heap.size + 2 ≤ w1.heap.size := (hlo _ e.symm).1; omega)
        have f1 : w5.cell? ⟨w1.heap.size, 1, none⟩ = some (.int .i64 b) := hgrow.cell E0.out.2.1 (fun e => by have h' : w1.heap.size + 2 ≤ w1.heap.size := (hlo _ e.symm).1; omega)
        have fw5 : w5.cell? ⟨w1.heap.size + 1, 0, none⟩ = some (.string (textOf x)) := hgrow.cell E0.out.2.2.1 (fun e => by have h' : w1.heap.size + 2 ≤ w1.heap.size + 1 := (hlo _ e.symm).1; omega)
        have ff5 : w5.frozen? ⟨w1.heap.size + 1, 0, none⟩ = false := by rw [World.frozen?_of_block (hgrow.block (w1.heap.size + 1) (by simp; omega) (fun e => by have h' : w1.heap.size + 2 ≤ w1.heap.size + 1 := (hlo _ e.symm).1; omega))]; exact E0.out.2.2.2
        have hz5 : w1.heap.size + 2 ≤ w5.heap.size := by have := hgrow.size; simp at this; omega
        have HON : Hid (w5.ownsRow (w1.heap.size + 2) 9 1 v' (dn ++ [x]).length (sv ((dn ++ [x]).map textOf))) := Lib.hid (by
          rw [List.length_append, List.map_append]
          show w5.ownsRow _ _ _ _ (dn.length + 1) (sv (dn.map textOf ++ [textOf x]))
          rw [sv_snoc]
          exact hown')
        have HLV := Lib.hid (row_lenR HON.out)
        clear hgrow hown' hlo
        go_wp2_with (go_at_call 54; refine (ringNext_any HG.out HR.out w1.heap.size (w1.heap.size + 1) _ (by omega) f0 f1 fw5 ff5).mono ?_; intro e w6 hN; obtain ⟨y, rfl, hLS⟩ := lw_next (w := w) (base := w1.heap.size + 2) (v := v') HG.out HR.out HK.out HON.out f0 f1 (by omega) (by omega) (by omega) (by omega) hB5 hN; have HLS := Lib.hid hLS; clear hLS hN)
        go_roundw
        case rel => exact ⟨y, dn ++ [x], rfl, HLS.out⟩
        case measure =>
          show 1001 - lenR v' < 1001 - lenR _
          rw [HLV.out, HLEN.out, List.length_append, List.length_singleton]
          omega
  · have HG := Lib.hid (Bool.eq_false_iff.2 hg)
    clear hg
    go_enter Tryd.func19, Tryd.ntmps19
    go_wp2_with (go_at_call 38; refine (ringLength_any _ _ _).mono ?_; rw [HG.out]; rintro e w1 ⟨rfl, hb⟩; obtain ⟨hc, hf, hz⟩ := bcell hb; have hz0 : w.heap.size < w1.heap.size := by (try simp at hz); omega)
    go_ret2
    rw [lwL_no HG.out, HG.out]
    refine lwOut_none _ _ ?_
    (repeat (first | assumption | exact Below.refl _ _ | (refine Below.alloc ?_ (by first | omega | (simp; done) | (simp; omega)) _) | (refine Below.setCell ?_ (by first | omega | (simp; done) | (simp; omega)) _) | refine bel_drewN ?_ _ | refine bel_drew ?_ | (refine bel_call ?_ (by assumption))))

end Go.Proofs.YteolmplbgmfhmaaDoor
