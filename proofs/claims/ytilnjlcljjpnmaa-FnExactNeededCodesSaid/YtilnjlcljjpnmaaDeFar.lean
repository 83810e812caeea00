/- How many turns each code needs around dead ones, and how many ways of so few there are, as the model searches. For a lock of few codes and a live one of them. -/
import Derived.Test.YtilnjlcljjpnmaaAskD
import Derived.Test.YtilnjlcljjpnmaaBq
import Derived.Test.YtilnjlcljjpnmaaQueue
import Derived.Test.YtilnjlcljjpnmaaFar
import Derived.Deep.DeepCutAuto
namespace Go.Proofs.Ytilnjlcljjpnmaa
open Go.ChangeShapes Go.WideShapes Go.ChangeAt Go.RowKit Go.Joins

/-- The greatest count of ways. -/
def capN : Nat := 1000000000000001

/-- How many ways there are, or as many as are counted. -/
def wsN (a b : Int) (ts : List ByteArray) (s x : ByteArray) : Nat := if lvZ a b ts s x < 0 then 0 else sat capN (wyZ a b ts s (lvZ a b ts s x).toNat x)

/-- A function of codes, told by their numbers. -/
def farF (a b : Int) (fr : ByteArray → Int) (i : Nat) : Value := .int .i64 (fr (cdN a b i))

def wayF (a b : Int) (ws : ByteArray → Nat) (i : Nat) : Value := .int .i64 ((ws (cdN a b i) : Nat) : Int)

/-- What the search hands back. -/
def FarOut (w : World) (a b : Int) (ts : List ByteArray) (s : ByteArray) (e : Ending) (w' : World) : Prop :=
  ∃ gf gw, e = .returned (.tuple #[.slice (some ⟨gf, 0, none⟩) (cnN a b) (cnN a b), .slice (some ⟨gw, 0, none⟩) (cnN a b) (cnN a b)]) ∧ w.heap.size ≤ gf ∧ w.heap.size ≤ gw ∧ Cells w' gf (cnN a b) (farF a b (lvZ a b ts s)) ∧ Cells w' gw (cnN a b) (wayF a b (wsN a b ts s)) ∧ Below w.heap.size w w'

/-- What the search holds. -/
structure DfSt (w wr : World) (a b : Int) (gf gw M : Nat) (v : Value) (Q : List ByteArray) (fr : ByteArray → Int) (ws : ByteArray → Nat) : Prop where
  box : Cells wr w.heap.size 2 (b2F a b)
  far : Cells wr gf M (farF a b fr)
  way : Cells wr gw M (wayF a b ws)
  q : QW wr (max gf gw + 1) v Q
  bel : Below w.heap.size w wr

theorem DfSt.call {w wr w2 : World} {a b : Int} {gf gw M : Nat} {v : Value} {Q : List ByteArray} {fr : ByteArray → Int} {ws : ByteArray → Nat} (h : DfSt w wr a b gf gw M v Q fr ws) (hb : Below wr.heap.size wr w2) : DfSt w w2 a b gf gw M v Q fr ws :=
  ⟨h.box.call hb, h.far.call hb, h.way.call hb, h.q.call hb, bel_call h.bel hb⟩

theorem mvW_two {b : Int} {s : ByteArray} {k t : Nat} (ht : t < 2) : mvW b s (2 * k + t) = textOf (stepD b (dg s) (k : Int) (1 - 2 * (t : Int))) := by
  unfold mvW byW
  rw [show (2 * k + t) / 2 = k by omega]
  rcases (show t = 0 ∨ t = 1 by omega) with rfl | rfl
  · rw [if_pos (by omega)]; rfl
  · rw [if_neg (by omega)]; rfl

theorem make_intsM (n : Nat) (hn : n ≤ 1000) (W : World) : (Instr.makeSlice 63 (.int .i64 (n : Int)) (.int .i64 (n : Int))).run Try.prog W = .ok (.slice (some ⟨W.heap.size, 0, none⟩) n n) (W.alloc (.cells (madeCells #[.int .i64 0] n) 3)) :=
  make_ints n hn W

theorem cd_iff {a b : Int} {s : ByteArray} {j : Nat} (hs : askB a b s = true) (hj : j < cnN a b) : cdN a b j = s ↔ j = nuN a b s := by
  constructor
  · rintro rfl; exact (nu_cd (asked hs).good hj).symm
  · rintro rfl; exact cd_nu hs

/-- The search at a place x of level d, with j steps done there. -/
structure RdSt (a b : Int) (ts : List ByteArray) (s : ByteArray) (Q : List ByteArray) (fr : ByteArray → Int) (ws : ByteArray → Nat) (k j : Nat) (x : ByteArray) (d : Nat) : Prop where
  bq : Bq (mvW b) (2 * a.toNat) ivW (alB a b ts) s (fun x => askB a b x = true) capN Q fr ws k j
  at_ : Q[k]? = some x
  fr_ : fr x = (d : Int)
  ws_ : ws x = sat capN (wyZ a b ts s d x)

theorem RdSt.dead {a b : Int} {ts : List ByteArray} {s : ByteArray} {Q : List ByteArray} {fr : ByteArray → Int} {ws : ByteArray → Nat} {k j : Nat} {x : ByteArray} {d : Nat} (h : RdSt a b ts s Q fr ws k j x d) (hs : alB a b ts s = true) (hj : j < 2 * a.toNat) (ha : alB a b ts (mvW b x j) = false) : RdSt a b ts s Q fr ws k (j + 1) x d :=
  ⟨h.bq.dead h.at_ hj (grfW a b) hs ha, h.at_, h.fr_, h.ws_⟩

theorem RdSt.live {a b : Int} {ts : List ByteArray} {s : ByteArray} {Q : List ByteArray} {fr : ByteArray → Int} {ws : ByteArray → Nat} {k j : Nat} {x : ByteArray} {d : Nat} (h : RdSt a b ts s Q fr ws k j x d) (hs : alB a b ts s = true) (hj : j < 2 * a.toNat) {y : ByteArray} (hy : mvW b x j = y) (ha : alB a b ts y = true)
    {Q' : List ByteArray} {fr' : ByteArray → Int} {ws' : ByteArray → Nat} (hQ : (y ∈ Q ∧ Q' = Q) ∨ (y ∉ Q ∧ Q' = Q ++ [y])) (hf : ∀ z, askB a b z = true → fr' z = if z = y ∧ fr z < 0 then (d : Int) + 1 else fr z)
    (hw : ∀ z, askB a b z = true → ws' z = if z = y ∧ fr' z = (d : Int) + 1 then sat capN (ws z + ws x) else ws z) : RdSt a b ts s Q' fr' ws' k (j + 1) x d := by
  subst hy
  have hxP := h.bq.allP x (List.mem_of_getElem? h.at_)
  have hfx : fr' x = (d : Int) := by
    rw [hf x hxP, h.fr_]
    split
    · rename_i hc; omega
    · rfl
  refine ⟨h.bq.live (fun _ e he => ?_) h.at_ hj (grfW a b) hs ha (Q' := Q') (fr' := fr') (ws' := ws') ?_ ?_ ?_, ?_, hfx, ?_⟩
  · rw [h.fr_] at he
    obtain rfl : d = e := by omega
    exact h.ws_
  · rcases hQ with ⟨h1, h2⟩ | ⟨h1, h2⟩
    · rw [if_pos h1, h2]
    · rw [if_neg h1, h2]
  · intro z hz
    rw [hf z hz, h.fr_]
  · intro z hz
    rw [hw z hz, h.fr_]
  · rcases hQ with ⟨_, rfl⟩ | ⟨_, rfl⟩
    · exact h.at_
    · rw [List.getElem?_append_left (List.getElem?_eq_some_iff.1 h.at_).1]; exact h.at_
  · rw [hw x hxP, if_neg (fun hc => by rw [hfx] at hc; omega)]
    exact h.ws_

theorem DfSt.setWay {w wr : World} {a b : Int} {gf gw M : Nat} {v : Value} {Q : List ByteArray} {fr : ByteArray → Int} {ws : ByteArray → Nat} (h : DfSt w wr a b gf gw M v Q fr ws) (h1 : w.heap.size < gw) (h2 : gf ≠ gw) {z : ByteArray} {zn nv : Nat} (hz : askB a b z = true) (hzn : nuN a b z = zn) (hM : cnN a b = M) :
    DfSt w (wr.setCell ⟨gw, zn, none⟩ (.int .i64 ((nv : Nat) : Int))) a b gf gw M v Q fr (fun x => if x = z then nv else ws x) := by
  have hlt := nuN_lt hz
  rw [hM, hzn] at hlt
  refine ⟨h.box.far (show gw ≠ w.heap.size by omega) _, h.far.far (show gw ≠ gf by omega) _, (h.way.set_ hlt _).congr fun j hj => ?_, h.q.far (fun e => by have := (h.q.block gw e).1; omega) _, h.bel.setCell (show w.heap.size ≤ gw by omega) _⟩
  have hi := cd_iff (j := j) hz (by rw [hM]; exact hj)
  rw [hzn] at hi
  unfold wayF
  dsimp only
  by_cases e : j = zn
  · rw [if_pos e, if_pos (hi.2 e)]
  · rw [if_neg e, if_neg (fun h => e (hi.1 h))]

theorem DfSt.setFar {w wr : World} {a b : Int} {gf gw M : Nat} {v : Value} {Q : List ByteArray} {fr : ByteArray → Int} {ws : ByteArray → Nat} (h : DfSt w wr a b gf gw M v Q fr ws) (h1 : w.heap.size < gf) (h2 : gf ≠ gw) {z : ByteArray} {zn : Nat} {y : Int} (hz : askB a b z = true) (hzn : nuN a b z = zn) (hM : cnN a b = M) :
    DfSt w (wr.setCell ⟨gf, zn, none⟩ (.int .i64 y)) a b gf gw M v Q (fun x => if x = z then y else fr x) ws := by
  have hlt := nuN_lt hz
  rw [hM, hzn] at hlt
  refine ⟨h.box.far (show gf ≠ w.heap.size by omega) _, (h.far.set_ hlt _).congr fun j hj => ?_, h.way.far (show gf ≠ gw from h2) _, h.q.far (fun e => by have := (h.q.block gf e).1; omega) _, h.bel.setCell (show w.heap.size ≤ gf by omega) _⟩
  have hi := cd_iff (j := j) hz (by rw [hM]; exact hj)
  rw [hzn] at hi
  unfold farF
  dsimp only
  by_cases e : j = zn
  · rw [if_pos e, if_pos (hi.2 e)]
  · rw [if_neg e, if_neg (fun h => e (hi.1 h))]

theorem Cells.grownC {w w' : World} {g n : Nat} {f : Nat → Value} {row : Option Nat} (h : Cells w g n f) (hg : w.grownBy w' row) (hne : some g ≠ row) : Cells w' g n f := by
  have e1 := hg.block g h.lt hne
  exact ⟨Nat.lt_of_lt_of_le h.lt hg.size, fun j hj => by
    have := h.at_ j hj
    rw [World.cell?_of_block (a := ⟨g, j, none⟩) e1, World.frozen?_of_block (a := ⟨g, j, none⟩) e1]; exact this⟩

theorem DfSt.add {w wr w2 : World} {a b : Int} {gf gw M : Nat} {v v2 : Value} {Q Q2 : List ByteArray} {fr : ByteArray → Int} {ws : ByteArray → Nat} (h : DfSt w wr a b gf gw M v Q fr ws) (hgf : w.heap.size < gf) (hg : wr.grownBy w2 v.ownBlock) (hq : QW w2 (max gf gw + 1) v2 Q2) : DfSt w w2 a b gf gw M v2 Q2 fr ws := by
  have hb := h.q.block
  have hne : ∀ g, g ≤ max gf gw → some g ≠ v.ownBlock := fun g hg e => by have := (hb g e.symm).1; omega
  exact ⟨h.box.grownC hg (hne _ (by omega)), h.far.grownC hg (hne _ (by omega)), h.way.grownC hg (hne _ (by omega)), hq, h.bel.grown hg h.bel.size (fun j hj => by have := (hb j hj).1; omega)⟩

/-- Forth and back, as cells. -/
def byF (t : Nat) : Value := .int .i64 (1 - 2 * (t : Int))

theorem by_new {W : World} {t : TypeId} {g : Nat} (hg : g = W.heap.size) : Cells (W.alloc (.cells #[.int .i64 1, .int .i64 (-1)] t)) g 2 byF := by
  subst hg
  refine ⟨by simp, fun j hj => ?_⟩
  rw [World.cell?_alloc_new, World.frozen?_alloc_new]
  refine ⟨?_, rfl⟩
  have : j = 0 ∨ j = 1 := by omega
  rcases this with rfl | rfl <;> rfl

theorem QW.oneT {W : World} {B g : Nat} {x : ByteArray} {t : TypeId} (hg : g = W.heap.size) (hB : B ≤ W.heap.size) : QW (W.alloc (.cells #[.string x] t)) B (.slice (some ⟨g, 0, none⟩) 1 1) [x] := by
  subst hg
  have key : ∀ j, j < 1 → (W.alloc (.cells #[.string x] t)).cell? ⟨W.heap.size, 0 + j, none⟩ = some (txF [x] j) ∧ (W.alloc (.cells #[.string x] t)).frozen? ⟨W.heap.size, 0 + j, none⟩ = false := fun j hj => by
    obtain rfl : j = 0 := by omega
    rw [World.cell?_alloc_new, World.frozen?_alloc_new]
    exact ⟨rfl, rfl⟩
  exact ⟨W.heap.size, 0, 1, rfl, hB, by rw [World.size_alloc]; exact Nat.lt_succ_self _, Nat.le_refl _, fun j hj => ⟨by rw [(key j hj).1]; rfl, (key j hj).2⟩, fun j hj => (key j hj).1⟩

theorem cells_txt {W : World} {x : ByteArray} {t : TypeId} {g : Nat} (hg : g = W.heap.size) : Cells (W.alloc (.cells #[.string x] t)) g 1 (fun _ => .string x) := by
  subst hg
  refine ⟨by simp, fun j hj => ?_⟩
  rw [World.cell?_alloc_new, World.frozen?_alloc_new]
  obtain rfl : j = 0 := by omega
  exact ⟨rfl, rfl⟩

theorem least_sat {x y : Nat} {xi yi : Int} (hx : (x : Int) = xi) (hy : (y : Int) = yi) : lstI (xi + yi) 1000000000000001 = ((sat capN (x + y) : Nat) : Int) := by
  subst hx hy
  unfold lstI sat capN
  by_cases h : x + y ≤ 1000000000000001
  · rw [if_pos h]
    split <;> omega
  · rw [if_neg h, if_neg (by omega)]
    rfl

theorem wayQ_le {α : Type} [DecidableEq α] {mv : α → Nat → α} {m : Nat} {inv : Nat → Nat} {al : α → Bool} {s : α} {cap : Nat} (hc : 1 ≤ cap) (Q : List α) (k j d : Nat) (x : α) : wayQ mv m inv al s cap Q k j d x ≤ cap := by
  cases d with
  | zero =>
    unfold wayQ
    by_cases h : x = s
    · simp [h]; omega
    · simp [h]
  | succ d => exact sat_le _ _

theorem cap_int {n : Nat} (h : n ≤ capN) : (n : Int) ≤ 1000000000000001 := by unfold capN at h; omega

theorem DfSt.dr {w wr : World} {a b : Int} {gf gw M : Nat} {v : Value} {Q : List ByteArray} {fr : ByteArray → Int} {ws : ByteArray → Nat} (h : DfSt w wr a b gf gw M v Q fr ws) (k : Nat) : DfSt w (wr.drewN k).drew a b gf gw M v Q fr ws := h.call (bel_drew (bel_drewN (Below.refl _ _) k))

theorem DfSt.farAt {w wr : World} {a b : Int} {gf gw M : Nat} {v : Value} {Q : List ByteArray} {fr : ByteArray → Int} {ws : ByteArray → Nat} (h : DfSt w wr a b gf gw M v Q fr ws) {z : ByteArray} {zn : Nat} {y : Int} (hz : askB a b z = true) (hzn : nuN a b z = zn) (hM : cnN a b = M) (hy : fr z = y) : wr.cell? ⟨gf, zn, none⟩ = some (.int .i64 y) := by
  have hlt := nuN_lt hz
  rw [hM, hzn] at hlt
  rw [h.far.cell hlt]
  unfold farF
  rw [← hzn, cd_nu hz, hy]

theorem DfSt.wayAt {w wr : World} {a b : Int} {gf gw M : Nat} {v : Value} {Q : List ByteArray} {fr : ByteArray → Int} {ws : ByteArray → Nat} (h : DfSt w wr a b gf gw M v Q fr ws) {z : ByteArray} {zn : Nat} {y : Int} (hz : askB a b z = true) (hzn : nuN a b z = zn) (hM : cnN a b = M) (hy : ((ws z : Nat) : Int) = y) : wr.cell? ⟨gw, zn, none⟩ = some (.int .i64 y) ∧ wr.frozen? ⟨gw, zn, none⟩ = false := by
  have hlt := nuN_lt hz
  rw [hM, hzn] at hlt
  refine ⟨?_, h.way.frozen hlt⟩
  rw [h.way.cell hlt]
  unfold wayF
  rw [← hzn, cd_nu hz, hy]

/-- What is told when the search has come to its end. -/
theorem bq_out {a b : Int} {ts : List ByteArray} {s : ByteArray} {Q : List ByteArray} {fr : ByteArray → Int} {ws : ByteArray → Nat} (h : Bq (mvW b) (2 * a.toNat) ivW (alB a b ts) s (fun x => askB a b x = true) capN Q fr ws Q.length 0) (hs : alB a b ts s = true) {x : ByteArray} (hx : askB a b x = true) : fr x = lvZ a b ts s x ∧ ws x = wsN a b ts s x := by
  obtain ⟨h1, h2⟩ := h.fin (grfW a b) hs (by decide) hx
  rcases lvZ_cases (ts := ts) (s := s) hx with ⟨k, hk, e⟩ | ⟨hz, e⟩
  · obtain ⟨g1, g2⟩ := h1 k hk
    refine ⟨by rw [g1, e], ?_⟩
    unfold wsN
    rw [e, if_neg (by omega), Int.toNat_natCast]
    exact g2
  · obtain ⟨g1, g2⟩ := h2 hz
    refine ⟨by rw [g1, e], ?_⟩
    unfold wsN
    rw [e, if_pos (by omega)]
    exact g2

theorem made_snd (W : World) (o : Obj) (z : Value) (n : Nat) (t : TypeId) : Cells ((W.alloc o).alloc (.cells (madeCells #[z] n) t)) (W.heap.size + 1) n (fun _ => z) := by
  have h := Cells.made (W.alloc o) z n t
  rwa [World.size_alloc] at h

set_option maxRecDepth 100000 in
set_option maxHeartbeats 4000000 in
theorem deFar_any (a b : Int) (A : Option Addr) (n c : Nat) (ts : List ByteArray) (s : ByteArray) (w : World) (hn : n ≤ maxLen) (hA : ArgS w A n ts) (hs : alB a b ts s = true) (hM : cnN a b ≤ 1000) :
    Calls Try.prog 65 #[.agg #[.int .i64 a, .int .i64 b], .slice A n c, .string s] w (FarOut w a b ts s) := by
  have HA := Lib.hid hA
  have HN := Lib.hid hn
  have HAL := Lib.hid hs
  have hask := alB_ask hs
  have HS := Lib.hid hask
  have HG := Lib.hid (asked hask).good
  obtain ⟨M, hMe⟩ : ∃ M, cnN a b = M := ⟨_, rfl⟩
  have HM := Lib.hid hMe
  obtain ⟨an, hae⟩ : ∃ an : Nat, a = an := ⟨a.toNat, by have := good_yes (asked hask).good; omega⟩
  subst hae
  have HPW : Hid (pw b an = (M : Int)) := Lib.hid (by have := cnN_cast HG.out; rw [hMe, Int.toNat_natCast] at this; exact this.symm)
  have hNS := nuN_lt hask
  have HNM := Lib.hid (nuN_cast hask)
  rw [hMe] at hM hNS
  have CU := Lib.hid (box_new (W := w) (a := (an : Int)) (b := b) (t := 28) rfl)
  have HB0 := Lib.hid (show Below w.heap.size w (w.alloc (.cells #[.int .i64 (an : Int), .int .i64 b] 28)) from (Below.refl _ _).alloc (Nat.le_refl _) _)
  have hmk := make_intsM M hM
  clear hA hn hs hask hMe
  go_enter Try.func65, Try.ntmps65
  go_upto_region 1 with fail
  go_cut [8, 9] from 20 to 25 (fun f g wx => ∃ gf gw : Nat, f = .slice (some ⟨gf, 0, none⟩) M M ∧ g = .slice (some ⟨gw, 0, none⟩) M M ∧ w.heap.size < gf ∧ w.heap.size < gw ∧ gf ≠ gw ∧ Cells wx w.heap.size 2 (b2F an b) ∧ Cells wx gf M (fun _ => .int .i64 0) ∧ Cells wx gw M (fun _ => .int .i64 0) ∧ Below w.heap.size w wx)
  case first =>
    have l0 : (w.alloc (.cells #[.int .i64 (an : Int), .int .i64 b] 28)).cell? ⟨w.heap.size, 0, none⟩ = some (.int .i64 (an : Int)) := CU.out.cell (show 0 < 2 by omega)
    have l1 : (w.alloc (.cells #[.int .i64 (an : Int), .int .i64 b] 28)).cell? ⟨w.heap.size, 1, none⟩ = some (.int .i64 b) := CU.out.cell (show 1 < 2 by omega)
    go_region_with (first
      | ((fail_if_success (have := hbA)); go_at_call 78; refine (whCount_any _ _ _ HG.out).mono ?_; rw [HPW.out]; rintro e wA ⟨rfl, hbA⟩; obtain ⟨hc, hf, hz⟩ := bcell hbA; have hz0 : w.heap.size < wA.heap.size := (by (try simp at hz); omega))
      | (go_at_call 78; refine (whCount_any _ _ _ HG.out).mono ?_; rw [HPW.out]; rintro e wB ⟨rfl, hbB⟩; obtain ⟨hc2, hf2, hz2⟩ := bcell hbB; have hz3 : w.heap.size < wB.heap.size := (by (try simp at hz2); omega)))
    all_goals
      have BA := below_undrew hbA
      have CA := CU.out.call BA
      have XA := bel_call HB0.out BA
      clear hc hf hc2 hf2 l0 l1
      go_wp2_with fail
      go_meet
      first
        | exact ⟨_, _, rfl, rfl, hz0, hz3, by have := hbB.size; rw [World.size_alloc] at this; omega, ((CA.alloc _).call hbB).alloc _, ((Cells.made wA _ _ _).call hbB).alloc _, Cells.made wB _ _ _, (bel_call (XA.alloc XA.size _) hbB).alloc (bel_call (XA.alloc XA.size _) hbB).size _⟩
        | exact ⟨_, _, rfl, rfl, hz3, by omega, by omega, ((CA.call hbB).alloc _).alloc _, (Cells.made wB _ _ _).alloc _, made_snd _ _ _ _ _, ((bel_call XA hbB).alloc (bel_call XA hbB).size _).alloc (by rw [World.size_alloc]; have := (bel_call XA hbB).size; omega) _⟩
        | exact ⟨_, _, rfl, rfl, by omega, hz3, by omega, ((CA.call hbB).alloc _).alloc _, made_snd _ _ _ _ _, (Cells.made wB _ _ _).alloc _, ((bel_call XA hbB).alloc (bel_call XA hbB).size _).alloc (by rw [World.size_alloc]; have := (bel_call XA hbB).size; omega) _⟩
  case rest =>
    obtain ⟨gf, gw, rfl, rfl, hgf, hgw, hne, hbx, hf0, hw0, hB⟩ := hcut
    have HBX := Lib.hid hbx
    have HF0 := Lib.hid hf0
    have HW0 := Lib.hid hw0
    have HB := Lib.hid hB
    clear hbx hf0 hw0 hB CU HB0 hmk
    go_wp2_with fail
    go_loopw [28] (fun i wr => ∃ k : Nat, k ≤ M ∧ i = .int .i64 k ∧ Cells wr w.heap.size 2 (b2F an b) ∧ Cells wr gf M (fun j => if j < k then .int .i64 (-1) else .int .i64 0) ∧ Cells wr gw M (fun _ => .int .i64 0) ∧ Below w.heap.size w wr) (fun i _ => M - (intOf i).toNat)
    case atStart => exact ⟨0, by omega, rfl, HBX.out, HF0.out.congr fun j _ => by rw [if_neg (by omega)], HW0.out, HB.out⟩
    case round =>
      clear HBX HF0 HW0 HB
      obtain ⟨k, hk, rfl, hU, hF, hW, hB⟩ := hrel
      have HU := Lib.hid hU
      have HF := Lib.hid hF
      have HW := Lib.hid hW
      have HB := Lib.hid hB
      clear hU hF hW hB
      by_cases hlt : k < M
      · have s1 := HF.out.cell hlt
        have s2 := HF.out.frozen hlt
        rw [if_neg (Nat.lt_irrefl k)] at s1
        go_wp2_with fail
        go_roundw
        case rel =>
          refine ⟨k + 1, by omega, by go_num, HU.out.far (show gf ≠ w.heap.size by omega) _, (HF.out.set_ hlt _).congr fun j _ => ?_, HW.out.far (show gf ≠ gw from hne) _, HB.out.setCell (show w.heap.size ≤ gf by omega) _⟩
          by_cases hj : j = k
          · subst hj
            rw [if_pos rfl, if_pos (by omega)]
          · rw [if_neg hj]
            by_cases h2 : j < k
            · rw [if_pos h2, if_pos (by omega)]
            · rw [if_neg h2, if_neg (by omega)]
        case measure => simp [intOf]; omega
      · obtain rfl : M = k := by omega
        have l0 : wr.cell? ⟨w.heap.size, 0, none⟩ = some (.int .i64 (an : Int)) := HU.out.cell (show 0 < 2 by omega)
        have l1 : wr.cell? ⟨w.heap.size, 1, none⟩ = some (.int .i64 b) := HU.out.cell (show 1 < 2 by omega)
        have HFM := Lib.hid (HF.out.congr (f' := fun _ => .int .i64 (-1)) fun j hj => by rw [if_pos hj])
        obtain ⟨ns, hns⟩ : ∃ ns, nuN an b s = ns := ⟨_, rfl⟩
        have HNS := Lib.hid hns
        have HNV : Hid (numZ an b s = (ns : Int)) := Lib.hid (by rw [← hns]; exact HNM.out.symm)
        rw [hns] at hNS
        clear hns
        go_wp2_with (go_at_call 66; refine (whNumber_any _ _ _ _ HS.out).mono ?_; rw [HNV.out]; rintro e w2 ⟨rfl, hb2⟩
                     have p1 := (HFM.out.call hb2).cell hNS
                     have p2 := (HFM.out.call hb2).frozen hNS
                     have p3 := (HW.out.call hb2).cell hNS
                     have p4 := (HW.out.call hb2).frozen hNS)
        have hgf3 : gf < w2.heap.size := (HFM.out.call hb2).lt
        have hgw3 : gw < w2.heap.size := (HW.out.call hb2).lt
        have han6 : an ≤ 6 := by have := good_yes HG.out; omega
        have ST0 := Lib.hid (show DfSt w (((w2.setCell ⟨gf, ns, none⟩ (.int .i64 0)).setCell ⟨gw, ns, none⟩ (.int .i64 1)).alloc (.cells #[.string s] 9)) an b gf gw M (.slice (some ⟨w2.heap.size, 0, none⟩) 1 1) [s] (fun x => if x = s then 0 else -1) (fun x => if x = s then 1 else 0) from
          ⟨(((HU.out.call hb2).far (show gf ≠ w.heap.size by omega) _).far (show gw ≠ w.heap.size by omega) _).alloc _,
            ((((HFM.out.call hb2).set_ hNS (.int .i64 0)).far (show gw ≠ gf by omega) _).alloc _).congr fun j hj => by
              have hi := cd_iff (j := j) HS.out (by rw [HM.out]; exact hj)
              rw [HNS.out] at hi
              unfold farF
              dsimp only
              by_cases h : j = ns
              · rw [if_pos h, if_pos (hi.2 h)]
              · rw [if_neg h, if_neg (fun e => h (hi.1 e))],
            ((((HW.out.call hb2).far (show gf ≠ gw from hne) _).set_ hNS (.int .i64 1)).alloc _).congr fun j hj => by
              have hi := cd_iff (j := j) HS.out (by rw [HM.out]; exact hj)
              rw [HNS.out] at hi
              unfold wayF
              dsimp only
              by_cases h : j = ns
              · rw [if_pos h, if_pos (hi.2 h)]; rfl
              · rw [if_neg h, if_neg (fun e => h (hi.1 e))]; rfl,
            QW.oneT (by rw [size_setCell, size_setCell]) (by rw [size_setCell, size_setCell]; omega), (((bel_call HB.out hb2).setCell (show w.heap.size ≤ gf by omega) _).setCell (show w.heap.size ≤ gw by omega) _).alloc (by rw [size_setCell, size_setCell]; exact Nat.le_trans HB.out.size hb2.size) _⟩)
        have BQ0 := Lib.hid (bq_start (mv := mvW b) (m := 2 * (an : Int).toNat) (inv := ivW) (al := alB an b ts) (s := s) (P := fun x => askB an b x = true) (cap := capN) HS.out (fun x => if x = s then 0 else -1) (fun x => if x = s then 1 else 0) (fun _ _ => rfl) (fun _ _ => rfl))
        clear p1 p2 p3 p4 hb2 HF HFM HU HB HW l0 l1 hgf3 hgw3 hlt hk
        go_loopw [13, 12] (fun kv v wr => ∃ (k : Nat) (Q : List ByteArray) (fr : ByteArray → Int) (ws : ByteArray → Nat), kv = .int .i64 k ∧ k ≤ Q.length ∧ DfSt w wr an b gf gw M v Q fr ws ∧ Bq (mvW b) (2 * (an : Int).toNat) ivW (alB an b ts) s (fun x => askB an b x = true) capN Q fr ws k 0) (fun kv _ _ => M - (intOf kv).toNat)
        case atStart => exact ⟨0, [s], _, _, rfl, Nat.zero_le _, ST0.out, BQ0.out⟩
        case round =>
          clear ST0 BQ0
          obtain ⟨k, Q, fr, ws, rfl, hk, hS, hQ⟩ := hrel
          obtain ⟨g, off, cq, rfl, q1, q2, q3, q4, q5⟩ := hS.q
          have HBQ := Lib.hid hQ
          have Q5 := Lib.hid q5
          obtain ⟨N, hNe⟩ : ∃ N, Q.length = N := ⟨_, rfl⟩
          have HNE := Lib.hid hNe
          have hNM : N ≤ M := by rw [← hNe, ← HM.out]; exact codes_few hQ.nodup hQ.allP
          rw [hNe] at hk hS ⊢
          have HST := Lib.hid hS
          clear hS hQ q4 q5 hNe q1 q2 q3
          by_cases hlt : k < N
          · obtain ⟨x, hx⟩ : ∃ x, Q[k]? = some x := ⟨_, List.getElem?_eq_getElem (by rw [HNE.out]; exact hlt)⟩
            have HX := Lib.hid hx
            have hxQ := List.mem_of_getElem? hx
            have HPA := Lib.hid (HBQ.out.allP x hxQ)
            have o1 : wr.cell? ⟨g, off + k, none⟩ = some (.string x) := by rw [Q5.out k (by rw [HNE.out]; exact hlt)]; unfold txF; rw [getD_of hx]
            have hpn := nuN_lt HPA.out
            rw [HM.out] at hpn
            obtain ⟨pn, hpne⟩ : ∃ pn, nuN an b x = pn := ⟨_, rfl⟩
            have HPE := Lib.hid hpne
            have HPN : Hid (numZ an b x = (pn : Int)) := Lib.hid (by rw [← hpne]; exact (nuN_cast HPA.out).symm)
            rw [hpne] at hpn
            obtain ⟨d, hd, hwd⟩ := HBQ.out.lev x hxQ
            have hd9 : d ≤ 1000 := by have := wyZ_lt (ts := ts) (s := s) HPA.out hwd; rw [HM.out] at this; omega
            have HRD := Lib.hid (show RdSt an b ts s Q fr ws k 0 x d from ⟨HBQ.out, hx, hd, by rw [HBQ.out.way x d hxQ hd]; exact HBQ.out.whole (grfW an b) HAL.out (by decide) hx hd⟩)
            have l0 : wr.cell? ⟨w.heap.size, 0, none⟩ = some (.int .i64 (an : Int)) := HST.out.box.cell (show 0 < 2 by omega)
            have l1 : wr.cell? ⟨w.heap.size, 1, none⟩ = some (.int .i64 b) := HST.out.box.cell (show 1 < 2 by omega)
            clear hx hxQ hpne hd hwd HBQ
            go_upto_region 14 with fail
            go_cut [14] from 52 to 57 (fun v14 wx => v14 = .int .i64 (pn : Int) ∧ DfSt w wx an b gf gw M (.slice (some ⟨g, off, none⟩) N cq) Q fr ws)
            case first =>
              go_region_with (go_at_call 66; refine (whNumber_any _ _ _ _ HPA.out).mono ?_; rw [HPN.out]; rintro e w3 ⟨rfl, hb3⟩; have hb4 := Lib.hid (below_undrew hb3))
              all_goals
                go_wp2_with fail
                go_meet
                exact ⟨rfl, HST.out.call hb4.out⟩
            case rest =>
              obtain ⟨rfl, hst1⟩ := hcut
              have ST1 := Lib.hid hst1
              clear hst1 l0 l1 o1 Q5 HST
              go_wp2_with fail
              go_loopw [15, 12] (fun iv v wr => ∃ (kk : Nat) (Q : List ByteArray) (fr : ByteArray → Int) (ws : ByteArray → Nat), kk ≤ an ∧ iv = .int .i64 kk ∧ k + 1 ≤ Q.length ∧ DfSt w wr an b gf gw M v Q fr ws ∧ RdSt an b ts s Q fr ws k (2 * kk) x d) (fun iv _ _ => an - (intOf iv).toNat)
              case atStart => exact ⟨0, Q, fr, ws, Nat.zero_le _, rfl, by rw [HNE.out]; omega, ST1.out, HRD.out⟩
              case round =>
                clear ST1 HRD HX
                obtain ⟨kk, Q, fr, ws, hkk, rfl, hkl, hS, hR⟩ := hrel
                have HST := Lib.hid hS
                have HRD := Lib.hid hR
                have l0 : wr.cell? ⟨w.heap.size, 0, none⟩ = some (.int .i64 (an : Int)) := HST.out.box.cell (show 0 < 2 by omega)
                clear hS hR
                by_cases hkl2 : kk < an
                · have HGB := Lib.hid (by_new (W := wr) (t := 3) rfl)
                  have HSTA := Lib.hid (HST.out.call ((Below.refl wr.heap.size wr).alloc (Nat.le_refl _) (.cells #[.int .i64 1, .int .i64 (-1)] 3)))
                  have hgfb : gf < wr.heap.size := HST.out.far.lt
                  have hgwb : gw < wr.heap.size := HST.out.way.lt
                  have hvb : u12.ownBlock ≠ some wr.heap.size := fun e => by have := (HST.out.q.block _ e).2; omega
                  go_wp2_with fail
                  obtain ⟨gb, hgb⟩ : ∃ gb, wr.heap.size = gb := ⟨_, rfl⟩
                  rw [hgb] at HGB hvb hgfb hgwb ⊢
                  clear hgb HST l0
                  go_loopw [66, 12] (fun bv v wr => ∃ (t : Nat) (Q : List ByteArray) (fr : ByteArray → Int) (ws : ByteArray → Nat), t ≤ 2 ∧ bv = .int .i64 t ∧ k + 1 ≤ Q.length ∧ DfSt w wr an b gf gw M v Q fr ws ∧ RdSt an b ts s Q fr ws k (2 * kk + t) x d ∧ Cells wr gb 2 byF ∧ v.ownBlock ≠ some gb) (fun bv _ _ => 2 - (intOf bv).toNat)
                  case atStart => exact ⟨0, Q, fr, ws, by omega, rfl, hkl, HSTA.out, HRD.out, HGB.out, hvb⟩
                  case round =>
                    clear HSTA HRD HGB hvb
                    obtain ⟨t, Q, fr, ws, ht, rfl, hkl, hS, hR, hGB, hvb⟩ := hrel
                    obtain ⟨g2, off2, cq2, rfl, r1, r2, r3, r4, r5⟩ := hS.q
                    have hmem : mvW b x (2 * kk + t) ∈ Q ∨ mvW b x (2 * kk + t) ∉ Q := Classical.em _
                    have HRD := Lib.hid hR
                    have R5 := Lib.hid r5
                    have HGB := Lib.hid hGB
                    obtain ⟨N2, hN2⟩ : ∃ N2, Q.length = N2 := ⟨_, rfl⟩
                    have HN2 := Lib.hid hN2
                    have hN2M : N2 ≤ M := by rw [← hN2, ← HM.out]; exact codes_few hR.bq.nodup hR.bq.allP
                    rw [hN2] at hkl hS ⊢
                    have HST := Lib.hid hS
                    clear hS hR r1 r2 r3 r4 r5 hGB hN2
                    by_cases htl : t < 2
                    · have ht2 : (t : Int) < 2 := by omega
                      have hj : 2 * kk + t < 2 * (an : Int).toNat := by omega
                      have o1 : wr.cell? ⟨g2, off2 + k, none⟩ = some (.string x) := by rw [R5.out k (by rw [HN2.out]; omega)]; unfold txF; rw [getD_of HRD.out.at_]
                      obtain ⟨y, hy⟩ : ∃ y, mvW b x (2 * kk + t) = y := ⟨_, rfl⟩
                      have HY := Lib.hid hy
                      have HYT : Hid (textOf (stepD b (dg x) (kk : Int) (1 - 2 * (t : Int))) = y) := Lib.hid (by rw [← hy]; exact (mvW_two htl).symm)
                      have HYA : Hid (askB an b y = true) := Lib.hid (by rw [← hy]; exact mvW_ask HPA.out hj)
                      have HTB : Hid (turnB (an : Int) (kk : Int) (1 - 2 * (t : Int)) = true) := Lib.hid (by
                        unfold turnB inB
                        rcases (show t = 0 ∨ t = 1 by omega) with rfl | rfl <;> simp <;> omega)
                      have hyn := nuN_lt HYA.out
                      obtain ⟨yn, hyne⟩ : ∃ yn, nuN an b y = yn := ⟨_, rfl⟩
                      have HYE := Lib.hid hyne
                      have HYN : Hid (numZ an b y = (yn : Int)) := Lib.hid (by rw [← hyne]; exact (nuN_cast HYA.out).symm)
                      rw [hyne, HM.out] at hyn
                      rw [hy] at hmem
                      have l0 : wr.cell? ⟨w.heap.size, 0, none⟩ = some (.int .i64 (an : Int)) := HST.out.box.cell (show 0 < 2 by omega)
                      have l1 : wr.cell? ⟨w.heap.size, 1, none⟩ = some (.int .i64 b) := HST.out.box.cell (show 1 < 2 by omega)
                      have b1 : wr.cell? ⟨gb, t, none⟩ = some (.int .i64 (1 - 2 * (t : Int))) := HGB.out.cell htl
                      clear hy hyne R5
                      by_cases hal : alB an b ts y = true
                      · have HAY := Lib.hid hal
                        have HIN : Hid (inS ts y = false) := Lib.hid (by have := HAY.out; rw [alB_of HYA.out] at this; simpa using this)
                        obtain ⟨wx, hwx⟩ : ∃ wx : Int, ((ws x : Nat) : Int) = wx := ⟨_, rfl⟩
                        have HWX := Lib.hid hwx
                        have hwx9 : wx ≤ 1000000000000001 := by rw [← hwx]; exact cap_int (by rw [HRD.out.ws_]; exact sat_le _ _)
                        have hwx0 : 0 ≤ wx := by omega
                        clear hal hwx
                        rcases hmem with hin | hin
                        · obtain ⟨dz, hdz, hwdz⟩ := HRD.out.bq.lev y hin
                          have HDZ := Lib.hid hdz
                          have hdz9 : dz ≤ 1000 := by have := wyZ_lt (ts := ts) (s := s) HYA.out hwdz; rw [HM.out] at this; omega
                          obtain ⟨wz, hwz⟩ : ∃ wz : Int, ((ws y : Nat) : Int) = wz := ⟨_, rfl⟩
                          have HWZ := Lib.hid hwz
                          have hwz9 : wz ≤ 1000000000000001 := by rw [← hwz]; exact cap_int (by rw [HRD.out.bq.way y dz hin hdz]; exact wayQ_le (by decide) _ _ _ _ _)
                          have hwz0 : 0 ≤ wz := by omega
                          have HINQ := Lib.hid hin
                          clear hdz hwdz hwz hin
                          by_cases heq : dz = d + 1
                          · subst heq
                            have HLS : Hid (lstI (wz + wx) 1000000000000001 = ((sat capN (ws y + ws x) : Nat) : Int)) := Lib.hid (least_sat HWZ.out HWX.out)
                            obtain ⟨nv, hnv⟩ : ∃ nv, sat capN (ws y + ws x) = nv := ⟨_, rfl⟩
                            have HNV2 := Lib.hid hnv
                            rw [hnv] at HLS
                            clear hnv
                            go_upto_region 21 with fail
                            go_cut [18] from 70 to 78 (fun v18 wx => v18 = .string y ∧ Below wr.heap.size wr wx)
                            case first =>
                              go_region_with (go_at_call 67; refine (whMake_any _ _ _ _ _ _ HPA.out HTB.out).mono ?_; rw [HYT.out]; rintro e w5 ⟨rfl, hb5⟩; have HB5 := Lib.hid (below_undrew hb5); clear hb5)
                              all_goals
                                go_wp2_with fail
                                (skip)
                                go_meet
                                exact ⟨rfl, HB5.out⟩
                            case rest =>
                              obtain ⟨rfl, hb5⟩ := hcut
                              have HB5 := Lib.hid hb5
                              have m0 : wc.cell? ⟨w.heap.size, 0, none⟩ = some (.int .i64 (an : Int)) := (HST.out.box.call HB5.out).cell (show 0 < 2 by omega)
                              have m1 : wc.cell? ⟨w.heap.size, 1, none⟩ = some (.int .i64 b) := (HST.out.box.call HB5.out).cell (show 1 < 2 by omega)
                              clear hb5 l0 l1 o1 b1
                              go_wp2_with (first
                                | (go_at_call 66; refine (whNumber_any _ _ _ _ HYA.out).mono ?_; rw [HYN.out]; rintro e w6 ⟨rfl, hb6⟩; have ST6 := Lib.hid (HST.out.call (bel_call HB5.out hb6)); have GB6 := Lib.hid (HGB.out.call (bel_call HB5.out hb6)); clear hb6
                                   have z6 := ST6.out.farAt HYA.out HYE.out HM.out HDZ.out
                                   have z7 := ST6.out.farAt HPA.out HPE.out HM.out HRD.out.fr_
                                   have z8 := (ST6.out.wayAt HYA.out HYE.out HM.out HWZ.out).1
                                   have z9 := (ST6.out.wayAt HPA.out HPE.out HM.out HWX.out).1
                                   have z10 := (ST6.out.wayAt HYA.out HYE.out HM.out HWZ.out).2)
                                | (go_at_call 80; refine (l1HasS_any _ _ _ ts _ _ HN.out (HA.out.below ST6.out.bel)).mono ?_; rw [HIN.out]; rintro e w7 ⟨rfl, rfl⟩))
                              go_quiet (fail)
                              go_wp2_with fail
                              have STQ := Lib.hid (ST6.out.call (bel_drewN (Below.refl _ _) nq))
                              have GBQ := Lib.hid (GB6.out.drewN nq)
                              clear z6 z7 z8 z9 z10
                              generalize w6.drewN nq = wq at STQ GBQ ⊢
                              have z8 := (STQ.out.wayAt HYA.out HYE.out HM.out HWZ.out).1
                              have z9 := (STQ.out.wayAt HPA.out HPE.out HM.out HWX.out).1
                              have z10 := (STQ.out.wayAt HYA.out HYE.out HM.out HWZ.out).2
                              have hsum : IntKind.i64.wrap (wz + wx) = wz + wx := IntWalk.i64_in _ (by omega)
                              refine wp_region_still_tail 13 (by kernel_rfl) (by kernel_rfl) ?_
                              simp only [List.take_succ_cons, List.take_zero, List.drop_succ_cons, List.drop_zero]
                              repeat still_step
                              still_call ((l1Least_any _ _ _).mono fun _ _ h => ⟨h.1.trans (congrArg (fun z => Ending.returned (.int .i64 z)) HLS.out), h.2.symm⟩)
                              repeat still_step
                              refine wpStill_nil ?_
                              change wpList _ _ _ _ _ wq.drew
                              clear hsum
                              go_wp2_with fail
                              go_roundw
                              case rel => exact ⟨t + 1, Q, fr, _, by omega, by go_num, by rw [HN2.out]; exact hkl, (STQ.out.call (bel_drew (Below.refl _ _))).setWay hgw hne HYA.out HYE.out HM.out, by
                                rw [show 2 * kk + (t + 1) = 2 * kk + t + 1 by omega]
                                refine HRD.out.live HAL.out hj HY.out HAY.out (.inl ⟨HINQ.out, rfl⟩) (fun z _ => ?_) (fun z _ => ?_)
                                · rw [if_neg (fun hc => by have h1 := hc.2; rw [hc.1, HDZ.out] at h1; omega)]
                                · (try dsimp only)
                                  by_cases h : z = y
                                  · subst h
                                    rw [if_pos rfl, if_pos ⟨rfl, by rw [HDZ.out]; omega⟩, HNV2.out]
                                  · rw [if_neg h, if_neg (fun hc => h hc.1)], (GBQ.out.drew).far (show gw ≠ gb by omega) _, hvb⟩
                              case measure => simp [intOf]; omega
                          · have hnq : ((dz : Int) == (d : Int) + 1) = false := by rw [beq_eq_false_iff_ne]; omega
                            go_upto_region 21 with fail
                            go_cut [18] from 70 to 78 (fun v18 wx => v18 = .string y ∧ Below wr.heap.size wr wx)
                            case first =>
                              go_region_with (go_at_call 67; refine (whMake_any _ _ _ _ _ _ HPA.out HTB.out).mono ?_; rw [HYT.out]; rintro e w5 ⟨rfl, hb5⟩; have HB5 := Lib.hid (below_undrew hb5); clear hb5)
                              all_goals
                                go_wp2_with fail
                                go_meet
                                exact ⟨rfl, HB5.out⟩
                            case rest =>
                              obtain ⟨rfl, hb5⟩ := hcut
                              have HB5 := Lib.hid hb5
                              have m0 : wc.cell? ⟨w.heap.size, 0, none⟩ = some (.int .i64 (an : Int)) := (HST.out.box.call HB5.out).cell (show 0 < 2 by omega)
                              have m1 : wc.cell? ⟨w.heap.size, 1, none⟩ = some (.int .i64 b) := (HST.out.box.call HB5.out).cell (show 1 < 2 by omega)
                              clear hb5 l0 l1 o1 b1
                              go_wp2_with (first
                                | (go_at_call 66; refine (whNumber_any _ _ _ _ HYA.out).mono ?_; rw [HYN.out]; rintro e w6 ⟨rfl, hb6⟩; have ST6 := Lib.hid (HST.out.call (bel_call HB5.out hb6)); have GB6 := Lib.hid (HGB.out.call (bel_call HB5.out hb6)); clear hb6
                                   have z6 := ST6.out.farAt HYA.out HYE.out HM.out HDZ.out
                                   have z7 := ST6.out.farAt HPA.out HPE.out HM.out HRD.out.fr_)
                                | (go_at_call 80; refine (l1HasS_any _ _ _ ts _ _ HN.out (HA.out.below ST6.out.bel)).mono ?_; rw [HIN.out]; rintro e w7 ⟨rfl, rfl⟩))
                              go_quiet (fail)
                              go_wp2_with fail
                              go_roundw
                              case rel => exact ⟨t + 1, Q, fr, ws, by omega, by go_num, by rw [HN2.out]; exact hkl, ST6.out.call (bel_drewN (Below.refl _ _) _), by
                                rw [show 2 * kk + (t + 1) = 2 * kk + t + 1 by omega]
                                refine HRD.out.live HAL.out hj HY.out HAY.out (.inl ⟨HINQ.out, rfl⟩) (fun z _ => ?_) (fun z _ => ?_)
                                · rw [if_neg (fun hc => by have h1 := hc.2; rw [hc.1, HDZ.out] at h1; omega)]
                                · rw [if_neg (fun hc => by have h1 := hc.2; rw [hc.1, HDZ.out] at h1; omega)], GB6.out.drewN _, hvb⟩
                              case measure => simp [intOf]; omega
                        · obtain ⟨ho1, ho2⟩ := HRD.out.bq.out y HYA.out hin
                          have HO1 := Lib.hid ho1
                          have HO2 := Lib.hid ho2
                          have HINQ := Lib.hid hin
                          have HXY : Hid (x ≠ y) := Lib.hid (fun e => hin (e ▸ List.mem_of_getElem? HRD.out.at_))
                          have HLS : Hid (lstI wx 1000000000000001 = ((sat capN (ws y + ws x) : Nat) : Int)) := Lib.hid (by rw [← least_sat (xi := 0) (by rw [ho2]; rfl) HWX.out, Int.zero_add])
                          obtain ⟨nv, hnv⟩ : ∃ nv, sat capN (ws y + ws x) = nv := ⟨_, rfl⟩
                          have HNV2 := Lib.hid hnv
                          rw [hnv] at HLS
                          clear ho1 ho2 hin hnv
                          go_upto_region 21 with fail
                          go_cut [18] from 70 to 78 (fun v18 wx => v18 = .string y ∧ Below wr.heap.size wr wx)
                          case first =>
                            go_region_with (go_at_call 67; refine (whMake_any _ _ _ _ _ _ HPA.out HTB.out).mono ?_; rw [HYT.out]; rintro e w5 ⟨rfl, hb5⟩; have HB5 := Lib.hid (below_undrew hb5); clear hb5)
                            all_goals
                              go_wp2_with fail
                              go_meet
                              exact ⟨rfl, HB5.out⟩
                          case rest =>
                            obtain ⟨rfl, hb5⟩ := hcut
                            have HB5 := Lib.hid hb5
                            have m0 : wc.cell? ⟨w.heap.size, 0, none⟩ = some (.int .i64 (an : Int)) := (HST.out.box.call HB5.out).cell (show 0 < 2 by omega)
                            have m1 : wc.cell? ⟨w.heap.size, 1, none⟩ = some (.int .i64 b) := (HST.out.box.call HB5.out).cell (show 1 < 2 by omega)
                            clear hb5 l0 l1 o1 b1
                            go_wp2_with (first
                              | (go_at_call 66; refine (whNumber_any _ _ _ _ HYA.out).mono ?_; rw [HYN.out]; rintro e w6 ⟨rfl, hb6⟩; have ST6 := Lib.hid (HST.out.call (bel_call HB5.out hb6)); have GB6 := Lib.hid (HGB.out.call (bel_call HB5.out hb6)); clear hb6
                                 have z6 := ST6.out.farAt HYA.out HYE.out HM.out HO1.out
                                 have z7 := ST6.out.farAt HPA.out HPE.out HM.out HRD.out.fr_
                                 have z11 := ST6.out.far.frozen (show yn < M from hyn)
                                 have hgf6 : gf < w6.heap.size := ST6.out.far.lt
                                 have hgw6 : gw < w6.heap.size := ST6.out.way.lt
                                 have STG := Lib.hid ((ST6.out.setFar hgf hne HYA.out HYE.out HM.out (y := (d : Int) + 1)).call ((Below.refl _ _).alloc (Nat.le_refl _) (.cells #[.string y] 9))))
                              | (go_at_call 80; refine (l1HasS_any _ _ _ ts _ _ HN.out (HA.out.below ST6.out.bel)).mono ?_; rw [HIN.out]; rintro e w7 ⟨rfl, rfl⟩)
                              | (at_builtin; refine wpList_append_qw rfl _ _ rfl (max gf gw + 1) w6.heap.size _ Q y rfl STG.out.q (by rw [HN2.out]; omega) rfl (cells_txt (by rw [size_setCell])) (by rw [World.size_alloc, size_setCell]; omega) ?_; intro v7 w7 hq7 hg7 hblk7))
                            have ST7 := Lib.hid (STG.out.add hgf hg7 hq7)
                            have GB7 := Lib.hid (((GB6.out.far (show gf ≠ gb by omega) (.int .i64 ((d : Int) + 1))).alloc (.cells #[.string y] 9)).grownC hg7 (fun e => hvb e.symm))
                            have hvb7 : v7.ownBlock ≠ some gb := by
                              have hlt6 := GB6.out.lt
                              rcases hblk7 with e | e
                              · rw [e]; exact hvb
                              · rw [e]; intro h; injection h with h; rw [World.size_alloc, size_setCell] at h; omega
                            clear hq7 hg7 hblk7 STG z6 z7 z11
                            have z6 := ST7.out.farAt HYA.out HYE.out HM.out (y := (d : Int) + 1) (if_pos rfl)
                            have z7 := ST7.out.farAt HPA.out HPE.out HM.out (y := (d : Int)) ((if_neg HXY.out).trans HRD.out.fr_)
                            have z8 := (ST7.out.wayAt HYA.out HYE.out HM.out (y := 0) (by rw [HO2.out]; rfl)).1
                            have z9 := (ST7.out.wayAt HPA.out HPE.out HM.out HWX.out).1
                            have z10 := (ST7.out.wayAt HYA.out HYE.out HM.out (y := 0) (by rw [HO2.out]; rfl)).2
                            go_quiet (fail)
                            go_wp2_with fail
                            have STQ := Lib.hid (ST7.out.call (bel_drewN (Below.refl _ _) nq))
                            have GBQ := Lib.hid (GB7.out.drewN nq)
                            clear z6 z7 z8 z9 z10
                            generalize w7.drewN nq = wq at STQ GBQ ⊢
                            have z8 := (STQ.out.wayAt HYA.out HYE.out HM.out (y := 0) (by rw [HO2.out]; rfl)).1
                            have z9 := (STQ.out.wayAt HPA.out HPE.out HM.out HWX.out).1
                            have z10 := (STQ.out.wayAt HYA.out HYE.out HM.out (y := 0) (by rw [HO2.out]; rfl)).2
                            have hsum : IntKind.i64.wrap wx = wx := IntWalk.i64_in _ (by omega)
                            refine wp_region_still_tail 13 (by kernel_rfl) (by kernel_rfl) ?_
                            simp only [List.take_succ_cons, List.take_zero, List.drop_succ_cons, List.drop_zero]
                            repeat still_step
                            still_call ((l1Least_any _ _ _).mono fun _ _ h => ⟨h.1.trans (congrArg (fun z => Ending.returned (.int .i64 z)) HLS.out), h.2.symm⟩)
                            repeat still_step
                            refine wpStill_nil ?_
                            change wpList _ _ _ _ _ wq.drew
                            clear hsum
                            go_wp2_with fail
                            go_roundw
                            case rel => exact ⟨t + 1, Q ++ [y], _, _, by omega, by go_num, by rw [List.length_append, HN2.out]; omega, (STQ.out.call (bel_drew (Below.refl _ _))).setWay hgw hne HYA.out HYE.out HM.out, by
                              rw [show 2 * kk + (t + 1) = 2 * kk + t + 1 by omega]
                              refine HRD.out.live HAL.out hj HY.out HAY.out (.inr ⟨HINQ.out, rfl⟩) (fun z _ => ?_) (fun z _ => ?_)
                              · (try dsimp only)
                                by_cases h : z = y
                                · subst h
                                  rw [if_pos rfl, if_pos ⟨rfl, by rw [HO1.out]; omega⟩]
                                · rw [if_neg h, if_neg (fun hc => h hc.1)]
                              · (try dsimp only)
                                by_cases h : z = y
                                · subst h
                                  rw [if_pos rfl, if_pos ⟨rfl, if_pos rfl⟩, HNV2.out]
                                · rw [if_neg h, if_neg (fun hc => h hc.1)], (GBQ.out.drew).far (show gw ≠ gb by omega) _, hvb7⟩
                            case measure => simp [intOf]; omega
                      · have HAY := Lib.hid (Bool.eq_false_iff.2 hal)
                        have HIN : Hid (inS ts y = true) := Lib.hid (by have := HAY.out; rw [alB_of HYA.out] at this; simpa using this)
                        clear hal hmem
                        go_upto_region 21 with fail
                        go_cut [18] from 70 to 78 (fun v18 wx => v18 = .string y ∧ Below wr.heap.size wr wx)
                        case first =>
                          go_region_with (go_at_call 67; refine (whMake_any _ _ _ _ _ _ HPA.out HTB.out).mono ?_; rw [HYT.out]; rintro e w5 ⟨rfl, hb5⟩; have HB5 := Lib.hid (below_undrew hb5); clear hb5)
                          all_goals
                            go_wp2_with fail
                            (skip)
                            go_meet
                            exact ⟨rfl, HB5.out⟩
                        case rest =>
                          obtain ⟨rfl, hb5⟩ := hcut
                          have HB5 := Lib.hid hb5
                          have m0 : wc.cell? ⟨w.heap.size, 0, none⟩ = some (.int .i64 (an : Int)) := (HST.out.box.call HB5.out).cell (show 0 < 2 by omega)
                          have m1 : wc.cell? ⟨w.heap.size, 1, none⟩ = some (.int .i64 b) := (HST.out.box.call HB5.out).cell (show 1 < 2 by omega)
                          clear hb5 l0 l1 o1 b1
                          go_wp2_with (first
                            | (go_at_call 66; refine (whNumber_any _ _ _ _ HYA.out).mono ?_; rw [HYN.out]; rintro e w6 ⟨rfl, hb6⟩; have ST6 := Lib.hid (HST.out.call (bel_call HB5.out hb6)); have GB6 := Lib.hid (HGB.out.call (bel_call HB5.out hb6)); clear hb6)
                            | (go_at_call 80; refine (l1HasS_any _ _ _ ts _ _ HN.out (HA.out.below ST6.out.bel)).mono ?_; rw [HIN.out]; rintro e w7 ⟨rfl, rfl⟩))
                          go_roundw
                          case rel => exact ⟨t + 1, Q, fr, ws, by omega, by go_num, by rw [HN2.out]; exact hkl, ST6.out, by rw [show 2 * kk + (t + 1) = 2 * kk + t + 1 by omega]; exact HRD.out.dead HAL.out hj (by rw [HY.out]; exact HAY.out), GB6.out, hvb⟩
                          case measure => simp [intOf]; omega
                    · obtain rfl : t = 2 := by omega
                      go_wp2_with fail
                      go_roundw
                      case rel => exact ⟨kk + 1, Q, fr, ws, by omega, by go_num, by rw [HN2.out]; exact hkl, HST.out, by rw [show 2 * (kk + 1) = 2 * kk + 2 by omega]; exact HRD.out⟩
                      case measure => simp [intOf]; omega
                · obtain rfl : kk = an := by omega
                  go_wp2_with fail
                  go_roundw
                  case rel => exact ⟨k + 1, Q, fr, ws, by go_num, hkl, HST.out, by
                    have h := HRD.out.bq
                    rw [show 2 * kk = 2 * (kk : Int).toNat by omega] at h
                    exact h.next HRD.out.at_ (grfW kk b)⟩
                  case measure => simp [intOf]; omega
          · obtain rfl : k = N := by omega
            go_wp2_with fail
            go_ret2
            have h := HBQ.out
            rw [← HNE.out] at h
            refine ⟨gf, gw, by rw [HM.out]; rfl, by omega, by omega, ?_, ?_, HST.out.bel⟩
            · rw [HM.out]
              exact HST.out.far.congr fun j hj => by unfold farF; rw [(bq_out h HAL.out (cd_ask HG.out)).1]
            · rw [HM.out]
              exact HST.out.way.congr fun j hj => by unfold wayF; rw [(bq_out h HAL.out (cd_ask HG.out)).2]

end Go.Proofs.Ytilnjlcljjpnmaa
