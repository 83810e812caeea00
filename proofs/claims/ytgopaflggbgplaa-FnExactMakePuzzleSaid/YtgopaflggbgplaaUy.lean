/- Puzzles made by numbers, as both programs make them. For texts of any length; the clues that are asked for at most six. -/
import Derived.Test.YtgopaflggbgplaaUq
import Derived.Deep.RegionHeld3
namespace Go.Proofs.Ytgopaflggbgplaa
set_option maxRecDepth 100000
open Go.ChangeShapes Go.WideShapes Go.ChangeAt Go.RowKit Go.Joins

/-- A puzzle handed back with yes or no. -/
def PzOut (w : World) (a b : Int) (cs : List Clu) (ok : Bool) (e : Ending) (w' : World) : Prop :=
  ∃ A c, e = .returned (.tuple #[.agg #[.int .i64 a, .int .i64 b, .slice A cs.length c], .bool ok]) ∧ KC w' w.heap.size w'.heap.size A cs.length (cluF cs) ∧ Below w.heap.size w w'

theorem pz_none {w w' : World} (hb : Below w.heap.size w w') : PzOut w 0 0 [] false (.returned (.tuple #[.agg #[.int .i64 0, .int .i64 0, .slice none 0 0], .bool false])) w' := ⟨none, 0, rfl, .inl rfl, hb⟩

theorem eqKC_any (a b : Int) (A1 A2 : Option Addr) (c1 c2 lo1 hi1 lo2 hi2 : Nat) (cs : List Clu) (w : World) (hm : cs.length ≤ 1048576) (h1 : KC w lo1 hi1 A1 cs.length (cluF cs)) (h2 : KC w lo2 hi2 A2 cs.length (cluF cs)) :
    Calls Try.prog 11 #[.agg #[.int .i64 a, .int .i64 b, .slice A1 cs.length c1], .agg #[.int .i64 a, .int .i64 b, .slice A2 cs.length c2]] w fun e w' => e = .returned (.bool true) ∧ Below w.heap.size w w' :=
  eqPuzzle_any a b A1 A2 cs.length c1 c2 cs w hm h1.argC h2.argC

/-- A clue's cells. -/
def g3C (k x y : Int) (j : Nat) : Value := (#[.int .i64 k, .int .i64 x, .int .i64 y] : Array Value).toList.getD j undef

theorem news_c {W : World} {g : Nat} {k x y : Int} (h : Cells W g 3 (g3C k x y)) : ∀ j u, ([.int .i64 k, .int .i64 x, .int .i64 y] : List Value)[j]? = some u → W.cell? ((⟨g, 0, none⟩ : Addr).add j) = some u := by
  intro j u hj
  rw [show (⟨g, 0, none⟩ : Addr).add j = ⟨g, j, none⟩ by unfold Addr.add; split <;> simp_all]
  rcases j with _ | _ | _ | j
  · cases hj; exact h.cell (show 0 < 3 by omega)
  · cases hj; exact h.cell (show 1 < 3 by omega)
  · cases hj; exact h.cell (show 2 < 3 by omega)
  · simp at hj

theorem one_c (k x y : Int) : ∀ u ∈ ([.int .i64 k, .int .i64 x, .int .i64 y] : List Value), u.oneCell' = true := by
  intro u hu
  simp only [List.mem_cons, List.mem_nil_iff, or_false] at hu
  rcases hu with rfl | rfl | rfl <;> rfl

theorem cv_snoc (cs : List Clu) (c : Clu) : cv cs ++ [.int .i64 c.1, .int .i64 c.2.1, .int .i64 c.2.2] = cv (cs ++ [c]) := by rw [cv_app]; rfl

theorem Cells.keptC {w w' : World} {g n : Nat} {f : Nat → Value} {row : Option Nat} (h : Cells w g n f) (hg : w.grownBy w' row) (hne : row ≠ some g) : Cells w' g n f := by
  have e1 := hg.block g h.lt (fun e => hne e.symm)
  exact ⟨Nat.lt_of_lt_of_le h.lt hg.size, fun j hj => by
    have := h.at_ j hj
    rw [World.cell?_of_block (a := ⟨g, j, none⟩) e1, World.frozen?_of_block (a := ⟨g, j, none⟩) e1]; exact this⟩

/-- The next number. -/
def nxZ (z : Int) : Int := (z * 173 + 2633) % 10007

theorem nxZ_bd (z : Int) : 0 ≤ nxZ z ∧ nxZ z ≤ 10006 := by unfold nxZ; omega

/-- What a clue of a kind asks for, made of a number. -/
def mkX (a b k z : Int) : Int := if k = 0 then z % a else if k = 4 then z % 8 + 2 else z % countZ a b

/-- The numbers and the clues behind so many steps. -/
def mkN (a b : Int) (s : ByteArray) (z0 : Int) : Nat → Int × List Clu
  | 0 => (z0, [])
  | k + 1 => if nxZ (mkN a b s z0 k).1 % 5 = 1 then (nxZ (mkN a b s z0 k).1, (mkN a b s z0 k).2 ++ [clK a b 1 0 s])
      else (nxZ (nxZ (mkN a b s z0 k).1), (mkN a b s z0 k).2 ++ [clK a b (nxZ (mkN a b s z0 k).1 % 5) (mkX a b (nxZ (mkN a b s z0 k).1 % 5) (nxZ (nxZ (mkN a b s z0 k).1))) s])

theorem mkN_bd (a b : Int) (s : ByteArray) (z0 : Int) (h0 : 0 ≤ z0 ∧ z0 ≤ 10006) (k : Nat) : 0 ≤ (mkN a b s z0 k).1 ∧ (mkN a b s z0 k).1 ≤ 10006 := by
  induction k with
  | zero => exact h0
  | succ k ih =>
    rw [mkN]
    split <;> exact nxZ_bd _

theorem mkN_length (a b : Int) (s : ByteArray) (z0 : Int) (k : Nat) : (mkN a b s z0 k).2.length = k := by
  induction k with
  | zero => rfl
  | succ k ih =>
    rw [mkN]
    split <;> rw [List.length_append, ih] <;> rfl

/-- Whether a puzzle can be made, and the puzzle. -/
def mpB (a b : Int) (s : ByteArray) (n q : Int) : Bool := puzB a b && isCodeB a b s && inB n 0 6 && inB q 0 9999
def mpA (a b : Int) (s : ByteArray) (n q x : Int) : Int := if mpB a b s n q then x else 0
def mpZ (a b : Int) (s : ByteArray) (n q : Int) : List Clu := if mpB a b s n q then (mkN a b s q n.toNat).2 else []

theorem mpZ_size (a b : Int) (s : ByteArray) (n q : Int) : (mpZ a b s n q).length ≤ 6 := by
  unfold mpZ
  split
  · rename_i h
    unfold mpB at h
    simp only [Bool.and_eq_true] at h
    have := inB_yes h.1.2
    rw [mkN_length]
    omega
  · simp

theorem mp_no {a b : Int} {s : ByteArray} {n q : Int} (h : puzB a b = false ∨ isCodeB a b s = false ∨ inB n 0 6 = false ∨ inB q 0 9999 = false) : mpB a b s n q = false := by
  unfold mpB
  rcases h with h | h | h | h <;> rw [h] <;> simp

theorem mkX_ask {a b k z : Int} (hp : puzB a b = true) (hk : k = 0 ∨ k = 2 ∨ k = 3 ∨ k = 4) : askC a b k (mkX a b k z) = true := by
  have hg := good_yes (puzB_yes hp).1
  have hc := (puzB_cn hp).1
  have hc1 : 1 ≤ countZ a b := by
    obtain ⟨n, rfl⟩ : ∃ n : Nat, a = n := ⟨a.toNat, by omega⟩
    rw [countZ_yes (puzB_yes hp).1]
    have := (pw_bd6 (b := b) (by omega) (by omega) (k := n) (by omega)).1
    omega
  have m1 := Int.emod_nonneg z (show a ≠ 0 by omega)
  have m2 := Int.emod_lt_of_pos z (show 0 < a by omega)
  have m3 := Int.emod_nonneg z (show countZ a b ≠ 0 by omega)
  have m4 := Int.emod_lt_of_pos z (show 0 < countZ a b by omega)
  rcases hk with rfl | rfl | rfl | rfl
  · show inB (mkX a b 0 z) 0 (a - 1) = true
    unfold mkX
    rw [if_pos rfl]
    exact decide_eq_true ⟨m1, by omega⟩
  · show inB (mkX a b 2 z) 0 (countZ a b - 1) = true
    unfold mkX
    rw [if_neg (by decide), if_neg (by decide)]
    exact decide_eq_true ⟨m3, by omega⟩
  · show inB (mkX a b 3 z) 0 (countZ a b - 1) = true
    unfold mkX
    rw [if_neg (by decide), if_neg (by decide)]
    exact decide_eq_true ⟨m3, by omega⟩
  · show inB (mkX a b 4 z) 2 9 = true
    unfold mkX
    rw [if_neg (by decide), if_pos rfl]
    exact decide_eq_true ⟨by omega, by omega⟩

theorem pzNext_any (z : Int) (w : World) (h0 : 0 ≤ z) (h1 : z ≤ 10006) :
    Calls Try.prog 38 #[.int .i64 z] w fun e w' => e = .returned (.int .i64 (nxZ z)) ∧ w' = w := by
  have hw1 : IntKind.i64.wrap (173 * z) = 173 * z := by rw [IntKind.wrap_i64]; omega
  have hw2 : IntKind.i64.wrap (173 * z + 2633) = 173 * z + 2633 := by rw [IntKind.wrap_i64]; omega
  have h3 : 0 ≤ 173 * z + 2633 := by omega
  go_enter Try.func38, Try.ntmps38
  go_wp2_with fail
  go_ret
  exact ⟨by unfold nxZ; rw [Int.mul_comm z 173]; rfl, rfl⟩

theorem next_any (p : Addr) (z : Int) (w : World) (h0 : 0 ≤ z) (h1 : z ≤ 10006) (hc : w.cell? p = some (.int .i64 z)) (hz : w.frozen? p = false) :
    Calls Try.prog 59 #[.pointer (some p)] w fun e w' => e = .returned (.int .i64 (nxZ z)) ∧ w' = w.setCell p (.int .i64 (nxZ z)) := by
  have hw1 : IntKind.i64.wrap (z * 173) = z * 173 := by rw [IntKind.wrap_i64]; omega
  have hw2 : IntKind.i64.wrap (z * 173 + 2633) = z * 173 + 2633 := by rw [IntKind.wrap_i64]; omega
  have h3 : 0 ≤ z * 173 + 2633 := by omega
  go_enter Try.func59, Try.ntmps59
  go_wp2_with fail
  go_ret
  exact ⟨rfl, rfl⟩

theorem numbersBehind_any (z : Int) (w : World) :
    Calls Try.prog 43 #[.int .i64 z] w fun e w' => e = .returned (.func (.func 59) #[] #[.pointer (some ⟨w.heap.size, 0, none⟩)]) ∧ w' = w.alloc (.cells #[.int .i64 z] 3) := by
  have hmf : ∀ (fn : Fn) (first cap : Array Value) (w : World), (Instr.makeFunc fn first cap).run Try.prog w = .ok (.func fn first cap) w := fun _ _ _ _ => rfl
  go_enter Try.func43, Try.ntmps43
  go_wp2_with fail
  go_ret
  exact ⟨rfl, rfl⟩

theorem askedBy_any (a b k z : Int) (w : World) (hp : puzB a b = true) (hk : k = 0 ∨ k = 2 ∨ k = 3 ∨ k = 4) (h0 : 0 ≤ z) (h1 : z ≤ 10006) :
    Calls Try.prog 44 #[.agg #[.int .i64 a, .int .i64 b], .int .i64 k, .int .i64 z] w fun e w' => e = .returned (.int .i64 (mkX a b k z)) ∧ Below w.heap.size w w' := by
  have hg := good_yes (puzB_yes hp).1
  have ha0 : ¬ a = 0 := by omega
  have ha1 : 0 < a := by omega
  have HG := Lib.hid (puzB_yes hp).1
  rcases hk with rfl | hk | hk | rfl
  · go_enter Try.func44, Try.ntmps44
    go_wp2_with fail
    go_ret
    exact ⟨by unfold mkX; rw [if_pos rfl]; rfl, by (repeat (first | assumption | exact Below.refl _ _ | (refine Below.alloc ?_ (by first | omega | (simp; done) | (simp; omega)) _) | (refine Below.setCell ?_ (by first | omega | (simp; done) | (simp; omega)) _) | refine bel_drewN ?_ _ | refine bel_drew ?_ | (refine bel_call ?_ (by assumption))))⟩
  · subst hk
    obtain ⟨c, hc⟩ : ∃ c, countZ a b = c := ⟨_, rfl⟩
    have HC := Lib.hid hc
    have hc1 : 0 < c := by
      obtain ⟨n, rfl⟩ : ∃ n : Nat, a = n := ⟨a.toNat, by omega⟩
      rw [← hc, countZ_yes HG.out]
      have := (pw_bd6 (b := b) (by omega) (by omega) (k := n) (by omega)).1
      omega
    have hc0 : ¬ c = 0 := by omega
    clear hc hg hp
    go_enter Try.func44, Try.ntmps44
    go_wp2_with (go_at_call 51; refine (count_any _ _ _).mono ?_; rw [HC.out, HG.out]; rintro e w1 ⟨rfl, hb⟩; obtain ⟨hc, hf, hz⟩ := bcell hb; have hz0 : w.heap.size < w1.heap.size := by (try simp at hz); omega)
    go_ret
    exact ⟨by unfold mkX; rw [if_neg (by decide), if_neg (by decide), HC.out]; rfl, by (repeat (first | assumption | exact Below.refl _ _ | (refine Below.alloc ?_ (by first | omega | (simp; done) | (simp; omega)) _) | (refine Below.setCell ?_ (by first | omega | (simp; done) | (simp; omega)) _) | refine bel_drewN ?_ _ | refine bel_drew ?_ | (refine bel_call ?_ (by assumption))))⟩
  · subst hk
    obtain ⟨c, hc⟩ : ∃ c, countZ a b = c := ⟨_, rfl⟩
    have HC := Lib.hid hc
    have hc1 : 0 < c := by
      obtain ⟨n, rfl⟩ : ∃ n : Nat, a = n := ⟨a.toNat, by omega⟩
      rw [← hc, countZ_yes HG.out]
      have := (pw_bd6 (b := b) (by omega) (by omega) (k := n) (by omega)).1
      omega
    have hc0 : ¬ c = 0 := by omega
    clear hc hg hp
    go_enter Try.func44, Try.ntmps44
    go_wp2_with (go_at_call 51; refine (count_any _ _ _).mono ?_; rw [HC.out, HG.out]; rintro e w1 ⟨rfl, hb⟩; obtain ⟨hc, hf, hz⟩ := bcell hb; have hz0 : w.heap.size < w1.heap.size := by (try simp at hz); omega)
    go_ret
    exact ⟨by unfold mkX; rw [if_neg (by decide), if_neg (by decide), HC.out]; rfl, by (repeat (first | assumption | exact Below.refl _ _ | (refine Below.alloc ?_ (by first | omega | (simp; done) | (simp; omega)) _) | (refine Below.setCell ?_ (by first | omega | (simp; done) | (simp; omega)) _) | refine bel_drewN ?_ _ | refine bel_drew ?_ | (refine bel_call ?_ (by assumption))))⟩
  · have hm : 0 ≤ z % 8 ∧ z % 8 ≤ 7 := by omega
    have hw : IntKind.i64.wrap (z % 8 + 2) = z % 8 + 2 := by rw [IntKind.wrap_i64]; omega
    go_enter Try.func44, Try.ntmps44
    go_wp2_with fail
    go_ret
    exact ⟨by unfold mkX; rw [if_neg (by decide), if_pos rfl]; rfl, by (repeat (first | assumption | exact Below.refl _ _ | (refine Below.alloc ?_ (by first | omega | (simp; done) | (simp; omega)) _) | (refine Below.setCell ?_ (by first | omega | (simp; done) | (simp; omega)) _) | refine bel_drewN ?_ _ | refine bel_drew ?_ | (refine bel_call ?_ (by assumption))))⟩

def g2L (a b : Int) (j : Nat) : Value := (#[.int .i64 a, .int .i64 b] : Array Value).toList.getD j undef

/-- A lock in a box and an empty answer in the next block. -/
structure PLB (w : World) (a b : Int) (W : World) : Prop where
  p : Cells W w.heap.size 2 (g2L a b)
  r : Cells W (w.heap.size + 1) 3 (g3F 0 0 (.slice none 0 0))
  bel : Below w.heap.size w W
  size : w.heap.size + 2 ≤ W.heap.size

theorem PLB.call {w W W' : World} {a b : Int} (h : PLB w a b W) (hb : Below W.heap.size W W') : PLB w a b W' :=
  ⟨h.p.call hb, h.r.call hb, bel_call h.bel hb, Nat.le_trans h.size hb.size⟩

theorem PLB.belowB {w W W' : World} {a b : Int} {B : Nat} (h : PLB w a b W) (hb : Below B W W') (hB : w.heap.size + 2 ≤ B) : PLB w a b W' :=
  ⟨h.p.below hb (by omega), h.r.below hb (by omega), h.bel.trans (hb.mono (by omega)), Nat.le_trans h.size hb.size⟩

theorem PLB.set {w W : World} {a b : Int} (h : PLB w a b W) {p : Addr} (hp : w.heap.size + 2 ≤ p.block) (u : Value) : PLB w a b (W.setCell p u) :=
  ⟨h.p.far (by omega) u, h.r.far (by omega) u, h.bel.setCell (by omega) u, by rw [size_setCell]; exact h.size⟩

theorem PLB.last {w W : World} {a b : Int} (h : PLB w a b W) :
    W.cell? ⟨w.heap.size + 1, 0, none⟩ = some (.int .i64 0) ∧ W.cell? ⟨w.heap.size + 1, 1, none⟩ = some (.int .i64 0) ∧ W.cell? ⟨w.heap.size + 1, 2, none⟩ = some (.slice none 0 0) ∧
    W.frozen? ⟨w.heap.size + 1, 0, none⟩ = false ∧ W.frozen? ⟨w.heap.size + 1, 1, none⟩ = false ∧ W.frozen? ⟨w.heap.size + 1, 2, none⟩ = false :=
  ⟨h.r.cell (show 0 < 3 by omega), h.r.cell (show 1 < 3 by omega), h.r.cell (show 2 < 3 by omega), h.r.frozen (show 0 < 3 by omega), h.r.frozen (show 1 < 3 by omega), h.r.frozen (show 2 < 3 by omega)⟩

theorem plb_new (w : World) (a b : Int) (t1 t2 : TypeId) :
    PLB w a b ((w.alloc (.cells #[.int .i64 a, .int .i64 b] t1)).alloc (.cells #[.int .i64 0, .int .i64 0, .slice none 0 0] t2)) :=
  ⟨(Cells.new (W := w) (n := 2) rfl rfl).alloc _, Cells.new (n := 3) (by simp) rfl, ((Below.refl _ _).alloc (Nat.le_refl _) _).alloc (by simp) _, by simp⟩

theorem PLB.ended {w W : World} {a b a' b' : Int} {cs : List Clu} {lo c : Nat} {A : Option Addr} {ok : Bool} (h : PLB w a b W) (hK : KC W lo W.heap.size A cs.length (cluF cs)) (hlo : w.heap.size + 2 ≤ lo) :
    PzOut w a' b' cs ok (.returned (.tuple #[.agg #[.int .i64 a', .int .i64 b', .slice A cs.length c], .bool ok])) (((W.setCell ⟨w.heap.size + 1, 0, none⟩ (.int .i64 a')).setCell ⟨w.heap.size + 1, 1, none⟩ (.int .i64 b')).setCell ⟨w.heap.size + 1, 2, none⟩ (.slice A cs.length c)) := by
  refine ⟨A, c, rfl, ?_, ((h.bel.setCell (p := ⟨w.heap.size + 1, 0, none⟩) (by show w.heap.size ≤ w.heap.size + 1; omega) _).setCell (p := ⟨w.heap.size + 1, 1, none⟩) (by show w.heap.size ≤ w.heap.size + 1; omega) _).setCell (p := ⟨w.heap.size + 1, 2, none⟩) (by show w.heap.size ≤ w.heap.size + 1; omega) _⟩
  rw [size_setCell, size_setCell, size_setCell]
  exact (((hK.far (p := ⟨w.heap.size + 1, 0, none⟩) (by show w.heap.size + 1 < _; omega) _).far (p := ⟨w.heap.size + 1, 1, none⟩) (by show w.heap.size + 1 < _; omega) _).far (p := ⟨w.heap.size + 1, 2, none⟩) (by show w.heap.size + 1 < _; omega) _).wide (by omega) (Nat.le_refl _)

theorem PLB.none_ {w W : World} {a b : Int} (h : PLB w a b W) :
    PzOut w 0 0 [] false (.returned (.tuple #[.agg #[.int .i64 0, .int .i64 0, .slice none 0 0], .bool false])) (((W.setCell ⟨w.heap.size + 1, 0, none⟩ (.int .i64 0)).setCell ⟨w.heap.size + 1, 1, none⟩ (.int .i64 0)).setCell ⟨w.heap.size + 1, 2, none⟩ (.slice none 0 0)) :=
  h.ended (cs := []) (lo := W.heap.size) (.inl rfl) h.size

theorem PLB.facts {w W : World} {a b : Int} (h : PLB w a b W) : W.cell? ⟨w.heap.size, 0, none⟩ = some (.int .i64 a) ∧ W.cell? ⟨w.heap.size, 1, none⟩ = some (.int .i64 b) :=
  ⟨h.p.cell (show 0 < 2 by omega), h.p.cell (show 1 < 2 by omega)⟩

set_option maxHeartbeats 2000000 in
theorem pzOf_any (a b k x : Int) (s : ByteArray) (w : World) (hp : puzB a b = true) (hs : askB a b s = true) (h : askC a b k x = true) :
    Calls Try.prog 40 #[.agg #[.int .i64 a, .int .i64 b], .int .i64 k, .int .i64 x, .string s] w fun e w' => e = .returned (.agg #[.int .i64 (clK a b k x s).1, .int .i64 (clK a b k x s).2.1, .int .i64 (clK a b k x s).2.2]) ∧ Below w.heap.size w w' := by
  obtain ⟨W0, hW0⟩ : ∃ W0, (w.alloc (.cells #[.int .i64 a, .int .i64 b] 30)).alloc (.cells #[.int .i64 0, .int .i64 0, .int .i64 0] 37) = W0 := ⟨_, rfl⟩
  have HU := Lib.hid (show Cells W0 w.heap.size 2 (g2L a b) from hW0 ▸ (Cells.new (W := w) (n := 2) rfl rfl).alloc _)
  have HQ := Lib.hid (show Cells W0 (w.heap.size + 1) 3 (g3C 0 0 0) from hW0 ▸ Cells.new (n := 3) (by simp) rfl)
  have HB0 := Lib.hid (show Below w.heap.size w W0 from hW0 ▸ (by (repeat (first | assumption | exact Below.refl _ _ | (refine Below.alloc ?_ (by first | omega | (simp; done) | (simp; omega)) _) | (refine Below.setCell ?_ (by first | omega | (simp; done) | (simp; omega)) _) | refine bel_drewN ?_ _ | refine bel_drew ?_ | (refine bel_call ?_ (by assumption))))))
  have l0 : W0.cell? ⟨w.heap.size, 0, none⟩ = some (.int .i64 a) := HU.out.cell (show 0 < 2 by omega)
  have l1 : W0.cell? ⟨w.heap.size, 1, none⟩ = some (.int .i64 b) := HU.out.cell (show 1 < 2 by omega)
  have HP := Lib.hid hp
  have HS := Lib.hid hs
  have HH := Lib.hid h
  clear hp hs h
  by_cases hk : k = 1
  · subst hk
    go_enter Try.func40, Try.ntmps40
    go_wp2_with (go_at_call 57; refine (pzValue_1 a b _ s _ HS.out).mono ?_; rintro e w1 ⟨rfl, hb1⟩
                 have E1 := Lib.hid (HQ.out.call hb1)
                 have HB1 := Lib.hid (bel_call HB0.out hb1)
                 have s0 : w1.cell? ⟨w.heap.size + 1, 0, none⟩ = some (.int .i64 0) := E1.out.cell (show 0 < 3 by omega)
                 have s1 : w1.cell? ⟨w.heap.size + 1, 1, none⟩ = some (.int .i64 0) := E1.out.cell (show 1 < 3 by omega)
                 have s2 : w1.cell? ⟨w.heap.size + 1, 2, none⟩ = some (.int .i64 0) := E1.out.cell (show 2 < 3 by omega)
                 have f0 := E1.out.frozen (show 0 < 3 by omega)
                 have f1 := E1.out.frozen (show 1 < 3 by omega)
                 have f2 := E1.out.frozen (show 2 < 3 by omega)
                 clear hb1)
    refine bodyPost_ret (v := .agg #[.int .i64 1, .int .i64 (sumAt (dg s) s.size), .int .i64 0]) (by simp [results, Try.results40, go_sem, s0, s1, s2]) rfl ⟨rfl, ?_⟩
    exact ((HB1.out.setCell (p := ⟨w.heap.size + 1, 0, none⟩) (by show w.heap.size ≤ w.heap.size + 1; omega) _).setCell (p := ⟨w.heap.size + 1, 1, none⟩) (by show w.heap.size ≤ w.heap.size + 1; omega) _).setCell (p := ⟨w.heap.size + 1, 2, none⟩) (by show w.heap.size ≤ w.heap.size + 1; omega) _
  · have hke : (k == 1) = false := by rw [beq_eq_false_iff_ne]; exact hk
    have HK := Lib.hid hk
    obtain ⟨v, hv⟩ : ∃ v, pzV a b k x s = v := ⟨_, rfl⟩
    have HV := Lib.hid hv
    have HC : Hid (clK a b k x s = (k, x, v)) := Lib.hid (by unfold clK; rw [if_neg hk, hv])
    clear hk hv
    go_enter Try.func40, Try.ntmps40
    go_wp2_with (go_at_call 57; refine (pzValue_any a b k x s _ HP.out HS.out HH.out HK.out).mono ?_; rw [HV.out]; rintro e w1 ⟨rfl, hb1⟩
                 have E1 := Lib.hid (HQ.out.call hb1)
                 have HB1 := Lib.hid (bel_call HB0.out hb1)
                 have s0 : w1.cell? ⟨w.heap.size + 1, 0, none⟩ = some (.int .i64 0) := E1.out.cell (show 0 < 3 by omega)
                 have s1 : w1.cell? ⟨w.heap.size + 1, 1, none⟩ = some (.int .i64 0) := E1.out.cell (show 1 < 3 by omega)
                 have s2 : w1.cell? ⟨w.heap.size + 1, 2, none⟩ = some (.int .i64 0) := E1.out.cell (show 2 < 3 by omega)
                 have f0 := E1.out.frozen (show 0 < 3 by omega)
                 have f1 := E1.out.frozen (show 1 < 3 by omega)
                 have f2 := E1.out.frozen (show 2 < 3 by omega)
                 clear hb1)
    refine bodyPost_ret (v := .agg #[.int .i64 k, .int .i64 x, .int .i64 v]) (by simp [results, Try.results40, go_sem, s0, s1, s2]) rfl ⟨by rw [HC.out], ?_⟩
    exact ((HB1.out.setCell (p := ⟨w.heap.size + 1, 0, none⟩) (by show w.heap.size ≤ w.heap.size + 1; omega) _).setCell (p := ⟨w.heap.size + 1, 1, none⟩) (by show w.heap.size ≤ w.heap.size + 1; omega) _).setCell (p := ⟨w.heap.size + 1, 2, none⟩) (by show w.heap.size ≤ w.heap.size + 1; omega) _

set_option maxHeartbeats 8000000 in
theorem specMakePuzzle_any (a b : Int) (s : ByteArray) (n q : Int) (w : World) (hs : s.size ≤ maxLen) :
    Calls Try.prog 16 #[.agg #[.int .i64 a, .int .i64 b], .string s, .int .i64 n, .int .i64 q] w (PzOut w (mpA a b s n q a) (mpA a b s n q b) (mpZ a b s n q) (mpB a b s n q)) := by
  obtain ⟨W0, hW0⟩ : ∃ W0, (w.alloc (.cells #[.int .i64 a, .int .i64 b] 30)).alloc (.cells #[.int .i64 0, .int .i64 0, .slice none 0 0] 33) = W0 := ⟨_, rfl⟩
  have H0 : Hid (PLB w a b W0) := Lib.hid (by rw [← hW0]; exact plb_new ..)
  have HS := Lib.hid hs
  clear hs
  obtain ⟨p0, p1⟩ := H0.out.facts
  obtain ⟨p, hp⟩ : ∃ p, puzB a b = p := ⟨_, rfl⟩
  have HP := Lib.hid hp
  obtain ⟨c, hc⟩ : ∃ c, isCodeB a b s = c := ⟨_, rfl⟩
  have HC := Lib.hid hc
  obtain ⟨m, hm⟩ : ∃ m, inB n 0 6 = m := ⟨_, rfl⟩
  have HM := Lib.hid hm
  obtain ⟨z, hz⟩ : ∃ z, inB q 0 9999 = z := ⟨_, rfl⟩
  have HZ := Lib.hid hz
  clear hp hc hm hz
  have HG : Hid (puzB a b = true → goodB a b = true) := Lib.hid (fun h => (puzB_yes h).1)
  rcases p with _ | _
  · have HD : Hid (mpB a b s n q = false) := Lib.hid (mp_no (.inl HP.out))
    go_enter Try.func16, Try.ntmps16
    go_wp2_with (first
      | (go_at_call 35; refine (pzLock_any _ _ _).mono ?_; rw [HP.out]; rintro e w1 ⟨rfl, hb1⟩
         have H1 := Lib.hid (H0.out.call hb1)
         obtain ⟨q0, q1⟩ := H1.out.facts
         obtain ⟨s0, s1, s2, f0, f1, f2⟩ := H1.out.last
         clear hb1)
      | (go_at_call 36; refine (whCode_any _ _ s _ HS.out (HG.out HP.out)).mono ?_; rw [HC.out]; rintro e w2 ⟨rfl, hb2⟩
         have H2 := Lib.hid (H1.out.call hb2)
         obtain ⟨r0, r1⟩ := H2.out.facts
         obtain ⟨s0, s1, s2, f0, f1, f2⟩ := H2.out.last
         clear hb2)
      | (go_at_call 37; refine (l1In_any _ _ _ _).mono ?_; (first | rw [HM.out] | rw [HZ.out]); rintro e wq ⟨rfl, hwq⟩; have hwz := hwq.symm; clear hwq; subst hwz))
    refine bodyPost_ret (v := .tuple #[.agg #[.int .i64 0, .int .i64 0, .slice none 0 0], .bool false]) (by simp [results, Try.results16, go_sem, s0, s1, s2]) rfl ?_
    unfold mpA mpZ
    rw [HD.out]
    first | exact H2.out.none_ | exact H1.out.none_
  rcases c with _ | _
  · have HD : Hid (mpB a b s n q = false) := Lib.hid (mp_no (.inr (.inl HC.out)))
    go_enter Try.func16, Try.ntmps16
    go_wp2_with (first
      | (go_at_call 35; refine (pzLock_any _ _ _).mono ?_; rw [HP.out]; rintro e w1 ⟨rfl, hb1⟩
         have H1 := Lib.hid (H0.out.call hb1)
         obtain ⟨q0, q1⟩ := H1.out.facts
         obtain ⟨s0, s1, s2, f0, f1, f2⟩ := H1.out.last
         clear hb1)
      | (go_at_call 36; refine (whCode_any _ _ s _ HS.out (HG.out HP.out)).mono ?_; rw [HC.out]; rintro e w2 ⟨rfl, hb2⟩
         have H2 := Lib.hid (H1.out.call hb2)
         obtain ⟨r0, r1⟩ := H2.out.facts
         obtain ⟨s0, s1, s2, f0, f1, f2⟩ := H2.out.last
         clear hb2)
      | (go_at_call 37; refine (l1In_any _ _ _ _).mono ?_; (first | rw [HM.out] | rw [HZ.out]); rintro e wq ⟨rfl, hwq⟩; have hwz := hwq.symm; clear hwq; subst hwz))
    refine bodyPost_ret (v := .tuple #[.agg #[.int .i64 0, .int .i64 0, .slice none 0 0], .bool false]) (by simp [results, Try.results16, go_sem, s0, s1, s2]) rfl ?_
    unfold mpA mpZ
    rw [HD.out]
    first | exact H2.out.none_ | exact H1.out.none_
  rcases m with _ | _
  · have HD : Hid (mpB a b s n q = false) := Lib.hid (mp_no (.inr (.inr (.inl HM.out))))
    go_enter Try.func16, Try.ntmps16
    go_wp2_with (first
      | (go_at_call 35; refine (pzLock_any _ _ _).mono ?_; rw [HP.out]; rintro e w1 ⟨rfl, hb1⟩
         have H1 := Lib.hid (H0.out.call hb1)
         obtain ⟨q0, q1⟩ := H1.out.facts
         obtain ⟨s0, s1, s2, f0, f1, f2⟩ := H1.out.last
         clear hb1)
      | (go_at_call 36; refine (whCode_any _ _ s _ HS.out (HG.out HP.out)).mono ?_; rw [HC.out]; rintro e w2 ⟨rfl, hb2⟩
         have H2 := Lib.hid (H1.out.call hb2)
         obtain ⟨r0, r1⟩ := H2.out.facts
         obtain ⟨s0, s1, s2, f0, f1, f2⟩ := H2.out.last
         clear hb2)
      | (go_at_call 37; refine (l1In_any _ _ _ _).mono ?_; (first | rw [HM.out] | rw [HZ.out]); rintro e wq ⟨rfl, hwq⟩; have hwz := hwq.symm; clear hwq; subst hwz))
    refine bodyPost_ret (v := .tuple #[.agg #[.int .i64 0, .int .i64 0, .slice none 0 0], .bool false]) (by simp [results, Try.results16, go_sem, s0, s1, s2]) rfl ?_
    unfold mpA mpZ
    rw [HD.out]
    first | exact H2.out.none_ | exact H1.out.none_
  rcases z with _ | _
  · have HD : Hid (mpB a b s n q = false) := Lib.hid (mp_no (.inr (.inr (.inr HZ.out))))
    go_enter Try.func16, Try.ntmps16
    go_wp2_with (first
      | (go_at_call 35; refine (pzLock_any _ _ _).mono ?_; rw [HP.out]; rintro e w1 ⟨rfl, hb1⟩
         have H1 := Lib.hid (H0.out.call hb1)
         obtain ⟨q0, q1⟩ := H1.out.facts
         obtain ⟨s0, s1, s2, f0, f1, f2⟩ := H1.out.last
         clear hb1)
      | (go_at_call 36; refine (whCode_any _ _ s _ HS.out (HG.out HP.out)).mono ?_; rw [HC.out]; rintro e w2 ⟨rfl, hb2⟩
         have H2 := Lib.hid (H1.out.call hb2)
         obtain ⟨r0, r1⟩ := H2.out.facts
         obtain ⟨s0, s1, s2, f0, f1, f2⟩ := H2.out.last
         clear hb2)
      | (go_at_call 37; refine (l1In_any _ _ _ _).mono ?_; (first | rw [HM.out] | rw [HZ.out]); rintro e wq ⟨rfl, hwq⟩; have hwz := hwq.symm; clear hwq; subst hwz))
    refine bodyPost_ret (v := .tuple #[.agg #[.int .i64 0, .int .i64 0, .slice none 0 0], .bool false]) (by simp [results, Try.results16, go_sem, s0, s1, s2]) rfl ?_
    unfold mpA mpZ
    rw [HD.out]
    first | exact H2.out.none_ | exact H1.out.none_
  have HD : Hid (mpB a b s n q = true) := Lib.hid (by unfold mpB; rw [HP.out, HC.out, HM.out, HZ.out]; rfl)
  have hn := inB_yes HM.out
  have hq := inB_yes HZ.out
  obtain ⟨k0, rfl⟩ : ∃ k : Nat, n = k := ⟨n.toNat, by omega⟩
  have h6 : k0 ≤ 6 := by omega
  have HV : Hid (mpZ a b s (k0 : Int) q = (mkN a b s q k0).2) := Lib.hid (by unfold mpZ; rw [HD.out]; rfl)
  have HA : Hid (askB a b s = true) := Lib.hid (by unfold askB; rw [HG.out HP.out, HC.out]; rfl)
  have HBD := Lib.hid (mkN_bd a b s q ⟨hq.1, by omega⟩)
  have HLN := Lib.hid (mkN_length a b s q)
  have hgd := good_yes (HG.out HP.out)
  obtain ⟨cz, hcz⟩ : ∃ c, countZ a b = c := ⟨_, rfl⟩
  have HCZ := Lib.hid hcz
  have hc1 : 0 < cz := by
    obtain ⟨n, rfl⟩ : ∃ n : Nat, a = n := ⟨a.toNat, by omega⟩
    rw [← hcz, countZ_yes (HG.out HP.out)]
    have := (pw_bd6 (b := b) (by omega) (by omega) (k := n) (by omega)).1
    omega
  have hc0 : ¬ cz = 0 := by omega
  have ha0 : ¬ a = 0 := by omega
  have ha1 : 0 < a := by omega
  have HWC : Hid (∀ W : World, Calls Try.prog 39 #[.agg #[.int .i64 a, .int .i64 b]] W fun e w' => e = .returned (.int .i64 cz) ∧ Below W.heap.size W w') := Lib.hid (fun W => by
    have h := countZ_yes (n := a.toNat) (b := b) (by rw [show ((a.toNat : Nat) : Int) = a by omega]; exact HG.out HP.out)
    have c := whCount_any a.toNat b W (by rw [show ((a.toNat : Nat) : Int) = a by omega]; exact HG.out HP.out)
    rw [show ((a.toNat : Nat) : Int) = a by omega] at h c
    rw [← h, HCZ.out] at c
    exact c)
  clear hn hq hcz hgd
  obtain ⟨i0, hi, hy0i, hy1, hy2i⟩ := info_parts info_clue
  go_enter Try.func16, Try.ntmps16
  go_wp2_with (first
      | (go_at_call 35; refine (pzLock_any _ _ _).mono ?_; rw [HP.out]; rintro e w1 ⟨rfl, hb1⟩
         have H1 := Lib.hid (H0.out.call hb1)
         obtain ⟨q0, q1⟩ := H1.out.facts
         obtain ⟨s0, s1, s2, f0, f1, f2⟩ := H1.out.last
         clear hb1)
      | (go_at_call 36; refine (whCode_any _ _ s _ HS.out (HG.out HP.out)).mono ?_; rw [HC.out]; rintro e w2 ⟨rfl, hb2⟩
         have H2 := Lib.hid (H1.out.call hb2)
         obtain ⟨r0, r1⟩ := H2.out.facts
         obtain ⟨s0, s1, s2, f0, f1, f2⟩ := H2.out.last
         clear hb2)
      | (go_at_call 37; refine (l1In_any _ _ _ _).mono ?_; (first | rw [HM.out] | rw [HZ.out]); rintro e wq ⟨rfl, hwq⟩; have hwz := hwq.symm; clear hwq; subst hwz))
  have HA2 := Lib.hid ((Below.refl w2.heap.size w2).alloc (Nat.le_refl _) (.cells #[.int .i64 a, .int .i64 b, .slice none 0 0] 33))
  have HS2 := Lib.hid (H2.out.call HA2.out)
  have HC2 : Hid (Cells (w2.alloc (.cells #[.int .i64 a, .int .i64 b, .slice none 0 0] 33)) w2.heap.size 3 (g3F a b (.slice none 0 0))) := Lib.hid (Cells.new (n := 3) rfl rfl)
  have z2 := H2.out.size
  obtain ⟨U, hU⟩ : ∃ U, w2.heap.size = U := ⟨_, rfl⟩
  rw [hU] at HC2 z2 ⊢
  clear hU
  go_loopw [2, 11] (fun t zz wr => ∃ (j : Nat) (v : Value), j ≤ k0 ∧ t = .int .i64 ((k0 - j : Nat) : Int) ∧ zz = .int .i64 (mkN a b s q j).1 ∧ Cells wr U 3 (g3F a b v) ∧ wr.ownsRow (U + 1) 37 3 v j (cv (mkN a b s q j).2) ∧ PLB w a b wr) (fun t _ _ => (intOf t).toNat)
  case atStart => exact ⟨0, _, by omega, rfl, rfl, HC2.out, World.ownsRow_nil _ _ _ _, HS2.out⟩
  case round =>
    clear p0 p1 q0 q1 r0 r1
    obtain ⟨j, v, hj, rfl, rfl, hC, hO, hS⟩ := hrel
    obtain ⟨Av, cV, rfl, _⟩ := own_kc hO (HLN.out j)
    have HS5 := Lib.hid hS
    have HC5 := Lib.hid hC
    have HO := Lib.hid hO
    have hUr := hC.lt
    obtain ⟨p0, p1⟩ := HS5.out.facts
    obtain ⟨s0, s1, s2, f0, f1, f2⟩ := HS5.out.last
    have c0 : wr.cell? ⟨U, 0, none⟩ = some (.int .i64 a) := hC.cell (show 0 < 3 by omega)
    have c1 : wr.cell? ⟨U, 1, none⟩ = some (.int .i64 b) := hC.cell (show 1 < 3 by omega)
    have c2 : wr.cell? ⟨U, 2, none⟩ = some (.slice Av j cV) := hC.cell (show 2 < 3 by omega)
    clear hC hO hS
    by_cases hlt : j < k0
    · obtain ⟨t, ht⟩ : ∃ t, k0 - j = t := ⟨_, rfl⟩
      rw [ht]
      have htp : (0 : Int) < (t : Int) := by omega
      have hwt : IntKind.i64.wrap ((t : Int) - 1) = (t : Int) - 1 := by rw [IntKind.wrap_i64]; omega
      have hbd := HBD.out j
      have HLL0 := HLN.out j
      have HT := Lib.hid ht
      clear ht
      have HST : Hid (mkN a b s q (j + 1) = _) := Lib.hid (by rw [mkN])
      obtain ⟨x, hx⟩ : ∃ x, mkN a b s q j = x := ⟨_, rfl⟩
      rw [hx] at HO HST hbd HLL0 ⊢
      obtain ⟨x, L⟩ := x
      dsimp only at HO HST hbd HLL0 ⊢
      have HLL := Lib.hid HLL0
      clear HLL0
      obtain ⟨y, hy⟩ : ∃ y, nxZ x = y := ⟨_, rfl⟩
      have HY := Lib.hid hy
      have hyb := nxZ_bd x
      rw [hy] at HST hyb
      obtain ⟨y2, hy2'⟩ : ∃ y2, nxZ y = y2 := ⟨_, rfl⟩
      have HY2 := Lib.hid hy2'
      have hyb2 := nxZ_bd y
      rw [hy2'] at HST hyb2
      have hy0 := hyb.1
      have hy20 := hyb2.1
      obtain ⟨kd, hkd⟩ : ∃ k, y % 5 = k := ⟨_, rfl⟩
      rw [hkd] at HST
      have hk5 : 0 ≤ kd ∧ kd ≤ 4 := by omega
      clear hx hy hy2'
      obtain ⟨zn, xn, HAK, HSN, HWK⟩ : ∃ (zn xn : Int), Hid (askC a b kd xn = true) ∧ Hid (mkN a b s q (j + 1) = (zn, L ++ [clK a b kd xn s])) ∧ Hid ((kd = 1 ∧ zn = y ∧ xn = 0) ∨ (¬ kd = 1 ∧ zn = y2 ∧ xn = mkX a b kd y2)) := by
        by_cases h1 : kd = 1
        · subst h1
          exact ⟨y, 0, Lib.hid rfl, Lib.hid (by rw [HST.out, if_pos rfl]), Lib.hid (.inl ⟨rfl, rfl, rfl⟩)⟩
        · exact ⟨y2, mkX a b kd y2, Lib.hid (mkX_ask HP.out (by omega)), Lib.hid (by rw [HST.out, if_neg h1]), Lib.hid (.inr ⟨h1, rfl, rfl⟩)⟩
      obtain ⟨⟨ck, ca, cb⟩, hcl⟩ : ∃ c, clK a b kd xn s = c := ⟨_, rfl⟩
      have HCL := Lib.hid hcl
      clear hcl
      rcases (show kd = 1 ∨ kd = 0 ∨ kd = 4 ∨ kd = 2 ∨ kd = 3 by omega) with h | h | h | h | h
      · obtain ⟨_, rfl, rfl⟩ := HWK.out.resolve_right (fun hh => hh.1 h)
        subst h
        go_wp2_with (first
          | (go_at_call 38; refine (pzNext_any _ _ (by omega) (by omega)).mono ?_; (first | rw [HY.out] | rw [HY2.out]); rintro e wq ⟨rfl, hwq⟩; have hwz := hwq.symm; clear hwq; subst hwz)
          | (go_at_call 39; refine (HWC.out _).mono ?_; rintro e w4 ⟨rfl, hb4⟩
             have HS6 := Lib.hid (HS5.out.call hb4)
             have HC6 := Lib.hid (HC5.out.call hb4)
             have HO6 := Lib.hid (own_keeps HO.out hb4)
             obtain ⟨t0, t1⟩ := HS6.out.facts
             have d0 : w4.cell? ⟨U, 2, none⟩ = some (.slice Av j cV) := HC6.out.cell (show 2 < 3 by omega)
             clear hb4))
        go_region_law (first
          | (go_simp; go_at_call 40; refine (pzOf_any a b _ _ s _ HP.out HA.out HAK.out).mono ?_; rw [HCL.out]; rintro e w7 ⟨rfl, hb7⟩
             have HB7 : Hid (Below wr.heap.size wr w7) := Lib.hid (below_undrew hb7)
             have HS7 := Lib.hid (HS5.out.call HB7.out)
             have HC7 := Lib.hid (HC5.out.call HB7.out)
             have HO7 := Lib.hid (own_keeps HO.out HB7.out)
             have d2 : w7.cell? ⟨U, 2, none⟩ = some (.slice Av j cV) := HC7.out.cell (show 2 < 3 by omega)
             have d3 : (w7.alloc (.cells #[.int .i64 ck, .int .i64 ca, .int .i64 cb] 37)).cell? ⟨U, 2, none⟩ = some (.slice Av j cV) := (HC7.out.alloc _).cell (show 2 < 3 by omega)
             have hz7 : U + 1 ≤ w7.heap.size := HC7.out.lt
             clear hb7)
          | (refine step_appC rfl (.tmp 66) (.tmp 72) 31 rfl (U + 1) 37 i0 (.agg #[.int .i64 0, .int .i64 0, .int .i64 0]) 3 24 Try.underlying31 hi hy0i hy1 hy2i rfl (by decide) (.slice Av j cV) j (cv L) rfl (HO7.out.alloc _) ⟨w7.heap.size, 0, none⟩ 1 1 [.int .i64 ck, .int .i64 ca, .int .i64 cb] rfl rfl (news_c (Cells.new (n := 3) rfl rfl)) (one_c ck ca cb) (by unfold maxLen; omega) (by omega) (by simp; omega) ?_; intro v9 w9 hown9 hgrow9
             have hO9 : w9.ownsRow (U + 1) 37 3 v9 (j + 1) (cv (L ++ [(ck, ca, cb)])) := by rw [← cv_snoc]; exact hown9
             obtain ⟨A9, c9, rfl, _⟩ := own_kc hO9 (by rw [List.length_append, HLL.out]; rfl)
             have HO9 := Lib.hid hO9
             have HC9 := Lib.hid ((HC7.out.alloc _).keptC hgrow9 (fun e => by have := (HO7.out.lt U e).1; omega))
             have HB9 : Hid (Below (U + 1) w7 w9) := Lib.hid (((Below.refl (U + 1) w7).alloc hz7 _).grown hgrow9 (by simp; omega) (fun k hk => (HO7.out.lt k hk).1))
             have y2 : w9.cell? ⟨U, 2, none⟩ = some (.slice Av j cV) := HC9.out.cell (show 2 < 3 by omega)
             have yf2 := HC9.out.frozen (show 2 < 3 by omega)
             clear hown9 hgrow9 hO9))
        all_goals
          have HS9 := Lib.hid (HS7.out.belowB HB9.out (by omega))
          have htn : (t : Int) - 1 = ((k0 - (j + 1) : Nat) : Int) := by have := HT.out; omega
          go_wp2_with fail
          go_roundw
          case rel =>
            refine ⟨j + 1, .slice A9 (j + 1) c9, by omega, rfl, by rw [HSN.out], (HC9.out.set_ (show 2 < 3 by omega) (.slice A9 (j + 1) c9)).congr (fun i hi3 => ?_), ?_, HS9.out.set (by show _ ≤ U; omega) _⟩
            · have : i = 0 ∨ i = 1 ∨ i = 2 := by omega
              rcases this with rfl | rfl | rfl <;> rfl
            · rw [HSN.out, HCL.out]
              exact ownsRow_setCell_below HO9.out (by show U < U + 1; omega) _
          case measure => simp [intOf]; omega
      · obtain ⟨_, rfl, hxn⟩ := HWK.out.resolve_left (fun hh => by omega)
        subst h
        have hxe : zn % a = xn := by rw [hxn]; unfold mkX; rw [if_pos rfl]
        clear hxn
        go_wp2_with (first
          | (go_at_call 38; refine (pzNext_any _ _ (by omega) (by omega)).mono ?_; (first | rw [HY.out] | rw [HY2.out]); rintro e wq ⟨rfl, hwq⟩; have hwz := hwq.symm; clear hwq; subst hwz)
          | (go_at_call 39; refine (HWC.out _).mono ?_; rintro e w4 ⟨rfl, hb4⟩
             have HS6 := Lib.hid (HS5.out.call hb4)
             have HC6 := Lib.hid (HC5.out.call hb4)
             have HO6 := Lib.hid (own_keeps HO.out hb4)
             obtain ⟨t0, t1⟩ := HS6.out.facts
             have d0 : w4.cell? ⟨U, 2, none⟩ = some (.slice Av j cV) := HC6.out.cell (show 2 < 3 by omega)
             clear hb4))
        go_region_law (first
          | (go_simp; go_at_call 40; refine (pzOf_any a b _ _ s _ HP.out HA.out HAK.out).mono ?_; rw [HCL.out]; rintro e w7 ⟨rfl, hb7⟩
             have HB7 : Hid (Below wr.heap.size wr w7) := Lib.hid (below_undrew hb7)
             have HS7 := Lib.hid (HS5.out.call HB7.out)
             have HC7 := Lib.hid (HC5.out.call HB7.out)
             have HO7 := Lib.hid (own_keeps HO.out HB7.out)
             have d2 : w7.cell? ⟨U, 2, none⟩ = some (.slice Av j cV) := HC7.out.cell (show 2 < 3 by omega)
             have d3 : (w7.alloc (.cells #[.int .i64 ck, .int .i64 ca, .int .i64 cb] 37)).cell? ⟨U, 2, none⟩ = some (.slice Av j cV) := (HC7.out.alloc _).cell (show 2 < 3 by omega)
             have hz7 : U + 1 ≤ w7.heap.size := HC7.out.lt
             clear hb7)
          | (refine step_appC rfl (.tmp 66) (.tmp 72) 31 rfl (U + 1) 37 i0 (.agg #[.int .i64 0, .int .i64 0, .int .i64 0]) 3 24 Try.underlying31 hi hy0i hy1 hy2i rfl (by decide) (.slice Av j cV) j (cv L) rfl (HO7.out.alloc _) ⟨w7.heap.size, 0, none⟩ 1 1 [.int .i64 ck, .int .i64 ca, .int .i64 cb] rfl rfl (news_c (Cells.new (n := 3) rfl rfl)) (one_c ck ca cb) (by unfold maxLen; omega) (by omega) (by simp; omega) ?_; intro v9 w9 hown9 hgrow9
             have hO9 : w9.ownsRow (U + 1) 37 3 v9 (j + 1) (cv (L ++ [(ck, ca, cb)])) := by rw [← cv_snoc]; exact hown9
             obtain ⟨A9, c9, rfl, _⟩ := own_kc hO9 (by rw [List.length_append, HLL.out]; rfl)
             have HO9 := Lib.hid hO9
             have HC9 := Lib.hid ((HC7.out.alloc _).keptC hgrow9 (fun e => by have := (HO7.out.lt U e).1; omega))
             have HB9 : Hid (Below (U + 1) w7 w9) := Lib.hid (((Below.refl (U + 1) w7).alloc hz7 _).grown hgrow9 (by simp; omega) (fun k hk => (HO7.out.lt k hk).1))
             have y2 : w9.cell? ⟨U, 2, none⟩ = some (.slice Av j cV) := HC9.out.cell (show 2 < 3 by omega)
             have yf2 := HC9.out.frozen (show 2 < 3 by omega)
             clear hown9 hgrow9 hO9))
        all_goals
          have HS9 := Lib.hid (HS7.out.belowB HB9.out (by omega))
          have htn : (t : Int) - 1 = ((k0 - (j + 1) : Nat) : Int) := by have := HT.out; omega
          go_wp2_with fail
          go_roundw
          case rel =>
            refine ⟨j + 1, .slice A9 (j + 1) c9, by omega, rfl, by rw [HSN.out], (HC9.out.set_ (show 2 < 3 by omega) (.slice A9 (j + 1) c9)).congr (fun i hi3 => ?_), ?_, HS9.out.set (by show _ ≤ U; omega) _⟩
            · have : i = 0 ∨ i = 1 ∨ i = 2 := by omega
              rcases this with rfl | rfl | rfl <;> rfl
            · rw [HSN.out, HCL.out]
              exact ownsRow_setCell_below HO9.out (by show U < U + 1; omega) _
          case measure => simp [intOf]; omega
      · obtain ⟨_, rfl, hxn⟩ := HWK.out.resolve_left (fun hh => by omega)
        subst h
        have hxe : zn % 8 + 2 = xn := by rw [hxn]; unfold mkX; rw [if_neg (by decide), if_pos rfl]
        have hwx : IntKind.i64.wrap (zn % 8 + 2) = zn % 8 + 2 := by rw [IntKind.wrap_i64]; omega
        clear hxn
        go_wp2_with (first
          | (go_at_call 38; refine (pzNext_any _ _ (by omega) (by omega)).mono ?_; (first | rw [HY.out] | rw [HY2.out]); rintro e wq ⟨rfl, hwq⟩; have hwz := hwq.symm; clear hwq; subst hwz)
          | (go_at_call 39; refine (HWC.out _).mono ?_; rintro e w4 ⟨rfl, hb4⟩
             have HS6 := Lib.hid (HS5.out.call hb4)
             have HC6 := Lib.hid (HC5.out.call hb4)
             have HO6 := Lib.hid (own_keeps HO.out hb4)
             obtain ⟨t0, t1⟩ := HS6.out.facts
             have d0 : w4.cell? ⟨U, 2, none⟩ = some (.slice Av j cV) := HC6.out.cell (show 2 < 3 by omega)
             clear hb4))
        go_region_law (first
          | (go_simp; go_at_call 40; refine (pzOf_any a b _ _ s _ HP.out HA.out HAK.out).mono ?_; rw [HCL.out]; rintro e w7 ⟨rfl, hb7⟩
             have HB7 : Hid (Below wr.heap.size wr w7) := Lib.hid (below_undrew hb7)
             have HS7 := Lib.hid (HS5.out.call HB7.out)
             have HC7 := Lib.hid (HC5.out.call HB7.out)
             have HO7 := Lib.hid (own_keeps HO.out HB7.out)
             have d2 : w7.cell? ⟨U, 2, none⟩ = some (.slice Av j cV) := HC7.out.cell (show 2 < 3 by omega)
             have d3 : (w7.alloc (.cells #[.int .i64 ck, .int .i64 ca, .int .i64 cb] 37)).cell? ⟨U, 2, none⟩ = some (.slice Av j cV) := (HC7.out.alloc _).cell (show 2 < 3 by omega)
             have hz7 : U + 1 ≤ w7.heap.size := HC7.out.lt
             clear hb7)
          | (refine step_appC rfl (.tmp 66) (.tmp 72) 31 rfl (U + 1) 37 i0 (.agg #[.int .i64 0, .int .i64 0, .int .i64 0]) 3 24 Try.underlying31 hi hy0i hy1 hy2i rfl (by decide) (.slice Av j cV) j (cv L) rfl (HO7.out.alloc _) ⟨w7.heap.size, 0, none⟩ 1 1 [.int .i64 ck, .int .i64 ca, .int .i64 cb] rfl rfl (news_c (Cells.new (n := 3) rfl rfl)) (one_c ck ca cb) (by unfold maxLen; omega) (by omega) (by simp; omega) ?_; intro v9 w9 hown9 hgrow9
             have hO9 : w9.ownsRow (U + 1) 37 3 v9 (j + 1) (cv (L ++ [(ck, ca, cb)])) := by rw [← cv_snoc]; exact hown9
             obtain ⟨A9, c9, rfl, _⟩ := own_kc hO9 (by rw [List.length_append, HLL.out]; rfl)
             have HO9 := Lib.hid hO9
             have HC9 := Lib.hid ((HC7.out.alloc _).keptC hgrow9 (fun e => by have := (HO7.out.lt U e).1; omega))
             have HB9 : Hid (Below (U + 1) w7 w9) := Lib.hid (((Below.refl (U + 1) w7).alloc hz7 _).grown hgrow9 (by simp; omega) (fun k hk => (HO7.out.lt k hk).1))
             have y2 : w9.cell? ⟨U, 2, none⟩ = some (.slice Av j cV) := HC9.out.cell (show 2 < 3 by omega)
             have yf2 := HC9.out.frozen (show 2 < 3 by omega)
             clear hown9 hgrow9 hO9))
        all_goals
          have HS9 := Lib.hid (HS7.out.belowB HB9.out (by omega))
          have htn : (t : Int) - 1 = ((k0 - (j + 1) : Nat) : Int) := by have := HT.out; omega
          go_wp2_with fail
          go_roundw
          case rel =>
            refine ⟨j + 1, .slice A9 (j + 1) c9, by omega, rfl, by rw [HSN.out], (HC9.out.set_ (show 2 < 3 by omega) (.slice A9 (j + 1) c9)).congr (fun i hi3 => ?_), ?_, HS9.out.set (by show _ ≤ U; omega) _⟩
            · have : i = 0 ∨ i = 1 ∨ i = 2 := by omega
              rcases this with rfl | rfl | rfl <;> rfl
            · rw [HSN.out, HCL.out]
              exact ownsRow_setCell_below HO9.out (by show U < U + 1; omega) _
          case measure => simp [intOf]; omega
      · obtain ⟨_, rfl, hxn⟩ := HWK.out.resolve_left (fun hh => by omega)
        subst h
        have hxe : zn % cz = xn := by rw [hxn]; unfold mkX; rw [if_neg (by decide), if_neg (by decide), HCZ.out]
        clear hxn
        go_wp2_with (first
          | (go_at_call 38; refine (pzNext_any _ _ (by omega) (by omega)).mono ?_; (first | rw [HY.out] | rw [HY2.out]); rintro e wq ⟨rfl, hwq⟩; have hwz := hwq.symm; clear hwq; subst hwz)
          | (go_at_call 39; refine (HWC.out _).mono ?_; rintro e w4 ⟨rfl, hb4⟩
             have HS6 := Lib.hid (HS5.out.call hb4)
             have HC6 := Lib.hid (HC5.out.call hb4)
             have HO6 := Lib.hid (own_keeps HO.out hb4)
             obtain ⟨t0, t1⟩ := HS6.out.facts
             have d0 : w4.cell? ⟨U, 2, none⟩ = some (.slice Av j cV) := HC6.out.cell (show 2 < 3 by omega)
             clear hb4))
        go_region_law (first
          | (go_simp; go_at_call 40; refine (pzOf_any a b _ _ s _ HP.out HA.out HAK.out).mono ?_; rw [HCL.out]; rintro e w7 ⟨rfl, hb7⟩
             have HB7 : Hid (Below w4.heap.size w4 w7) := Lib.hid (below_undrew hb7)
             have HS7 := Lib.hid (HS6.out.call HB7.out)
             have HC7 := Lib.hid (HC6.out.call HB7.out)
             have HO7 := Lib.hid (own_keeps HO6.out HB7.out)
             have d2 : w7.cell? ⟨U, 2, none⟩ = some (.slice Av j cV) := HC7.out.cell (show 2 < 3 by omega)
             have d3 : (w7.alloc (.cells #[.int .i64 ck, .int .i64 ca, .int .i64 cb] 37)).cell? ⟨U, 2, none⟩ = some (.slice Av j cV) := (HC7.out.alloc _).cell (show 2 < 3 by omega)
             have hz7 : U + 1 ≤ w7.heap.size := HC7.out.lt
             clear hb7)
          | (refine step_appC rfl (.tmp 66) (.tmp 72) 31 rfl (U + 1) 37 i0 (.agg #[.int .i64 0, .int .i64 0, .int .i64 0]) 3 24 Try.underlying31 hi hy0i hy1 hy2i rfl (by decide) (.slice Av j cV) j (cv L) rfl (HO7.out.alloc _) ⟨w7.heap.size, 0, none⟩ 1 1 [.int .i64 ck, .int .i64 ca, .int .i64 cb] rfl rfl (news_c (Cells.new (n := 3) rfl rfl)) (one_c ck ca cb) (by unfold maxLen; omega) (by omega) (by simp; omega) ?_; intro v9 w9 hown9 hgrow9
             have hO9 : w9.ownsRow (U + 1) 37 3 v9 (j + 1) (cv (L ++ [(ck, ca, cb)])) := by rw [← cv_snoc]; exact hown9
             obtain ⟨A9, c9, rfl, _⟩ := own_kc hO9 (by rw [List.length_append, HLL.out]; rfl)
             have HO9 := Lib.hid hO9
             have HC9 := Lib.hid ((HC7.out.alloc _).keptC hgrow9 (fun e => by have := (HO7.out.lt U e).1; omega))
             have HB9 : Hid (Below (U + 1) w7 w9) := Lib.hid (((Below.refl (U + 1) w7).alloc hz7 _).grown hgrow9 (by simp; omega) (fun k hk => (HO7.out.lt k hk).1))
             have y2 : w9.cell? ⟨U, 2, none⟩ = some (.slice Av j cV) := HC9.out.cell (show 2 < 3 by omega)
             have yf2 := HC9.out.frozen (show 2 < 3 by omega)
             clear hown9 hgrow9 hO9))
        all_goals
          have HS9 := Lib.hid (HS7.out.belowB HB9.out (by omega))
          have htn : (t : Int) - 1 = ((k0 - (j + 1) : Nat) : Int) := by have := HT.out; omega
          go_wp2_with fail
          go_roundw
          case rel =>
            refine ⟨j + 1, .slice A9 (j + 1) c9, by omega, rfl, by rw [HSN.out], (HC9.out.set_ (show 2 < 3 by omega) (.slice A9 (j + 1) c9)).congr (fun i hi3 => ?_), ?_, HS9.out.set (by show _ ≤ U; omega) _⟩
            · have : i = 0 ∨ i = 1 ∨ i = 2 := by omega
              rcases this with rfl | rfl | rfl <;> rfl
            · rw [HSN.out, HCL.out]
              exact ownsRow_setCell_below HO9.out (by show U < U + 1; omega) _
          case measure => simp [intOf]; omega
      · obtain ⟨_, rfl, hxn⟩ := HWK.out.resolve_left (fun hh => by omega)
        subst h
        have hxe : zn % cz = xn := by rw [hxn]; unfold mkX; rw [if_neg (by decide), if_neg (by decide), HCZ.out]
        clear hxn
        go_wp2_with (first
          | (go_at_call 38; refine (pzNext_any _ _ (by omega) (by omega)).mono ?_; (first | rw [HY.out] | rw [HY2.out]); rintro e wq ⟨rfl, hwq⟩; have hwz := hwq.symm; clear hwq; subst hwz)
          | (go_at_call 39; refine (HWC.out _).mono ?_; rintro e w4 ⟨rfl, hb4⟩
             have HS6 := Lib.hid (HS5.out.call hb4)
             have HC6 := Lib.hid (HC5.out.call hb4)
             have HO6 := Lib.hid (own_keeps HO.out hb4)
             obtain ⟨t0, t1⟩ := HS6.out.facts
             have d0 : w4.cell? ⟨U, 2, none⟩ = some (.slice Av j cV) := HC6.out.cell (show 2 < 3 by omega)
             clear hb4))
        go_region_law (first
          | (go_simp; go_at_call 40; refine (pzOf_any a b _ _ s _ HP.out HA.out HAK.out).mono ?_; rw [HCL.out]; rintro e w7 ⟨rfl, hb7⟩
             have HB7 : Hid (Below w4.heap.size w4 w7) := Lib.hid (below_undrew hb7)
             have HS7 := Lib.hid (HS6.out.call HB7.out)
             have HC7 := Lib.hid (HC6.out.call HB7.out)
             have HO7 := Lib.hid (own_keeps HO6.out HB7.out)
             have d2 : w7.cell? ⟨U, 2, none⟩ = some (.slice Av j cV) := HC7.out.cell (show 2 < 3 by omega)
             have d3 : (w7.alloc (.cells #[.int .i64 ck, .int .i64 ca, .int .i64 cb] 37)).cell? ⟨U, 2, none⟩ = some (.slice Av j cV) := (HC7.out.alloc _).cell (show 2 < 3 by omega)
             have hz7 : U + 1 ≤ w7.heap.size := HC7.out.lt
             clear hb7)
          | (refine step_appC rfl (.tmp 66) (.tmp 72) 31 rfl (U + 1) 37 i0 (.agg #[.int .i64 0, .int .i64 0, .int .i64 0]) 3 24 Try.underlying31 hi hy0i hy1 hy2i rfl (by decide) (.slice Av j cV) j (cv L) rfl (HO7.out.alloc _) ⟨w7.heap.size, 0, none⟩ 1 1 [.int .i64 ck, .int .i64 ca, .int .i64 cb] rfl rfl (news_c (Cells.new (n := 3) rfl rfl)) (one_c ck ca cb) (by unfold maxLen; omega) (by omega) (by simp; omega) ?_; intro v9 w9 hown9 hgrow9
             have hO9 : w9.ownsRow (U + 1) 37 3 v9 (j + 1) (cv (L ++ [(ck, ca, cb)])) := by rw [← cv_snoc]; exact hown9
             obtain ⟨A9, c9, rfl, _⟩ := own_kc hO9 (by rw [List.length_append, HLL.out]; rfl)
             have HO9 := Lib.hid hO9
             have HC9 := Lib.hid ((HC7.out.alloc _).keptC hgrow9 (fun e => by have := (HO7.out.lt U e).1; omega))
             have HB9 : Hid (Below (U + 1) w7 w9) := Lib.hid (((Below.refl (U + 1) w7).alloc hz7 _).grown hgrow9 (by simp; omega) (fun k hk => (HO7.out.lt k hk).1))
             have y2 : w9.cell? ⟨U, 2, none⟩ = some (.slice Av j cV) := HC9.out.cell (show 2 < 3 by omega)
             have yf2 := HC9.out.frozen (show 2 < 3 by omega)
             clear hown9 hgrow9 hO9))
        all_goals
          have HS9 := Lib.hid (HS7.out.belowB HB9.out (by omega))
          have htn : (t : Int) - 1 = ((k0 - (j + 1) : Nat) : Int) := by have := HT.out; omega
          go_wp2_with fail
          go_roundw
          case rel =>
            refine ⟨j + 1, .slice A9 (j + 1) c9, by omega, rfl, by rw [HSN.out], (HC9.out.set_ (show 2 < 3 by omega) (.slice A9 (j + 1) c9)).congr (fun i hi3 => ?_), ?_, HS9.out.set (by show _ ≤ U; omega) _⟩
            · have : i = 0 ∨ i = 1 ∨ i = 2 := by omega
              rcases this with rfl | rfl | rfl <;> rfl
            · rw [HSN.out, HCL.out]
              exact ownsRow_setCell_below HO9.out (by show U < U + 1; omega) _
          case measure => simp [intOf]; omega
    · obtain rfl : j = k0 := by omega
      have HK9 := Lib.hid (own_kc HO.out (HLN.out j))
      obtain ⟨A9, c9, e9, hK9⟩ := HK9.out
      cases e9
      have K9 := Lib.hid hK9
      have HLJ := Lib.hid (HLN.out j)
      clear hK9 HK9
      rw [Nat.sub_self]
      go_wp2_with fail
      refine bodyPost_ret (v := .tuple #[.agg #[.int .i64 a, .int .i64 b, .slice Av j cV], .bool true]) (by simp [results, Try.results16, go_sem, s0, s1, s2]) rfl ?_
      unfold mpA
      rw [HD.out, HV.out]
      have hE := HS5.out.ended (a' := a) (b' := b) (cs := (mkN a b s q j).2) (lo := U + 1) (c := cV) (A := Av) (ok := true) (by rw [HLJ.out]; exact K9.out) (by omega)
      rw [HLJ.out] at hE
      exact hE

/-- The lock, the number, the puzzle and its clues on the way. -/
structure MKS (w : World) (a b : Int) (Z U : Nat) (x : Int) (v : Value) (L : List Clu) (W : World) : Prop where
  lk : PLB w a b W
  zc : Cells W Z 1 (fun _ => .int .i64 x)
  pc : Cells W U 3 (g3F a b v)
  ro : W.ownsRow (U + 1) 37 3 v L.length (cv L)

theorem MKS.call {w W W' : World} {a b x : Int} {Z U : Nat} {v : Value} {L : List Clu} (h : MKS w a b Z U x v L W) (hb : Below W.heap.size W W') : MKS w a b Z U x v L W' :=
  ⟨h.lk.call hb, h.zc.call hb, h.pc.call hb, own_keeps h.ro hb⟩

theorem MKS.next {w W : World} {a b x : Int} {Z U : Nat} {v : Value} {L : List Clu} (h : MKS w a b Z U x v L W) (hZ : w.heap.size + 2 ≤ Z) (hU : Z < U) (y : Int) : MKS w a b Z U y v L (W.setCell ⟨Z, 0, none⟩ (.int .i64 y)) :=
  ⟨h.lk.set (by show _ ≤ Z; exact hZ) _, (h.zc.set_ (show 0 < 1 by omega) _).congr (fun j hj => by rw [if_pos (by omega)]), h.pc.far (by show Z ≠ U; omega) _, ownsRow_setCell_below h.ro (by show Z < U + 1; omega) _⟩

theorem MKS.facts {w W : World} {a b x : Int} {Z U : Nat} {v : Value} {L : List Clu} (h : MKS w a b Z U x v L W) :
    W.cell? ⟨w.heap.size, 0, none⟩ = some (.int .i64 a) ∧ W.cell? ⟨w.heap.size, 1, none⟩ = some (.int .i64 b) ∧ W.cell? ⟨Z, 0, none⟩ = some (.int .i64 x) ∧ W.frozen? ⟨Z, 0, none⟩ = false ∧
    W.cell? ⟨U, 0, none⟩ = some (.int .i64 a) ∧ W.cell? ⟨U, 1, none⟩ = some (.int .i64 b) ∧ W.cell? ⟨U, 2, none⟩ = some v :=
  ⟨h.lk.facts.1, h.lk.facts.2, h.zc.cell (show 0 < 1 by omega), h.zc.frozen (show 0 < 1 by omega), h.pc.cell (show 0 < 3 by omega), h.pc.cell (show 1 < 3 by omega), h.pc.cell (show 2 < 3 by omega)⟩

set_option maxHeartbeats 8000000 in
theorem makePuzzle_any (a b : Int) (s : ByteArray) (n q : Int) (w : World) (hs : s.size ≤ maxLen) :
    Calls Try.prog 18 #[.agg #[.int .i64 a, .int .i64 b], .string s, .int .i64 n, .int .i64 q] w (PzOut w (mpA a b s n q a) (mpA a b s n q b) (mpZ a b s n q) (mpB a b s n q)) := by
  obtain ⟨W0, hW0⟩ : ∃ W0, (w.alloc (.cells #[.int .i64 a, .int .i64 b] 30)).alloc (.cells #[.int .i64 0, .int .i64 0, .slice none 0 0] 33) = W0 := ⟨_, rfl⟩
  have H0 : Hid (PLB w a b W0) := Lib.hid (by rw [← hW0]; exact plb_new ..)
  have HS := Lib.hid hs
  clear hs
  obtain ⟨p0, p1⟩ := H0.out.facts
  obtain ⟨p, hp⟩ : ∃ p, puzB a b = p := ⟨_, rfl⟩
  have HP := Lib.hid hp
  obtain ⟨c, hc⟩ : ∃ c, isCodeB a b s = c := ⟨_, rfl⟩
  have HC := Lib.hid hc
  obtain ⟨m, hm⟩ : ∃ m, inB n 0 6 = m := ⟨_, rfl⟩
  have HM := Lib.hid hm
  obtain ⟨z, hz⟩ : ∃ z, inB q 0 9999 = z := ⟨_, rfl⟩
  have HZ := Lib.hid hz
  clear hp hc hm hz
  have HG : Hid (puzB a b = true → goodB a b = true) := Lib.hid (fun h => (puzB_yes h).1)
  rcases p with _ | _
  · have HD : Hid (mpB a b s n q = false) := Lib.hid (mp_no (.inl HP.out))
    go_enter Try.func18, Try.ntmps18
    go_wp2_with (first
      | (go_at_call 41; refine (isPuzzled_any _ _ _).mono ?_; rw [HP.out]; rintro e w1 ⟨rfl, hb1⟩
         have H1 := Lib.hid (H0.out.call hb1)
         obtain ⟨q0, q1⟩ := H1.out.facts
         obtain ⟨s0, s1, s2, f0, f1, f2⟩ := H1.out.last
         clear hb1)
      | (go_at_call 42; refine (hasCode_any _ _ s _ HS.out).mono ?_; rw [HG.out HP.out, HC.out]; rintro e w2 ⟨rfl, hb2⟩
         have H2 := Lib.hid (H1.out.call hb2)
         obtain ⟨r0, r1⟩ := H2.out.facts
         obtain ⟨s0, s1, s2, f0, f1, f2⟩ := H2.out.last
         clear hb2))
    refine bodyPost_ret (v := .tuple #[.agg #[.int .i64 0, .int .i64 0, .slice none 0 0], .bool false]) (by simp [results, Try.results18, go_sem, s0, s1, s2]) rfl ?_
    unfold mpA mpZ
    rw [HD.out]
    first | exact H2.out.none_ | exact H1.out.none_
  rcases c with _ | _
  · have HD : Hid (mpB a b s n q = false) := Lib.hid (mp_no (.inr (.inl HC.out)))
    go_enter Try.func18, Try.ntmps18
    go_wp2_with (first
      | (go_at_call 41; refine (isPuzzled_any _ _ _).mono ?_; rw [HP.out]; rintro e w1 ⟨rfl, hb1⟩
         have H1 := Lib.hid (H0.out.call hb1)
         obtain ⟨q0, q1⟩ := H1.out.facts
         obtain ⟨s0, s1, s2, f0, f1, f2⟩ := H1.out.last
         clear hb1)
      | (go_at_call 42; refine (hasCode_any _ _ s _ HS.out).mono ?_; rw [HG.out HP.out, HC.out]; rintro e w2 ⟨rfl, hb2⟩
         have H2 := Lib.hid (H1.out.call hb2)
         obtain ⟨r0, r1⟩ := H2.out.facts
         obtain ⟨s0, s1, s2, f0, f1, f2⟩ := H2.out.last
         clear hb2))
    refine bodyPost_ret (v := .tuple #[.agg #[.int .i64 0, .int .i64 0, .slice none 0 0], .bool false]) (by simp [results, Try.results18, go_sem, s0, s1, s2]) rfl ?_
    unfold mpA mpZ
    rw [HD.out]
    first | exact H2.out.none_ | exact H1.out.none_
  rcases m with _ | _
  · have HD : Hid (mpB a b s n q = false) := Lib.hid (mp_no (.inr (.inr (.inl HM.out))))
    have hno := inB_no HM.out
    by_cases hn0 : n < 0
    · go_enter Try.func18, Try.ntmps18
      go_wp2_with (first
      | (go_at_call 41; refine (isPuzzled_any _ _ _).mono ?_; rw [HP.out]; rintro e w1 ⟨rfl, hb1⟩
         have H1 := Lib.hid (H0.out.call hb1)
         obtain ⟨q0, q1⟩ := H1.out.facts
         obtain ⟨s0, s1, s2, f0, f1, f2⟩ := H1.out.last
         clear hb1)
      | (go_at_call 42; refine (hasCode_any _ _ s _ HS.out).mono ?_; rw [HG.out HP.out, HC.out]; rintro e w2 ⟨rfl, hb2⟩
         have H2 := Lib.hid (H1.out.call hb2)
         obtain ⟨r0, r1⟩ := H2.out.facts
         obtain ⟨s0, s1, s2, f0, f1, f2⟩ := H2.out.last
         clear hb2))
      refine bodyPost_ret (v := .tuple #[.agg #[.int .i64 0, .int .i64 0, .slice none 0 0], .bool false]) (by simp [results, Try.results18, go_sem, s0, s1, s2]) rfl ?_
      unfold mpA mpZ
      rw [HD.out]
      first | exact H2.out.none_ | exact H1.out.none_
    · have hn6 : 6 < n := by omega
      clear hno
      go_enter Try.func18, Try.ntmps18
      go_wp2_with (first
      | (go_at_call 41; refine (isPuzzled_any _ _ _).mono ?_; rw [HP.out]; rintro e w1 ⟨rfl, hb1⟩
         have H1 := Lib.hid (H0.out.call hb1)
         obtain ⟨q0, q1⟩ := H1.out.facts
         obtain ⟨s0, s1, s2, f0, f1, f2⟩ := H1.out.last
         clear hb1)
      | (go_at_call 42; refine (hasCode_any _ _ s _ HS.out).mono ?_; rw [HG.out HP.out, HC.out]; rintro e w2 ⟨rfl, hb2⟩
         have H2 := Lib.hid (H1.out.call hb2)
         obtain ⟨r0, r1⟩ := H2.out.facts
         obtain ⟨s0, s1, s2, f0, f1, f2⟩ := H2.out.last
         clear hb2))
      refine bodyPost_ret (v := .tuple #[.agg #[.int .i64 0, .int .i64 0, .slice none 0 0], .bool false]) (by simp [results, Try.results18, go_sem, s0, s1, s2]) rfl ?_
      unfold mpA mpZ
      rw [HD.out]
      first | exact H2.out.none_ | exact H1.out.none_
  have hn := inB_yes HM.out
  have hn0 : ¬ n < 0 := by omega
  have hn6 : ¬ 6 < n := by omega
  rcases z with _ | _
  · have HD : Hid (mpB a b s n q = false) := Lib.hid (mp_no (.inr (.inr (.inr HZ.out))))
    have hno := inB_no HZ.out
    by_cases hq0 : q < 0
    · go_enter Try.func18, Try.ntmps18
      go_wp2_with (first
      | (go_at_call 41; refine (isPuzzled_any _ _ _).mono ?_; rw [HP.out]; rintro e w1 ⟨rfl, hb1⟩
         have H1 := Lib.hid (H0.out.call hb1)
         obtain ⟨q0, q1⟩ := H1.out.facts
         obtain ⟨s0, s1, s2, f0, f1, f2⟩ := H1.out.last
         clear hb1)
      | (go_at_call 42; refine (hasCode_any _ _ s _ HS.out).mono ?_; rw [HG.out HP.out, HC.out]; rintro e w2 ⟨rfl, hb2⟩
         have H2 := Lib.hid (H1.out.call hb2)
         obtain ⟨r0, r1⟩ := H2.out.facts
         obtain ⟨s0, s1, s2, f0, f1, f2⟩ := H2.out.last
         clear hb2))
      refine bodyPost_ret (v := .tuple #[.agg #[.int .i64 0, .int .i64 0, .slice none 0 0], .bool false]) (by simp [results, Try.results18, go_sem, s0, s1, s2]) rfl ?_
      unfold mpA mpZ
      rw [HD.out]
      first | exact H2.out.none_ | exact H1.out.none_
    · have hq9 : 9999 < q := by omega
      clear hno
      go_enter Try.func18, Try.ntmps18
      go_wp2_with (first
      | (go_at_call 41; refine (isPuzzled_any _ _ _).mono ?_; rw [HP.out]; rintro e w1 ⟨rfl, hb1⟩
         have H1 := Lib.hid (H0.out.call hb1)
         obtain ⟨q0, q1⟩ := H1.out.facts
         obtain ⟨s0, s1, s2, f0, f1, f2⟩ := H1.out.last
         clear hb1)
      | (go_at_call 42; refine (hasCode_any _ _ s _ HS.out).mono ?_; rw [HG.out HP.out, HC.out]; rintro e w2 ⟨rfl, hb2⟩
         have H2 := Lib.hid (H1.out.call hb2)
         obtain ⟨r0, r1⟩ := H2.out.facts
         obtain ⟨s0, s1, s2, f0, f1, f2⟩ := H2.out.last
         clear hb2))
      refine bodyPost_ret (v := .tuple #[.agg #[.int .i64 0, .int .i64 0, .slice none 0 0], .bool false]) (by simp [results, Try.results18, go_sem, s0, s1, s2]) rfl ?_
      unfold mpA mpZ
      rw [HD.out]
      first | exact H2.out.none_ | exact H1.out.none_
  have HD : Hid (mpB a b s n q = true) := Lib.hid (by unfold mpB; rw [HP.out, HC.out, HM.out, HZ.out]; rfl)
  have hq := inB_yes HZ.out
  have hq0 : ¬ q < 0 := by omega
  have hq9 : ¬ 9999 < q := by omega
  obtain ⟨k0, rfl⟩ : ∃ k : Nat, n = k := ⟨n.toNat, by omega⟩
  have h6 : k0 ≤ 6 := by omega
  have HV : Hid (mpZ a b s (k0 : Int) q = (mkN a b s q k0).2) := Lib.hid (by unfold mpZ; rw [HD.out]; rfl)
  have HA : Hid (askB a b s = true) := Lib.hid (by unfold askB; rw [HG.out HP.out, HC.out]; rfl)
  have HBD := Lib.hid (mkN_bd a b s q ⟨hq.1, by omega⟩)
  have HLN := Lib.hid (mkN_length a b s q)
  clear hn hq
  obtain ⟨i0, hi, hy0i, hy1, hy2i⟩ := info_parts info_clue
  go_enter Try.func18, Try.ntmps18
  go_wp2_with (first
      | (go_at_call 41; refine (isPuzzled_any _ _ _).mono ?_; rw [HP.out]; rintro e w1 ⟨rfl, hb1⟩
         have H1 := Lib.hid (H0.out.call hb1)
         obtain ⟨q0, q1⟩ := H1.out.facts
         obtain ⟨s0, s1, s2, f0, f1, f2⟩ := H1.out.last
         clear hb1)
      | (go_at_call 42; refine (hasCode_any _ _ s _ HS.out).mono ?_; rw [HG.out HP.out, HC.out]; rintro e w2 ⟨rfl, hb2⟩
         have H2 := Lib.hid (H1.out.call hb2)
         obtain ⟨r0, r1⟩ := H2.out.facts
         obtain ⟨s0, s1, s2, f0, f1, f2⟩ := H2.out.last
         clear hb2)
      | (go_at_call 43; refine (numbersBehind_any _ _).mono ?_; rintro e w3 ⟨rfl, hw3⟩
         have hb3 : Below w2.heap.size w2 w3 := by rw [hw3]; exact (Below.refl _ _).alloc (Nat.le_refl _) _
         have H3 := Lib.hid (H2.out.call hb3)
         have HZ3 : Hid (Cells w3 w2.heap.size 1 (fun _ => .int .i64 q)) := Lib.hid (by rw [hw3]; exact (Cells.new (n := 1) rfl rfl).congr (fun j hj => by obtain rfl : j = 0 := (by omega); rfl))
         obtain ⟨t0, t1⟩ := H3.out.facts
         have hz3 : w3.heap.size = w2.heap.size + 1 := by rw [hw3, World.size_alloc]
         have HW3 := Lib.hid hz3
         clear hz3 hw3 hb3))
  have hU := HW3.out
  have HA4 := Lib.hid ((Below.refl w3.heap.size w3).alloc (Nat.le_refl _) (.cells #[.int .i64 a, .int .i64 b, .slice none 0 0] 33))
  have HM4 : Hid (MKS w a b w2.heap.size w3.heap.size q (.slice none 0 0) [] (w3.alloc (.cells #[.int .i64 a, .int .i64 b, .slice none 0 0] 33))) := Lib.hid ⟨H3.out.call HA4.out, HZ3.out.call HA4.out, Cells.new (n := 3) rfl rfl, World.ownsRow_nil _ _ _ _⟩
  have z2 := H2.out.size
  obtain ⟨Z, hZ⟩ : ∃ Z, w2.heap.size = Z := ⟨_, rfl⟩
  rw [hZ] at HM4 z2 hU ⊢
  obtain ⟨U, hUe⟩ : ∃ U, w3.heap.size = U := ⟨_, rfl⟩
  rw [hUe] at HM4 hU ⊢
  have hZU : Z < U := by omega
  have hmf : ∀ (fn : Fn) (first cap : Array Value) (w : World), (Instr.makeFunc fn first cap).run Try.prog w = .ok (.func fn first cap) w := fun _ _ _ _ => rfl
  clear hU hUe hZ
  go_loopw [45] (fun i wr => ∃ (j : Nat) (v : Value), j ≤ k0 ∧ i = .int .i64 (j : Nat) ∧ MKS w a b Z U (mkN a b s q j).1 v (mkN a b s q j).2 wr) (fun i _ => k0 - (intOf i).toNat)
  case atStart => exact ⟨0, _, by omega, rfl, HM4.out⟩
  case round =>
    clear p0 p1 q0 q1 r0 r1 t0 t1
    obtain ⟨j, v, hj, rfl, hS⟩ := hrel
    have hO := hS.ro
    rw [HLN.out j] at hO
    obtain ⟨Av, cV, rfl, _⟩ := own_kc hO (HLN.out j)
    have HO := Lib.hid hO
    have HS5 := Lib.hid hS
    obtain ⟨p0, p1, x0, xf, u0, u1, u2⟩ := HS5.out.facts
    obtain ⟨s0, s1, s2, f0, f1, f2⟩ := HS5.out.lk.last
    have hUr := hS.pc.lt
    clear hO hS
    by_cases hlt : j < k0
    · have hji : (j : Int) < (k0 : Int) := by omega
      have hwk : IntKind.i64.wrap ((j : Int) + 1) = (j : Int) + 1 := by rw [IntKind.wrap_i64]; omega
      have hbd := HBD.out j
      have HST : Hid (mkN a b s q (j + 1) = _) := Lib.hid (by rw [mkN])
      have HLL0 := HLN.out j
      obtain ⟨x, hx⟩ : ∃ x, mkN a b s q j = x := ⟨_, rfl⟩
      rw [hx] at HS5 HST hbd HO HLL0 x0
      obtain ⟨x, L⟩ := x
      dsimp only at HS5 HST hbd HO HLL0 x0
      have HLL := Lib.hid HLL0
      obtain ⟨y, hy⟩ : ∃ y, nxZ x = y := ⟨_, rfl⟩
      have HY := Lib.hid hy
      have hyb := nxZ_bd x
      rw [hy] at HST hyb
      obtain ⟨y2, hy2'⟩ : ∃ y2, nxZ y = y2 := ⟨_, rfl⟩
      have HY2 := Lib.hid hy2'
      have hyb2 := nxZ_bd y
      rw [hy2'] at HST hyb2
      have hy0 := hyb.1
      have hy20 := hyb2.1
      obtain ⟨kd, hkd⟩ : ∃ k, y % 5 = k := ⟨_, rfl⟩
      rw [hkd] at HST
      have hk5 : 0 ≤ kd ∧ kd ≤ 4 := by omega
      clear hx hy hy2' HLL0
      by_cases h1 : kd = 1
      · subst h1
        have HSN : Hid (mkN a b s q (j + 1) = (y, L ++ [clK a b 1 0 s])) := Lib.hid (by rw [HST.out, if_pos rfl])
        obtain ⟨⟨ck, ca, cb⟩, hcl⟩ : ∃ c, clK a b 1 0 s = c := ⟨_, rfl⟩
        have HCL := Lib.hid hcl
        clear hcl
        go_wp2_with (first
          | (go_at_call 59; refine (next_any ⟨Z, 0, none⟩ x _ (by omega) (by omega) x0 xf).mono ?_; rw [HY.out]; rintro e wa ⟨rfl, hwa⟩
             have HSa : Hid (MKS w a b Z U y (.slice Av j cV) L wa) := Lib.hid (by rw [hwa]; exact HS5.out.next z2 hZU y)
             obtain ⟨a0, a1, a2, a3, a4, a5, a6⟩ := HSa.out.facts
             clear hwa))
        go_region_law (first
          | (go_simp; go_at_call 45; refine (clueOf_any a b 1 0 s _ HP.out HA.out rfl).mono ?_; rw [HCL.out]; rintro e w7 ⟨rfl, hb7⟩
             have HB7 : Hid (Below wa.heap.size wa w7) := Lib.hid (below_undrew hb7)
             have HS7 := Lib.hid (HSa.out.call HB7.out)
             have HC7 := Lib.hid HS7.out.pc
             have HO7 : Hid (w7.ownsRow (U + 1) 37 3 (.slice Av j cV) j (cv L)) := Lib.hid (by have := HS7.out.ro; rw [HLL.out] at this; exact this)
             have d2 : w7.cell? ⟨U, 2, none⟩ = some (.slice Av j cV) := HC7.out.cell (show 2 < 3 by omega)
             have d3 : (w7.alloc (.cells #[.int .i64 ck, .int .i64 ca, .int .i64 cb] 37)).cell? ⟨U, 2, none⟩ = some (.slice Av j cV) := (HC7.out.alloc _).cell (show 2 < 3 by omega)
             have hz7 : U + 1 ≤ w7.heap.size := HC7.out.lt
             clear hb7)
          | (refine step_appC rfl (.tmp 58) (.tmp 64) 31 rfl (U + 1) 37 i0 (.agg #[.int .i64 0, .int .i64 0, .int .i64 0]) 3 24 Try.underlying31 hi hy0i hy1 hy2i rfl (by decide) (.slice Av j cV) j (cv L) rfl (HO7.out.alloc _) ⟨w7.heap.size, 0, none⟩ 1 1 [.int .i64 ck, .int .i64 ca, .int .i64 cb] rfl rfl (news_c (Cells.new (n := 3) rfl rfl)) (one_c ck ca cb) (by unfold maxLen; omega) (by omega) (by simp; omega) ?_; intro v9 w9 hown9 hgrow9
             have hO9 : w9.ownsRow (U + 1) 37 3 v9 (j + 1) (cv (L ++ [(ck, ca, cb)])) := by rw [← cv_snoc]; exact hown9
             obtain ⟨A9, c9, rfl, _⟩ := own_kc hO9 (by rw [List.length_append, HLL.out]; rfl)
             have HO9 := Lib.hid hO9
             have HC9 := Lib.hid ((HC7.out.alloc _).keptC hgrow9 (fun e => by have := (HO7.out.lt U e).1; omega))
             have HB9 : Hid (Below (U + 1) w7 w9) := Lib.hid (((Below.refl (U + 1) w7).alloc hz7 _).grown hgrow9 (by simp; omega) (fun k hk => (HO7.out.lt k hk).1))
             have y2 : w9.cell? ⟨U, 2, none⟩ = some (.slice Av j cV) := HC9.out.cell (show 2 < 3 by omega)
             have yf2 := HC9.out.frozen (show 2 < 3 by omega)
             clear hown9 hgrow9 hO9))
        all_goals
          have HS9 := Lib.hid (HS7.out.lk.belowB HB9.out (by omega))
          have HZ9 := Lib.hid ((HS7.out.zc).below HB9.out (by omega))
          go_wp2_with fail
          go_roundw
          case rel =>
            refine ⟨j + 1, .slice A9 (j + 1) c9, by omega, by go_num, ?_⟩
            rw [HSN.out, HCL.out]
            refine ⟨HS9.out.set (by show _ ≤ U; omega) _, HZ9.out.far (by show U ≠ Z; omega) _, (HC9.out.set_ (show 2 < 3 by omega) (.slice A9 (j + 1) c9)).congr (fun i hi3 => ?_), ?_⟩
            · have : i = 0 ∨ i = 1 ∨ i = 2 := by omega
              rcases this with rfl | rfl | rfl <;> rfl
            · rw [List.length_append, HLL.out]
              exact ownsRow_setCell_below HO9.out (by show U < U + 1; omega) _
          case measure => simp [intOf]; omega
      · have HAK := Lib.hid (mkX_ask (z := y2) HP.out (show kd = 0 ∨ kd = 2 ∨ kd = 3 ∨ kd = 4 by omega))
        have hk1 : (kd == 1) = false := by rw [beq_eq_false_iff_ne]; exact h1
        have HK4 := Lib.hid (show kd = 0 ∨ kd = 2 ∨ kd = 3 ∨ kd = 4 by omega)
        obtain ⟨xn, hxn⟩ : ∃ xn, mkX a b kd y2 = xn := ⟨_, rfl⟩
        have HX := Lib.hid hxn
        have HSN : Hid (mkN a b s q (j + 1) = (y2, L ++ [clK a b kd xn s])) := Lib.hid (by rw [HST.out, if_neg h1, hxn])
        rw [hxn] at HAK
        obtain ⟨⟨ck, ca, cb⟩, hcl⟩ : ∃ c, clK a b kd xn s = c := ⟨_, rfl⟩
        have HCL := Lib.hid hcl
        clear hcl hxn
        go_wp2_with (first
          | (go_at_call 59; refine (next_any ⟨Z, 0, none⟩ x _ (by omega) (by omega) x0 xf).mono ?_; rw [HY.out]; rintro e wa ⟨rfl, hwa⟩
             have HSa : Hid (MKS w a b Z U y (.slice Av j cV) L wa) := Lib.hid (by rw [hwa]; exact HS5.out.next z2 hZU y)
             obtain ⟨a0, a1, a2, a3, a4, a5, a6⟩ := HSa.out.facts
             clear hwa))
        have e2 : wa.drew.cell? ⟨Z, 0, none⟩ = some (.int .i64 y) := a2
        have e3 : wa.drew.frozen? ⟨Z, 0, none⟩ = false := a3
        refine wp_region_held_drew (S := (fun w' => w'.cell? ⟨w.heap.size, 0, none⟩ = some (.int .i64 a) ∧ w'.cell? ⟨w.heap.size, 1, none⟩ = some (.int .i64 b))) (by kernel_rfl) ⟨a0, a1⟩ (fun hHeld => ?_)
        (refine wpAnyH_take (i := 0) (v := ?_) rfl (by kernel_rfl) (by kernel_rfl) (by kernel_rfl) (fun _ _ _ h => h) (Or.inl ⟨by rfl, by intro w hSw; (try dsimp only at hSw); go_simp; try with_reducible rfl⟩) (by assumption) ?_; try simp only [Act.put, List.getElem_toArray, List.getElem_cons_zero, List.setIfInBounds_toArray, List.set_cons_zero, List.set_cons_succ])
        (refine wpAnyH_take (i := 1) (v := ?_) rfl (by kernel_rfl) (by kernel_rfl) (by kernel_rfl) (fun _ _ _ h => h) (Or.inl ⟨by rfl, by intro w hSw; (try dsimp only at hSw); go_simp; try with_reducible rfl⟩) (by assumption) ?_; try simp only [Act.put, List.getElem_toArray, List.getElem_cons_zero, List.getElem_cons_succ, List.setIfInBounds_toArray, List.set_cons_zero, List.set_cons_succ])
        (refine wpAnyH_take (i := 2) (v := ?_) rfl (by kernel_rfl) (by kernel_rfl) (by kernel_rfl) (fun _ _ _ h => h) (Or.inl ⟨by rfl, by intro w hSw; (try dsimp only at hSw); go_simp; try with_reducible rfl⟩) (by assumption) ?_; try simp only [Act.put, List.getElem_toArray, List.getElem_cons_zero, List.getElem_cons_succ, List.setIfInBounds_toArray, List.set_cons_zero, List.set_cons_succ])
        (refine wpAnyH_ready (rs := [3]) (by kernel_rfl) (by simp) (AllReadyH.cons rfl (fun K hK => ?_) AllReadyH.nil); rw [if_pos (by rfl)]; simp only [List.getElem_toArray, List.getElem_cons_zero, List.getElem_cons_succ]; go_wp2_with ((go_at_call 59; refine (next_any ⟨Z, 0, none⟩ y _ (by omega) (by omega) e2 e3).mono ?_; rw [HY2.out]; rintro e wb ⟨rfl, hwb⟩; have HSb : Hid (MKS w a b Z U y2 (.slice Av j cV) L wb) := Lib.hid (by rw [hwb]; exact (HSa.out.call (bel_drew (Below.refl _ _))).next z2 hZU y2); obtain ⟨b0, b1, b2, b3, b4, b5, b6⟩ := HSb.out.facts; clear hwb)); refine hK.out _ _ ⟨b0, b1⟩ (fun hHeld => ?_); clear hK K; try simp only [Act.put, List.getElem_toArray, List.getElem_cons_zero, List.getElem_cons_succ, List.setIfInBounds_toArray, List.set_cons_zero, List.set_cons_succ])
        (refine wpAnyH_ready (rs := [4]) (by kernel_rfl) (by simp) (AllReadyH.cons rfl (fun K hK => ?_) AllReadyH.nil); rw [if_pos (by rfl)]; simp only [List.getElem_toArray, List.getElem_cons_zero, List.getElem_cons_succ]; go_wp2_with ((go_at_call 44; refine (askedBy_any a b kd y2 _ HP.out HK4.out (by omega) (by omega)).mono ?_; rw [HX.out]; rintro e w4 ⟨rfl, hb4⟩; have HS4 := Lib.hid (HSb.out.call hb4); obtain ⟨d0, d1, d2', d3', d4, d5, d6⟩ := HS4.out.facts; clear hb4)); refine hK.out _ _ ⟨d0, d1⟩ (fun hHeld => ?_); clear hK K; try simp only [Act.put, List.getElem_toArray, List.getElem_cons_zero, List.getElem_cons_succ, List.setIfInBounds_toArray, List.set_cons_zero, List.set_cons_succ])
        (refine wpAnyH_take (i := 5) (v := ?_) rfl (by kernel_rfl) (by kernel_rfl) (by kernel_rfl) (fun _ _ _ h => h) (Or.inl ⟨by rfl, by intro w hSw; (try dsimp only at hSw); go_simp; try with_reducible rfl⟩) (by assumption) ?_; try simp only [Act.put, List.getElem_toArray, List.getElem_cons_zero, List.getElem_cons_succ, List.setIfInBounds_toArray, List.set_cons_zero, List.set_cons_succ])
        refine wpAnyH_done (by kernel_rfl) ?_ _
        go_wp2_with fail
        go_region_law (first
          | (go_simp; go_at_call 45; refine (clueOf_any a b kd xn s _ HP.out HA.out HAK.out).mono ?_; rw [HCL.out]; rintro e w7 ⟨rfl, hb7⟩
             have HB7 : Hid (Below w4.heap.size w4 w7) := Lib.hid (below_undrew hb7)
             have HS7 := Lib.hid (HS4.out.call HB7.out)
             have HC7 := Lib.hid HS7.out.pc
             have HO7 : Hid (w7.ownsRow (U + 1) 37 3 (.slice Av j cV) j (cv L)) := Lib.hid (by have := HS7.out.ro; rw [HLL.out] at this; exact this)
             have d2 : w7.cell? ⟨U, 2, none⟩ = some (.slice Av j cV) := HC7.out.cell (show 2 < 3 by omega)
             have d3 : (w7.alloc (.cells #[.int .i64 ck, .int .i64 ca, .int .i64 cb] 37)).cell? ⟨U, 2, none⟩ = some (.slice Av j cV) := (HC7.out.alloc _).cell (show 2 < 3 by omega)
             have hz7 : U + 1 ≤ w7.heap.size := HC7.out.lt
             clear hb7)
          | (refine step_appC rfl (.tmp 58) (.tmp 64) 31 rfl (U + 1) 37 i0 (.agg #[.int .i64 0, .int .i64 0, .int .i64 0]) 3 24 Try.underlying31 hi hy0i hy1 hy2i rfl (by decide) (.slice Av j cV) j (cv L) rfl (HO7.out.alloc _) ⟨w7.heap.size, 0, none⟩ 1 1 [.int .i64 ck, .int .i64 ca, .int .i64 cb] rfl rfl (news_c (Cells.new (n := 3) rfl rfl)) (one_c ck ca cb) (by unfold maxLen; omega) (by omega) (by simp; omega) ?_; intro v9 w9 hown9 hgrow9
             have hO9 : w9.ownsRow (U + 1) 37 3 v9 (j + 1) (cv (L ++ [(ck, ca, cb)])) := by rw [← cv_snoc]; exact hown9
             obtain ⟨A9, c9, rfl, _⟩ := own_kc hO9 (by rw [List.length_append, HLL.out]; rfl)
             have HO9 := Lib.hid hO9
             have HC9 := Lib.hid ((HC7.out.alloc _).keptC hgrow9 (fun e => by have := (HO7.out.lt U e).1; omega))
             have HB9 : Hid (Below (U + 1) w7 w9) := Lib.hid (((Below.refl (U + 1) w7).alloc hz7 _).grown hgrow9 (by simp; omega) (fun k hk => (HO7.out.lt k hk).1))
             have y2 : w9.cell? ⟨U, 2, none⟩ = some (.slice Av j cV) := HC9.out.cell (show 2 < 3 by omega)
             have yf2 := HC9.out.frozen (show 2 < 3 by omega)
             clear hown9 hgrow9 hO9))
        all_goals
          have HS9 := Lib.hid (HS7.out.lk.belowB HB9.out (by omega))
          have HZ9 := Lib.hid ((HS7.out.zc).below HB9.out (by omega))
          go_wp2_with fail
          go_roundw
          case rel =>
            refine ⟨j + 1, .slice A9 (j + 1) c9, by omega, by go_num, ?_⟩
            rw [HSN.out, HCL.out]
            refine ⟨HS9.out.set (by show _ ≤ U; omega) _, HZ9.out.far (by show U ≠ Z; omega) _, (HC9.out.set_ (show 2 < 3 by omega) (.slice A9 (j + 1) c9)).congr (fun i hi3 => ?_), ?_⟩
            · have : i = 0 ∨ i = 1 ∨ i = 2 := by omega
              rcases this with rfl | rfl | rfl <;> rfl
            · rw [List.length_append, HLL.out]
              exact ownsRow_setCell_below HO9.out (by show U < U + 1; omega) _
          case measure => simp [intOf]; omega
    · obtain rfl : j = k0 := by omega
      have hki : ¬ ((j : Int) < (j : Int)) := by omega
      obtain ⟨A9, c9, e9, hK9⟩ := own_kc HO.out (HLN.out j)
      cases e9
      have K9 := Lib.hid hK9
      have HLJ := Lib.hid (HLN.out j)
      clear hK9
      go_wp2_with fail
      refine bodyPost_ret (v := .tuple #[.agg #[.int .i64 a, .int .i64 b, .slice Av j cV], .bool true]) (by simp [results, Try.results18, go_sem, s0, s1, s2]) rfl ?_
      unfold mpA
      rw [HD.out, HV.out]
      have hE := HS5.out.lk.ended (a' := a) (b' := b) (cs := (mkN a b s q j).2) (lo := U + 1) (c := cV) (A := Av) (ok := true) (by rw [HLJ.out]; exact K9.out) (by omega)
      rw [HLJ.out] at hE
      exact hE

end Go.Proofs.Ytgopaflggbgplaa
