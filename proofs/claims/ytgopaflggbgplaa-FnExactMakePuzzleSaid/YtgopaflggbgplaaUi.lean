/- Whether a code fits a clue: DoesFit of both programs. No conditions. -/
import Derived.Test.YtgopaflggbgplaaUh
namespace Go.Proofs.Ytgopaflggbgplaa
open Go.ChangeShapes Go.WideShapes Go.ChangeAt Go.RowKit Go.Joins

/-- A lock and a clue in two blocks of the call's own. -/
abbrev LC (w : World) (a b k x y : Int) (w' : World) : Prop :=
  w'.cell? ⟨w.heap.size, 0, none⟩ = some (.int .i64 a) ∧ w'.cell? ⟨w.heap.size, 1, none⟩ = some (.int .i64 b) ∧ w'.cell? ⟨w.heap.size + 1, 0, none⟩ = some (.int .i64 k) ∧ w'.cell? ⟨w.heap.size + 1, 1, none⟩ = some (.int .i64 x) ∧ w'.cell? ⟨w.heap.size + 1, 2, none⟩ = some (.int .i64 y) ∧ Below w.heap.size w w' ∧ w.heap.size + 1 < w'.heap.size

theorem LC.below {w W W' : World} {a b k x y : Int} (h : LC w a b k x y W) (hb : Below W.heap.size W W') : LC w a b k x y W' := by
  obtain ⟨h0, h1, h2, h3, h4, h5, h6⟩ := h
  exact ⟨by rw [hb.cell (p := ⟨w.heap.size, 0, none⟩) (by show w.heap.size < W.heap.size; omega), h0], by rw [hb.cell (p := ⟨w.heap.size, 1, none⟩) (by show w.heap.size < W.heap.size; omega), h1], by rw [hb.cell (p := ⟨w.heap.size + 1, 0, none⟩) h6, h2], by rw [hb.cell (p := ⟨w.heap.size + 1, 1, none⟩) h6, h3], by rw [hb.cell (p := ⟨w.heap.size + 1, 2, none⟩) h6, h4], bel_call h5 hb, Nat.lt_of_lt_of_le h6 hb.size⟩

theorem call_LC {K : FuncId} {args : Array Value} {v : Value} {w W : World} {a b k x y : Int} (h : LC w a b k x y W) (c : Calls Try.prog K args W fun e w' => e = .returned v ∧ Below W.heap.size W w') :
    Calls Try.prog K args W fun e w' => e = .returned v ∧ LC w a b k x y w' :=
  c.mono fun _ _ ⟨he, hb⟩ => ⟨he, h.below hb⟩

theorem LC_new (w : World) (a b k x y : Int) (t u : TypeId) : LC w a b k x y ((w.alloc (.cells #[.int .i64 a, .int .i64 b] t)).alloc (.cells #[.int .i64 k, .int .i64 x, .int .i64 y] u)).drew := by
  refine ⟨by simp, by simp, by simp, by simp, by simp, ?_, by simp⟩
  (repeat (first | assumption | exact Below.refl _ _ | (refine Below.alloc ?_ (by first | omega | (simp; done) | (simp; omega)) _) | (refine Below.setCell ?_ (by first | omega | (simp; done) | (simp; omega)) _) | refine bel_drewN ?_ _ | refine bel_drew ?_ | (refine bel_call ?_ (by assumption))))

theorem LC_new0 (w : World) (a b k x y : Int) (t u : TypeId) : LC w a b k x y ((w.alloc (.cells #[.int .i64 a, .int .i64 b] t)).alloc (.cells #[.int .i64 k, .int .i64 x, .int .i64 y] u)) := by
  refine ⟨by simp, by simp, by simp, by simp, by simp, ?_, by simp⟩
  (repeat (first | assumption | exact Below.refl _ _ | (refine Below.alloc ?_ (by first | omega | (simp; done) | (simp; omega)) _) | (refine Below.setCell ?_ (by first | omega | (simp; done) | (simp; omega)) _) | refine bel_drewN ?_ _ | refine bel_drew ?_ | (refine bel_call ?_ (by assumption))))

set_option maxHeartbeats 2000000 in
theorem fits_any (a b k x y : Int) (s : ByteArray) (w : World) (hp : puzB a b = true) (hs : askB a b s = true) (h : cluB a b (k, x, y) = true) :
    Calls Try.prog 55 #[.agg #[.int .i64 a, .int .i64 b], .agg #[.int .i64 k, .int .i64 x, .int .i64 y], .string s] w fun e w' => e = .returned (.bool (fitC a b s (k, x, y))) ∧ Below w.heap.size w w' := by
  have HS := Lib.hid hs
  have HP := Lib.hid hp
  have HQ := Lib.hid (cluB_ask h)
  dsimp only at HQ
  have HF := Lib.hid (fitC_clK (s := s) h)
  clear hp hs h
  have D := Lib.hid (LC_new w a b k x y 30 37)
  have heq := eql_clue
  go_enter Try.func55, Try.ntmps55
  go_wp2_with fail
  obtain ⟨wo, e0⟩ : ∃ wo : World, wo = (w.alloc (.cells #[.int .i64 a, .int .i64 b] 30)).alloc (.cells #[.int .i64 k, .int .i64 x, .int .i64 y] 37) := ⟨_, rfl⟩
  rw [← e0] at D ⊢
  clear e0
  obtain ⟨c1, hc1⟩ : ∃ c, (clK a b k x s).1 = c := ⟨_, rfl⟩
  obtain ⟨c2, hc2⟩ : ∃ c, (clK a b k x s).2.1 = c := ⟨_, rfl⟩
  obtain ⟨c3, hc3⟩ : ∃ c, (clK a b k x s).2.2 = c := ⟨_, rfl⟩
  have HC1 := Lib.hid hc1
  have HC2 := Lib.hid hc2
  have HC3 := Lib.hid hc3
  have HV : Hid (fitC a b s (k, x, y) = (decide (k = c1) && (decide (x = c2) && decide (y = c3)))) := Lib.hid (by rw [HF.out, ← hc1, ← hc2, ← hc3, Bool.eq_iff_iff]; simp [Prod.ext_iff])
  clear hc1 hc2 hc3 HF
  go_region_held3 (LC w a b k x y) (first | assumption | exact D.out | go_keep)
    ((go_at_call 45; refine (call_LC (by assumption) (clueOf_any _ _ _ _ _ _ HP.out HS.out HQ.out)).mono ?_; rw [HC1.out, HC2.out, HC3.out]; rintro e w1 ⟨rfl, hS⟩))
  go_wp2_with fail
  go_ret
  exact ⟨ret_bool HV.out.symm, hS.2.2.2.2.2.1⟩

/-- What DoesFit answers. -/
def dfB (a b : Int) (c : Clu) (s : ByteArray) : Bool := puzB a b && cluB a b c && askB a b s
def dfV (a b : Int) (c : Clu) (s : ByteArray) : Bool := dfB a b c s && fitC a b s c

theorem dfB_yes {a b : Int} {c : Clu} {s : ByteArray} (h1 : puzB a b = true) (h2 : cluB a b c = true) (h3 : askB a b s = true) : dfB a b c s = true := by unfold dfB; rw [h1, h2, h3]; rfl

theorem dfB_no {a b : Int} {c : Clu} {s : ByteArray} (h : puzB a b = false ∨ cluB a b c = false ∨ askB a b s = false) : dfB a b c s = false := by
  unfold dfB
  rcases h with h | h | h <;> rw [h] <;> simp

theorem ask_puz {a b : Int} {s : ByteArray} (h : puzB a b = true) : askB a b s = isCodeB a b s := by unfold askB; rw [(puzB_yes h).1]; rfl

/-- The answer where there is none. -/
theorem df_no {a b : Int} {c : Clu} {s : ByteArray} (h : dfB a b c s = false) : (.tuple #[.bool false, .bool false] : Value) = .tuple #[.bool (dfV a b c s), .bool (dfB a b c s)] := by unfold dfV; rw [h]; rfl

theorem df_yes {a b : Int} {c : Clu} {s : ByteArray} (h : dfB a b c s = true) : (.tuple #[.bool (fitC a b s c), .bool true] : Value) = .tuple #[.bool (dfV a b c s), .bool (dfB a b c s)] := by unfold dfV; rw [h]; rfl

theorem ret_val {v u : Value} (h : v = u) : Ending.returned v = .returned u := by rw [h]

end Go.Proofs.Ytgopaflggbgplaa
