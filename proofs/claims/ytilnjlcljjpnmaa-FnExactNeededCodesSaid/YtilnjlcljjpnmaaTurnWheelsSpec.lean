/- Codes behind turns, as the model makes them, and one turn alone. No conditions. -/
import Derived.Test.YtilnjlcljjpnmaaTurnWheels
namespace Go.Proofs.Ytilnjlcljjpnmaa
open Go.ChangeShapes Go.WideShapes Go.ChangeAt Go.RowKit Go.Joins

theorem textOf_dg {s : ByteArray} (h : ∀ k (hk : k < s.size), 48 ≤ (s[k].toNat : Int)) : textOf (dg s) = s := by
  have hl : (textOf (dg s)).data.toList = s.data.toList := by
    unfold textOf dg
    rw [strOfNums_data, List.map_map, List.map_map]
    refine (List.map_congr_left (fun c hc => ?_)).trans (List.map_id _)
    show UInt8.ofNat (48 + ((c.toNat : Int) - 48)).toNat = c
    rw [show (48 + ((c.toNat : Int) - 48)).toNat = c.toNat by omega]
    exact UInt8.ofNat_toNat
  have hd : (textOf (dg s)).data = s.data := Array.toList_inj.1 hl
  generalize textOf (dg s) = u at hd
  cases u; cases s; simp at hd; rw [hd]

theorem ask_text {a b : Int} {s : ByteArray} (h : Asked a b s) : textOf (dg s) = s := textOf_dg fun _ hk => (digits_at h.digits hk).1

theorem turns_one (a x y : Int) : turnsB a [(x, y)] = turnB a x y := by unfold turnsB; simp

theorem one_turn (x y : Int) (w : World) : Cells (w.alloc (.cells #[.int .i64 x, .int .i64 y] 68)) w.heap.size (1 * 2) (turnF [(x, y)]) :=
  ⟨by simp, fun j hj => by
    rw [World.cell?_alloc_new, World.frozen?_alloc_new]
    refine ⟨?_, rfl⟩
    have h : j = 0 ∨ j = 1 := by omega
    rcases h with rfl | rfl <;> rfl⟩

theorem one_turn_at (x y : Int) (w : World) {g : Nat} (hg : g = w.heap.size) : Cells (w.alloc (.cells #[.int .i64 x, .int .i64 y] 68)) g (1 * 2) (turnF [(x, y)]) := by
  subst hg; exact one_turn x y w

theorem turnWheels_one (a b x y : Int) (s : ByteArray) (g c : Nat) (w : World) (hs : s.size ≤ maxLen) (hC : Cells w g (1 * 2) (turnF [(x, y)])) :
    Calls Try.prog 136 #[.agg #[.int .i64 a, .int .i64 b], .string s, .slice (some ⟨g, 0, none⟩) 1 c] w fun e w' => e = .returned (.tuple #[.string (twZ a b s [(x, y)]), .bool (okT a b s [(x, y)])]) ∧ Below w.heap.size w w' :=
  turnWheels_any a b s [(x, y)] 1 g c w hs rfl (by omega) hC

theorem turnWheel_any (a b x y : Int) (s : ByteArray) (w : World) (hs : s.size ≤ maxLen) :
    Calls Try.prog 113 #[.agg #[.int .i64 a, .int .i64 b], .string s, .agg #[.int .i64 x, .int .i64 y]] w fun e w' => e = .returned (.tuple #[.string (twZ a b s [(x, y)]), .bool (okT a b s [(x, y)])]) ∧ Below w.heap.size w w' := by
  have HS := Lib.hid hs
  clear hs
  go_enter Try.func113, Try.ntmps113
  go_wp2_with (go_at_call 136; refine (turnWheels_one _ _ _ _ _ _ _ _ HS.out (one_turn_at _ _ _ (by simp))).mono ?_; rintro e w1 ⟨rfl, hb⟩)
  go_ret2
  refine ⟨rfl, ?_⟩
  (repeat (first | assumption | exact Below.refl _ _ | (refine Below.alloc ?_ (by first | omega | (simp; done) | (simp; omega)) _) | (refine Below.setCell ?_ (by first | omega | (simp; done) | (simp; omega)) _) | refine bel_drewN ?_ _ | refine bel_drew ?_ | (refine bel_call ?_ (by assumption))))

end Go.Proofs.Ytilnjlcljjpnmaa
