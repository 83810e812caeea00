/- A list of turns that came in, copied and counted by the law. No conditions. -/
import Derived.Test.YtilnjlcljjpnmaaHasTurns
import Derived.Laws.MakeOwn
namespace Go.Proofs.Ytilnjlcljjpnmaa
open Go.ChangeShapes Go.WideShapes Go.ChangeAt Go.RowKit Go.Joins

/-- A list of turns that came in. -/
structure ArgT (w : World) (A : Option Addr) (n : Nat) (ts : List (Int × Int)) : Prop where
  len : ts.length = n
  at_ : n = 0 ∨ ∃ b off, A = some ⟨b, off, none⟩ ∧ b < w.heap.size ∧ ∀ k, k < n → w.cell? ⟨b, off + k * 2, none⟩ = some (.int .i64 (ts.getD k (0, 0)).1) ∧ w.cell? ⟨b, off + k * 2 + 1, none⟩ = some (.int .i64 (ts.getD k (0, 0)).2)

theorem ArgT.below {w w' : World} {A : Option Addr} {n : Nat} {ts : List (Int × Int)} (h : ArgT w A n ts) (hb : Below w.heap.size w w') : ArgT w' A n ts :=
  ⟨h.len, h.at_.imp id fun ⟨b, off, e, hb', hc⟩ => ⟨b, off, e, Nat.lt_of_lt_of_le hb' hb.size, fun k hk => ⟨by rw [hb.cell (p := ⟨b, off + k * 2, none⟩) hb']; exact (hc k hk).1, by rw [hb.cell (p := ⟨b, off + k * 2 + 1, none⟩) hb']; exact (hc k hk).2⟩⟩⟩

theorem szTurnS_any (A : Option Addr) (n c : Nat) (w : World) (hn : n ≤ 9223372036854775807) :
    Calls Try.prog 49 #[.slice A n c, .int .i64 1048576] w fun e w' => e = .returned (.int .i64 (if n ≤ 1048576 then 1048576 - (n : Int) else -1)) ∧ w = w' := by
  by_cases h : n ≤ 1048576
  · go_enter Try.func49, Try.ntmps49
    go_wp2
    go_ret
    exact ⟨ret_int (by first | rfl | rw [if_pos h]), rfl⟩
  · go_enter Try.func49, Try.ntmps49
    go_wp2
    go_ret
    exact ⟨ret_int (by first | rfl | rw [if_neg h]), rfl⟩

theorem run_make_rowN {P : Program} (t e : TypeId) (i : TypeInfo) (z : Value) (ht : P.underlying t = some (.slice e)) (hi : P.info? e = some i) (hz : i.zero = some z)
    (kl kc : IntKind) (n c : Nat) (hnc : n ≤ c) (hbytes : i.bytes * c ≤ 281474976710656) (h63 : c ≤ 9223372036854775807) (w : World) :
    (Instr.makeSlice t (.int kl (n : Int)) (.int kc (c : Int))).run P w = .ok (.slice (some ⟨w.heap.size, 0, none⟩) n c) (w.alloc (.cells (madeCells z.cells (c * i.size)) e)) := by
  have hb : (i.bytes : Int) * (c : Int) ≤ 281474976710656 := by
    have h : ((i.bytes * c : Nat) : Int) ≤ 281474976710656 := by omega
    rwa [Int.natCast_mul] at h
  have hr := run_make (P := P) w t e i z ht hi hz kl kc n c (by omega) (by omega) hb (by omega)
  simp only [Int.toNat_natCast] at hr
  exact hr

theorem info_turn : (Try.prog.info? 68).map (fun i => (i.zero, i.size, i.bytes)) = some (some (.agg #[.int .i64 0, .int .i64 0]), 2, 16) := by kernel_rfl

theorem make_turns (n : Nat) (hn : n ≤ 1048576) (W : World) : (Instr.makeSlice 36 (.int .i64 (n : Int)) (.int .i64 (n : Int))).run Try.prog W = .ok (.slice (some ⟨W.heap.size, 0, none⟩) n n) (W.alloc (.cells (madeCells #[.int .i64 0, .int .i64 0] (n * 2)) 68)) := by
  obtain ⟨i0, hi, hz0, hz1, hz2⟩ := info_parts info_turn
  have := run_make_rowN (P := Try.prog) 36 68 i0 _ Try.underlying36 hi hz0 .i64 .i64 n n (Nat.le_refl _) (by rw [hz2]; omega) (by omega) W
  rw [hz1] at this
  exact this

theorem made_turns (w : World) (n : Nat) : Cells (w.alloc (.cells (madeCells #[.int .i64 0, .int .i64 0] (n * 2)) 68)) w.heap.size (n * 2) (fun _ => .int .i64 0) :=
  ⟨by simp, fun j hj => by
    rw [World.cell?_alloc_new, World.frozen?_alloc_new]
    refine ⟨?_, rfl⟩
    have h1 : j < (madeCells #[Value.int .i64 0, .int .i64 0] (n * 2)).size := by rw [size_madeCells]; exact hj
    rw [Array.getElem?_eq_getElem h1]
    have h2 : j % 2 = 0 ∨ j % 2 = 1 := by omega
    rcases h2 with h2 | h2 <;> simp [madeCells, h2]⟩

theorem toTurnS_any (A : Option Addr) (n c : Nat) (ts : List (Int × Int)) (w : World) (hn : n ≤ 1048576) (hA : ArgT w A n ts) :
    Calls Try.prog 51 #[.slice A n c] w fun e w' => e = .returned (.slice (some ⟨w.heap.size, 0, none⟩) n n) ∧ Cells w' w.heap.size (n * 2) (turnF ts) ∧ Below w.heap.size w w' := by
  have hmk := make_turns n hn
  have HM := Lib.hid (made_turns w n)
  have hat := hA.at_
  rcases hat with h0 | ⟨b, off, rfl, hb, hc⟩
  · have h0' : n ≤ 0 := by omega
    clear h0 hA
    go_enter Try.func51, Try.ntmps51
    go_wp2_with fail
    clear hmk
    go_loopw [4] (fun i wr => i = .int .i64 ((0 : Nat) : Int) ∧ Cells wr w.heap.size (n * 2) (fun _ => .int .i64 0) ∧ Below w.heap.size w wr) (fun _ _ => 0)
    case atStart => exact ⟨rfl, HM.out, by (repeat (first | assumption | exact Below.refl _ _ | (refine Below.alloc ?_ (by first | omega | (simp; done) | (simp; omega)) _) | (refine Below.setCell ?_ (by first | omega | (simp; done) | (simp; omega)) _) | refine bel_drewN ?_ _ | refine bel_drew ?_ | (refine bel_call ?_ (by assumption))))⟩
    case round =>
      obtain ⟨rfl, hCr, hB⟩ := hrel
      have HR := Lib.hid hCr
      clear hCr
      go_wp2_with fail
      go_ret
      exact ⟨rfl, HR.out.congr (fun j hj => by omega), hB⟩
  · have HC := Lib.hid hc
    clear hc hA
    go_enter Try.func51, Try.ntmps51
    go_wp2_with fail
    clear hmk
    go_loopw [4] (fun i wr => ∃ k : Nat, k ≤ n ∧ i = .int .i64 k ∧ Cells wr w.heap.size (n * 2) (fun j => if j < k * 2 then turnF ts j else .int .i64 0) ∧ Below w.heap.size w wr) (fun i _ => n - (intOf i).toNat)
    case atStart => exact ⟨0, by omega, rfl, HM.out.congr (fun j _ => by simp), by (repeat (first | assumption | exact Below.refl _ _ | (refine Below.alloc ?_ (by first | omega | (simp; done) | (simp; omega)) _) | (refine Below.setCell ?_ (by first | omega | (simp; done) | (simp; omega)) _) | refine bel_drewN ?_ _ | refine bel_drew ?_ | (refine bel_call ?_ (by assumption))))⟩
    case round =>
      obtain ⟨k, hk, rfl, hCr, hB⟩ := hrel
      have HR := Lib.hid hCr
      clear hCr
      by_cases hlt : k < n
      · have o0 : wr.cell? ⟨b, off + k * 2, none⟩ = some (.int .i64 (ts.getD k (0, 0)).1) := by rw [hB.cell (p := ⟨b, off + k * 2, none⟩) hb]; exact (HC.out k hlt).1
        have o1 : wr.cell? ⟨b, off + k * 2 + 1, none⟩ = some (.int .i64 (ts.getD k (0, 0)).2) := by rw [hB.cell (p := ⟨b, off + k * 2 + 1, none⟩) hb]; exact (HC.out k hlt).2
        generalize hx : (ts.getD k (0, 0)).1 = x at o0
        generalize hy : (ts.getD k (0, 0)).2 = y at o1
        have HX := Lib.hid hx
        have HY := Lib.hid hy
        clear hx hy
        go_wp2_with (go_at_call 94; refine (toTurn_any _ _ _).mono ?_; rintro e w3 ⟨rfl, hb3⟩; have h3 := Lib.hid (HR.out.call hb3); have p1 := h3.out.cell (show k * 2 < n * 2 by omega); have p2 := h3.out.frozen (show k * 2 < n * 2 by omega); have p3 := h3.out.cell (show k * 2 + 1 < n * 2 by omega); have p4 := h3.out.frozen (show k * 2 + 1 < n * 2 by omega))
        have HW : Hid (Cells ((w3.setCell ⟨w.heap.size, k * 2, none⟩ (.int .i64 x)).setCell ⟨w.heap.size, k * 2 + 1, none⟩ (.int .i64 y)) w.heap.size (n * 2) (fun j => if j < (k + 1) * 2 then turnF ts j else .int .i64 0)) := Lib.hid (by
          refine ((h3.out.set_ (show k * 2 < n * 2 by omega) (.int .i64 x)).set_ (show k * 2 + 1 < n * 2 by omega) (.int .i64 y)).congr (fun j hj => ?_)
          by_cases e1 : j = k * 2 + 1
          · subst e1; rw [if_pos rfl, if_pos (by omega), turnF_1, HY.out]
          · rw [if_neg e1]
            by_cases e0 : j = k * 2
            · subst e0; rw [if_pos rfl, if_pos (by omega), turnF_0, HX.out]
            · rw [if_neg e0]
              by_cases e2 : j < k * 2
              · rw [if_pos e2, if_pos (by omega)]
              · rw [if_neg e2, if_neg (by omega)])
        go_roundw
        case rel => exact ⟨k + 1, by omega, by go_num, HW.out, ((bel_call hB hb3).setCell (Nat.le_refl _) _).setCell (Nat.le_refl _) _⟩
        case measure => simp [intOf]; omega
      · go_wp2_with fail
        go_ret
        exact ⟨rfl, HR.out.congr (fun j hj => by rw [if_pos (by omega)]), hB⟩

end Go.Proofs.Ytilnjlcljjpnmaa
