/- A list of turns that came in, copied and counted by the law. No conditions. -/
import Derived.Test.YtgdjbclkdnmebaaDoorHasTurns
import Derived.Laws.MakeOwn
namespace Go.Proofs.YtgdjbclkdnmebaaDoor
open Go.ChangeShapes Go.WideShapes Go.ChangeAt Go.RowKit Go.Joins

/-- A list of turns that came in. -/
structure ArgT (w : World) (A : Option Addr) (n : Nat) (ts : List (Int × Int)) : Prop where
  len : ts.length = n
  at_ : n = 0 ∨ ∃ b off, A = some ⟨b, off, none⟩ ∧ b < w.heap.size ∧ ∀ k, k < n → w.cell? ⟨b, off + k * 2, none⟩ = some (.int .i64 (ts.getD k (0, 0)).1) ∧ w.cell? ⟨b, off + k * 2 + 1, none⟩ = some (.int .i64 (ts.getD k (0, 0)).2)

theorem ArgT.below {w w' : World} {A : Option Addr} {n : Nat} {ts : List (Int × Int)} (h : ArgT w A n ts) (hb : Below w.heap.size w w') : ArgT w' A n ts :=
  ⟨h.len, h.at_.imp id fun ⟨b, off, e, hb', hc⟩ => ⟨b, off, e, Nat.lt_of_lt_of_le hb' hb.size, fun k hk => ⟨by rw [hb.cell (p := ⟨b, off + k * 2, none⟩) hb']; exact (hc k hk).1, by rw [hb.cell (p := ⟨b, off + k * 2 + 1, none⟩) hb']; exact (hc k hk).2⟩⟩⟩

theorem run_make_rowN {P : Program} (t e : TypeId) (i : TypeInfo) (z : Value) (ht : P.underlying t = some (.slice e)) (hi : P.info? e = some i) (hz : i.zero = some z)
    (kl kc : IntKind) (n c : Nat) (hnc : n ≤ c) (hbytes : i.bytes * c ≤ 281474976710656) (h63 : c ≤ 9223372036854775807) (w : World) :
    (Instr.makeSlice t (.int kl (n : Int)) (.int kc (c : Int))).run P w = .ok (.slice (some ⟨w.heap.size, 0, none⟩) n c) (w.alloc (.cells (madeCells z.cells (c * i.size)) e)) := by
  have hb : (i.bytes : Int) * (c : Int) ≤ 281474976710656 := by
    have h : ((i.bytes * c : Nat) : Int) ≤ 281474976710656 := by omega
    rwa [Int.natCast_mul] at h
  have hr := run_make (P := P) w t e i z ht hi hz kl kc n c (by omega) (by omega) hb (by omega)
  simp only [Int.toNat_natCast] at hr
  exact hr

end Go.Proofs.YtgdjbclkdnmebaaDoor
