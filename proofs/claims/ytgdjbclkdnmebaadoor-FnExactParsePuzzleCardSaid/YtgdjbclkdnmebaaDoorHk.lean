/- Places and other digits of a guess for a code, as the program reckons them. For two texts of digits. -/
import Derived.Test.YtgdjbclkdnmebaaDoorHj
namespace Go.Proofs.YtgdjbclkdnmebaaDoor
open Go.ChangeShapes Go.WideShapes Go.ChangeAt Go.RowKit Go.Joins

/-- A hint's three cells. -/
def h3F (s : ByteArray) (p o : Int) (j : Nat) : Value := if j = 0 then .string s else if j = 1 then .int .i64 p else .int .i64 o

/-- How often each digit is in the first k places. -/
def ctF (s : ByteArray) (k j : Nat) : Value := .int .i64 (ctN s j k : Nat)

theorem ctF_step {s : ByteArray} {k d : Nat} (hk : k < s.size) (h : (s[k].toNat : Int) = 48 + d) (j : Nat) : (if j = d then .int .i64 ((ctN s d k : Nat) + 1 : Int) else ctF s k j) = ctF s (k + 1) j := by
  unfold ctF
  by_cases e : j = d
  · subst e; rw [if_pos rfl, ctN_yes hk h]; rfl
  · rw [if_neg e, ctN_no hk (fun h2 => e (by omega))]

theorem h3F_step {s t : ByteArray} {k : Nat} (h : plN s t (k + 1) = plN s t k + 1) (j : Nat) : (if j = 1 then .int .i64 ((plN s t k : Nat) + 1 : Int) else h3F s (plN s t k : Nat) 0 j) = h3F s (plN s t (k + 1) : Nat) 0 j := by
  unfold h3F
  by_cases e : j = 1
  · subst e; rw [if_pos rfl, if_neg (by omega), if_pos rfl, h]; rfl
  · rw [if_neg e, if_neg e, if_neg e]

theorem hk_digit {s : ByteArray} (hd : Digits (dg s)) {k : Nat} (hk : k < s.size) : ∃ d : Nat, d ≤ 9 ∧ (s[k].toNat : Int) = 48 + d := by
  obtain ⟨h1, h2⟩ := digits_at hd hk
  exact ⟨((s[k].toNat : Int) - 48).toNat, by omega, by omega⟩

theorem cells_lit {W : World} {g n : Nat} {xs : Array Value} {t : TypeId} {f : Nat → Value} (hg : g = W.heap.size) (h : ∀ j, j < n → xs[j]? = some (f j)) : Cells (W.alloc (.cells xs t)) g n f := by
  subst hg
  exact ⟨by simp, fun j hj => by rw [World.cell?_alloc_new, World.frozen?_alloc_new]; exact ⟨h j hj, rfl⟩⟩

theorem ten_of {p : Nat → Prop} (h0 : p 0) (h1 : p 1) (h2 : p 2) (h3 : p 3) (h4 : p 4) (h5 : p 5) (h6 : p 6) (h7 : p 7) (h8 : p 8) (h9 : p 9) : ∀ j, j < 10 → p j
  | 0, _ => h0 | 1, _ => h1 | 2, _ => h2 | 3, _ => h3 | 4, _ => h4 | 5, _ => h5 | 6, _ => h6 | 7, _ => h7 | 8, _ => h8 | 9, _ => h9

theorem loadVar_cells {P : Program} {w : World} {g : Nat} {ty : TypeId} {vs : List Value} {d : TypeDesc} (hc : ∀ j v, vs[j]? = some v → w.cell? ⟨g, j, none⟩ = some v)
    (hu : P.underlying ty = some d) (hd : (match d with | .struct _ | .array _ _ => true | _ => false) = true) (hi : (P.info? ty).map (·.size) = some vs.length) :
    (loadVar ty ⟨g, 0, none⟩).run P w = .ok (.agg vs.toArray) w := by
  have hl : (loadCells ⟨g, 0, none⟩ vs.length).run P w = .ok vs.toArray w :=
    run_loadCells_list (P := P) w ⟨g, 0, none⟩ vs (fun j v hv => by
      have hadd : (⟨g, 0, none⟩ : Addr).add j = ⟨g, j, none⟩ := by unfold Addr.add; split <;> simp_all
      rw [hadd]
      exact hc j v hv)
  cases hq : P.info? ty with
  | none => simp [hq] at hi
  | some i =>
    have hs : i.size = vs.length := by simpa [hq] using hi
    have hagg : (isAgg ty).run P w = .ok true w := by
      unfold isAgg
      rw [Sem.run_bind, run_underlying hu w]
      cases d <;> simp_all
    simp [loadVar, Sem.run_bind, hagg, sizeOf, typeInfo, hq, hs, hl]

theorem three_of {p : Nat → Prop} (h0 : p 0) (h1 : p 1) (h2 : p 2) : ∀ j, j < 3 → p j
  | 0, _ => h0 | 1, _ => h1 | 2, _ => h2

end Go.Proofs.YtgdjbclkdnmebaaDoor
