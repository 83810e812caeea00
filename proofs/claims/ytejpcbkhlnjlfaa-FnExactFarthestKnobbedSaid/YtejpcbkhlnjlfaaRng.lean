/- The map of what a search has come to, ranged over in whatever order. No conditions. -/
import Derived.Test.YtejpcbkhlnjlfaaMapA
namespace Go.Proofs.Ytejpcbkhlnjlfaa
open Go.ChangeShapes Go.WideShapes Go.ChangeAt Go.RowKit Go.Joins

/-- Block B is the map of the entries L; block r is a range over it; left tells what is still to come. -/
def RngS (w : World) (B r : Nat) (L : List (Ent ByteArray)) (left : Lit → Bool) (cnt : Nat) : Prop := ∃ D, w.ranges Try.prog 9 arrE B r L.length D left cnt ∧ MapL D L

theorem RngS.left_eq {w : World} {B r : Nat} {L : List (Ent ByteArray)} {left : Lit → Bool} {cnt : Nat} (h : RngS w B r L left cnt) : w.rangeLeft B r = cnt := by obtain ⟨D, h1, _⟩ := h; exact h1.left_eq

theorem RngS.alloc {w : World} {B r : Nat} {L : List (Ent ByteArray)} {left : Lit → Bool} {cnt : Nat} (h : RngS w B r L left cnt) (o : Obj) : RngS (w.alloc o) B r L left cnt := by obtain ⟨D, h1, h2⟩ := h; exact ⟨D, h1.alloc o, h2⟩

/-- The key kl has come. -/
def strike (left : Lit → Bool) (t : ByteArray) : Lit → Bool := fun z => left z && !z.sameKey (strK t)

theorem strike_no {left : Lit → Bool} {s t : ByteArray} (h : strike left t (strK s) = false) : left (strK s) = false ∨ s = t := by
  unfold strike at h
  rw [Bool.and_eq_false_iff] at h
  rcases h with h | h
  · exact .inl h
  · right
    have h2 : (strK s).sameKey (strK t) = true := by simpa using h
    have := WideAt.sameKey_eq h2
    unfold strK at this
    injection this with this
    exact bytes_inj this

theorem key_str {v : Value} {kl : Lit} (h : keyOf Try.prog 9 v = some kl) : ∃ x : ByteArray, v = .string x ∧ kl = strK x ∧ x.size ≤ maxLen := by
  have hu := Try.underlying9
  cases v <;> simp [keyOf, hu, mapKey] at h
  exact ⟨_, rfl, h.2.symm, h.1⟩

section
variable {w : World} {ops : Array Oper} {rest : List Oper} {o : Oper} {a : Act} {Q : Exit → Act → World → Prop}

theorem wpList_range_arr (hg : o.guard = none) (m : Operand) (hop : o.op = Op.range 92 m) (B : Nat) (L : List (Ent ByteArray)) (h : MapS w B L) (hs : ∀ e, e ∈ L → e.code.size ≤ maxLen) (hm : a.eval m = .map (some B))
    (hK : ∀ w' left cnt, RngS w' B w.heap.size L left cnt → (∀ e, e ∈ L → left (strK e.code) = true) → w.grownBy w' none → w'.heap.size = w.heap.size + 1 → wpList Try.prog ops Q rest (a.put o.dst (.pointer (some ⟨w.heap.size, 0, none⟩))) w') : wpList Try.prog ops Q (o :: rest) a w := by
  obtain ⟨D, h1, h2⟩ := h
  exact wpList_range_own w hg m 92 hop 9 95 str_law Try.underlying92 arrE B L.length D hm h1 fun w' r1 r2 r3 =>
    hK w' _ _ ⟨D, r1, h2⟩ (fun e he => (h2.has _ (hs e he)).2 (mem_keysE.2 ⟨e, he, rfl⟩)) r2 r3

theorem wpList_next_arr (hg : o.guard = none) (it : Operand) (hop : o.op = Op.next it false) (B r : Nat) (L : List (Ent ByteArray)) (left : Lit → Bool) (cnt : Nat) (hit : a.eval it = .pointer (some ⟨r, 0, none⟩)) (h : RngS w B r L left cnt)
    (hDone : (∀ kl, left kl = false) → wpList Try.prog ops Q rest (a.put o.dst (.tuple #[.bool false])) w)
    (hMore : ∀ (e : Ent ByteArray) (w' : World) (cnt' : Nat), e ∈ L → RngS w' B r L (strike left e.code) cnt' → cnt' < cnt → w.grownBy w' (some r) → w'.heap.size = w.heap.size →
      (Instr.entry (.pointer (some ⟨r, 0, none⟩))).run Try.prog w' = .ok (.tuple #[.string e.code, .agg #[.string e.before, .int .i64 (lastW e), .int .i64 (lastB e), .int .i64 (e.way.length : Int)]]) w' →
      wpList Try.prog ops Q rest (a.put o.dst (.tuple #[.bool true, .string e.code, .agg #[.string e.before, .int .i64 (lastW e), .int .i64 (lastB e), .int .i64 (e.way.length : Int)]])) w') : wpList Try.prog ops Q (o :: rest) a w := by
  obtain ⟨D, h1, h2⟩ := h
  refine wpList_next_ranges (α := ByteArray) (β := ByteArray × Int × Int × Int) w hg it hop 9 str_law arrE Value.string (fun q => arrU q.1 q.2.1 q.2.2.1 q.2.2.2) (fun key kl hk => by obtain ⟨x, rfl, _⟩ := key_str hk; exact ⟨x, rfl⟩)
    (fun v y hv => by obtain ⟨b, x, y, n, rfl, _⟩ := arrE_inv hv; exact ⟨(b, x, y, n), rfl⟩) B r L.length D left cnt hit h1 (fun _ hl => hDone hl) ?_
  intro x q kl y w' cnt' hk hl hv hat hrg hlt hgr hsz hen
  obtain ⟨x', ex, rfl, hxs⟩ := key_str hk
  cases ex
  obtain ⟨e, he, hc⟩ := mem_keysE.1 ((h2.has x hxs).1 (Maps.has_true_of_atKey hat))
  subst hc
  have e1 : y = (arrD q.1 q.2.1 q.2.2.1 q.2.2.2, []) := by
    obtain ⟨b, x, y, n, e2, e3⟩ := arrE_inv hv
    rw [e3]
    unfold arrU at e2
    simp only [Value.agg.injEq, Array.mk.injEq, List.cons.injEq, Value.string.injEq, Value.int.injEq, true_and, and_true] at e2
    obtain ⟨rfl, rfl, rfl, rfl⟩ := e2
    rfl
  have e2 := (hat .nil).symm.trans (h2.at_ e he .nil)
  rw [e1] at e2
  have e3 := arrD_inj e2
  have e4 : arrU q.1 q.2.1 q.2.2.1 q.2.2.2 = .agg #[.string e.before, .int .i64 (lastW e), .int .i64 (lastB e), .int .i64 (e.way.length : Int)] := e3
  rw [e4] at hen ⊢
  exact hMore e w' cnt' he ⟨D, hrg, h2⟩ hlt hgr hsz hen

end

end Go.Proofs.Ytejpcbkhlnjlfaa
