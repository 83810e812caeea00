/- The map of what a search has come to: how its entries read, and what is looked up, laid in and counted there. For texts that are no longer than any may be. -/
import Derived.Test.YtkmgmlgjflnbeaaFarL
import Derived.Maps.RangeWalk
namespace Go.Proofs.Ytkmgmlgjflnbeaa
open Go.ChangeShapes Go.WideShapes Go.ChangeAt Go.RowKit Go.Joins
open Go.Maps (Keyed string_keyed)
open Go.WideMaps (keyOf_string_mk)

/-- How an arrival reads. -/
def arrD (b : ByteArray) (x y n : Int) : DataW Unit := .agg [.lit (.string b.data.toList), .lit (.int .i64 x), .lit (.int .i64 y), .lit (.int .i64 n)]

def arrU (b : ByteArray) (x y n : Int) : Value := .agg #[.string b, .int .i64 x, .int .i64 y, .int .i64 n]

def arrE (v : Value) : Option (DataW Unit × List MemPlace) :=
  match v with
  | .agg cs => match cs.toList with
    | [.string b, .int .i64 x, .int .i64 y, .int .i64 n] => some (arrD b x y n, [])
    | _ => none
  | _ => none

theorem arrE_mk (b : ByteArray) (x y n : Int) : arrE (arrU b x y n) = some (arrD b x y n, []) := rfl

theorem arrE_inv {v : Value} {z : DataW Unit × List MemPlace} (h : arrE v = some z) : ∃ b x y n, v = arrU b x y n ∧ z = (arrD b x y n, []) := by
  unfold arrE at h
  split at h
  · rename_i cs
    split at h
    · rename_i b x y n e
      injection h with h
      refine ⟨b, x, y, n, ?_, h.symm⟩
      unfold arrU
      congr 1
      exact Array.toList_inj.1 e
    · cases h
  · cases h

theorem bytes_inj {b c : ByteArray} (h : b.data.toList = c.data.toList) : b = c := by
  have := Array.toList_inj.1 h
  cases b; cases c; simp at this; rw [this]

theorem arrD_inj {b b' : ByteArray} {x x' y y' n n' : Int} (h : arrD b x y n = arrD b' x' y' n') : arrU b x y n = arrU b' x' y' n' := by
  unfold arrD at h
  simp only [DataW.agg.injEq, List.cons.injEq, DataW.lit.injEq, Lit.string.injEq, Lit.int.injEq, true_and, and_true] at h
  obtain ⟨h1, rfl, rfl, rfl⟩ := h
  rw [bytes_inj h1]

/-- The last turn. -/
def lastW (e : Ent ByteArray) : Int := match e.way with
  | [] => 0
  | j :: _ => ((j / 2 : Nat) : Int)

def lastB (e : Ent ByteArray) : Int := match e.way with
  | [] => 0
  | j :: _ => byJ j

def arrV (e : Ent ByteArray) : Value := arrU e.before (lastW e) (lastB e) (e.way.length : Int)

def arrR (e : Ent ByteArray) : DataW Unit := arrD e.before (lastW e) (lastB e) (e.way.length : Int)

theorem arrV_new (y p : ByteArray) (j : Nat) (u : List Nat) : arrV ⟨y, p, j :: u⟩ = .agg #[.string p, .int .i64 ((j / 2 : Nat) : Int), .int .i64 (byJ j), .int .i64 ((u.length : Int) + 1)] := rfl

def strK (s : ByteArray) : Lit := .string s.data.toList

theorem strK_ne {s t : ByteArray} (h : s ≠ t) : strK s ≠ strK t := fun e => h (bytes_inj (by unfold strK at e; injection e))

theorem str_law : Keyed Try.prog 9 := string_keyed Try.underlying9

theorem str_key {s : ByteArray} (hs : s.size ≤ maxLen) : keyOf Try.prog 9 (.string s) = some (strK s) := keyOf_string_mk Try.underlying9 hs

/-- The map's entries are those of the list. -/
structure MapL (D : DataW Unit) (L : List (Ent ByteArray)) : Prop where
  tidy : Maps.Tidy D
  has : ∀ t : ByteArray, t.size ≤ maxLen → (Maps.has D (strK t) = true ↔ t ∈ keysE L)
  at_ : ∀ e, e ∈ L → ∀ zd, D.atKey (strK e.code) zd = arrR e
  size : Maps.size D = L.length

theorem MapL.put {D : DataW Unit} {L : List (Ent ByteArray)} (h : MapL D L) (e : Ent ByteArray) (hs : e.code.size ≤ maxLen) (hn : ¬ e.code ∈ keysE L) (ht : Maps.Tidy (D.put (strK e.code) (arrR e))) : MapL (D.put (strK e.code) (arrR e)) (L ++ [e]) := by
  have hk := str_law.key (str_key hs)
  refine ⟨ht, fun t hts => ?_, fun f hf zd => ?_, ?_⟩
  · have em : t ∈ keysE (L ++ [e]) ↔ t ∈ keysE L ∨ t = e.code := by simp [keysE]
    by_cases h1 : t = e.code
    · subst h1
      rw [Maps.has_put_same h.tidy.isMap hk, em]
      simp
    · rw [Maps.has_put_other (strK_ne h1), h.has t hts, em]
      simp [h1]
  · rcases List.mem_append.1 hf with hf | hf
    · have : f.code ≠ e.code := fun e1 => hn (e1 ▸ mem_keysE.2 ⟨f, hf, rfl⟩)
      rw [Maps.atKey_put_other (strK_ne this), h.at_ f hf zd]
    · obtain rfl := List.mem_singleton.1 hf
      exact Maps.atKey_put_same h.tidy.isMap hk _ _
  · have hf : Maps.has D (strK e.code) = false := by
      cases hh : Maps.has D (strK e.code)
      · rfl
      · exact absurd ((h.has e.code hs).1 hh) hn
    rw [Maps.size_put h.tidy, hf, h.size, List.length_append]
    rfl

theorem mapL_nil : MapL (.map []) [] := ⟨Maps.tidy_empty, fun t _ => by simp [Maps.has, keysE], fun e he => (by cases he), rfl⟩

/-- Block B is the map of the entries L. -/
def MapS (w : World) (B : Nat) (L : List (Ent ByteArray)) : Prop := ∃ D, w.ownsMap Try.prog 9 arrE B L.length D ∧ MapL D L

theorem MapS.kept {w w' : World} {B : Nat} {L : List (Ent ByteArray)} {row : Option Nat} (h : MapS w B L) (hg : w.grownBy w' row) (hne : some B ≠ row) : MapS w' B L := by
  obtain ⟨D, h1, h2⟩ := h
  exact ⟨D, h1.kept hg hne, h2⟩

theorem MapS.call {w w' : World} {B : Nat} {L : List (Ent ByteArray)} (h : MapS w B L) (hb : Below w.heap.size w w') : MapS w' B L := by
  obtain ⟨D, h1, h2⟩ := h
  refine ⟨D, ?_, h2⟩
  obtain ⟨es, clock, e1, e2⟩ := h1
  exact ⟨es, clock, (hb.block B (Array.getElem?_eq_some_iff.1 e1).1).trans e1, e2⟩

theorem MapS.lt {w : World} {B : Nat} {L : List (Ent ByteArray)} (h : MapS w B L) : B < w.heap.size := by obtain ⟨D, h1, _⟩ := h; exact h1.lt

theorem MapS.made (w : World) : MapS (w.alloc (.map #[] 0)) w.heap.size [] := ⟨.map [], World.ownsMap_made w _ _ _, mapL_nil⟩

theorem zero_arr (w : World) : (zeroValue 53).run Try.prog w = .ok (arrU ByteArray.empty 0 0 0) w := by kernel_rfl

theorem MapS.look {w : World} {B : Nat} {L : List (Ent ByteArray)} (h : MapS w B L) {e : Ent ByteArray} (he : e ∈ L) (hs : e.code.size ≤ maxLen) : (Instr.lookup 48 (.map (some B)) (.string e.code) false).run Try.prog w = .ok (arrV e) w := by
  obtain ⟨D, h1, h2⟩ := h
  obtain ⟨v, ps, hr, hv⟩ := h1.lookup (t := 48) (e := 53) str_law Try.underlying48 (zero_arr w) (arrE_mk _ _ _ _) (str_key hs)
  rw [h2.at_ e he] at hv
  obtain ⟨b, x, y, n, rfl, hz⟩ := arrE_inv hv
  rw [hr]
  have := arrD_inj (congrArg Prod.fst hz)
  rw [← this]; rfl

theorem MapS.look_ok {w : World} {B : Nat} {L : List (Ent ByteArray)} (h : MapS w B L) {e : Ent ByteArray} (he : e ∈ L) (hs : e.code.size ≤ maxLen) : (Instr.lookup 48 (.map (some B)) (.string e.code) true).run Try.prog w = .ok (.tuple #[arrV e, .bool true]) w := by
  obtain ⟨D, h1, h2⟩ := h
  obtain ⟨v, ps, hr, hv⟩ := h1.look_ok (t := 48) (e := 53) str_law Try.underlying48 (zero_arr w) (arrE_mk _ _ _ _) (str_key hs)
  rw [h2.at_ e he] at hv
  rw [(h2.has _ hs).2 (mem_keysE.2 ⟨e, he, rfl⟩)] at hr
  obtain ⟨b, x, y, n, rfl, hz⟩ := arrE_inv hv
  rw [hr]
  have := arrD_inj (congrArg Prod.fst hz)
  rw [← this]; rfl

theorem MapS.look_no {w : World} {B : Nat} {L : List (Ent ByteArray)} (h : MapS w B L) {t : ByteArray} (ht : ¬ t ∈ keysE L) (hs : t.size ≤ maxLen) : (Instr.lookup 48 (.map (some B)) (.string t) true).run Try.prog w = .ok (.tuple #[arrU ByteArray.empty 0 0 0, .bool false]) w := by
  obtain ⟨D, h1, h2⟩ := h
  obtain ⟨v, ps, hr, hv⟩ := h1.look_ok (t := 48) (e := 53) str_law Try.underlying48 (zero_arr w) (arrE_mk _ _ _ _) (str_key hs)
  have hf : Maps.has D (strK t) = false := by
    cases hh : Maps.has D (strK t)
    · rfl
    · exact absurd ((h2.has t hs).1 hh) ht
  rw [Maps.atKey_of_not_has hf] at hv
  rw [hf] at hr
  obtain ⟨b, x, y, n, rfl, hz⟩ := arrE_inv hv
  rw [hr]
  have := arrD_inj (congrArg Prod.fst hz)
  rw [← this]

theorem MapS.store {w : World} {B : Nat} {L : List (Ent ByteArray)} (h : MapS w B L) (e : Ent ByteArray) (hs : e.code.size ≤ maxLen) (hn : ¬ e.code ∈ keysE L) (hl : L.length ≤ 1000000) :
    ∃ w', (Instr.mapUpdate 48 (.map (some B)) (.string e.code) (arrV e)).run Try.prog w = .ok () w' ∧ MapS w' B (L ++ [e]) ∧ w.grownBy w' (some B) := by
  obtain ⟨D, h1, h2⟩ := h
  obtain ⟨w', hr, h3, h4⟩ := h1.update (t := 48) (e := 53) str_law Try.underlying48 (by unfold maxLen; omega) (str_key hs) (arrE_mk e.before (lastW e) (lastB e) (e.way.length : Int))
  exact ⟨w', hr, ⟨_, by rw [List.length_append]; exact h3, h2.put e hs hn (h3.tidy str_law)⟩, h4⟩

theorem field_two (b : ByteArray) (x y n : Int) (W : World) : (Instr.field 53 (.agg #[.string b, .int .i64 x, .int .i64 y, .int .i64 n]) 2).run Try.prog W = .ok (.int .i64 n) W := by kernel_rfl

theorem field_one (b : ByteArray) (x y n : Int) (W : World) : (Instr.field 53 (.agg #[.string b, .int .i64 x, .int .i64 y, .int .i64 n]) 1).run Try.prog W = .ok (.agg #[.int .i64 x, .int .i64 y]) W := by kernel_rfl

theorem field_zero (b : ByteArray) (x y n : Int) (W : World) : (Instr.field 53 (.agg #[.string b, .int .i64 x, .int .i64 y, .int .i64 n]) 0).run Try.prog W = .ok (.string b) W := by kernel_rfl

section
variable {w : World} {ops : Array Oper} {rest : List Oper} {o : Oper} {a : Act} {Q : Exit → Act → World → Prop}

theorem wpList_store_arr (hg : o.guard = none) (m x v : Operand) (hop : o.op = Op.mapUpdate 48 m x v ∨ o.op = Op.insert 48 m x v) (B : Nat) (L : List (Ent ByteArray)) (e : Ent ByteArray) (h : MapS w B L) (hs : e.code.size ≤ maxLen) (hn : ¬ e.code ∈ keysE L) (hl : L.length ≤ 1000000)
    (hm : a.eval m = .map (some B)) (hx : a.eval x = .string e.code) (hv : a.eval v = arrV e) (hK : ∀ w', MapS w' B (L ++ [e]) → w.grownBy w' (some B) → wpList Try.prog ops Q rest (a.put o.dst undef) w') : wpList Try.prog ops Q (o :: rest) a w := by
  refine wpList_plain hg fun K' hK' => ?_
  obtain ⟨w', hrun, r1, r2⟩ := h.store e hs hn hl
  unfold Oper.wp
  rcases hop with hop | hop <;> simp [execOp, hop, hm, hx, hv, hrun, Result.andThen] <;> exact hK' _ _ (hK w' r1 r2)

theorem wpList_len_arr (hg : o.guard = none) (m : Operand) (hop : o.op = Op.call { callee := Callee.builtin Builtin.len, args := #[m], argTypes := #[48] }) (B : Nat) (L : List (Ent ByteArray)) (h : MapS w B L) (hm : a.eval m = .map (some B))
    (hK : wpList Try.prog ops Q rest (a.put o.dst (.int .i64 (L.length : Int))) w) : wpList Try.prog ops Q (o :: rest) a w := by
  obtain ⟨D, h1, h2⟩ := h
  refine wpList_len_own w hg m 48 hop 9 53 Try.underlying48 arrE B L.length D hm h1 ?_
  rw [h2.size]
  exact hK

end

end Go.Proofs.Ytkmgmlgjflnbeaa
