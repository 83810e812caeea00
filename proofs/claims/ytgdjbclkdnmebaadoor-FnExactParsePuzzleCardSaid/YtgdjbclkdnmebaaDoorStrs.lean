/- Lists of texts marked and looked at again by the law, and compared. For lists of the call's own. -/
import Derived.Test.YtgdjbclkdnmebaaDoorText
import Derived.Test.YtgdjbclkdnmebaaDoorPair
namespace Go.Proofs.YtgdjbclkdnmebaaDoor
open Go.ChangeShapes Go.WideShapes Go.ChangeAt Go.RowKit Go.Joins

/-- Texts as cells. -/
def strF (ts : List ByteArray) (j : Nat) : Value := .string (ts.getD j ByteArray.empty)

/-- A list of texts handed back: empty, or cells of a block that is known. -/
def OwnS (w : World) (B : Nat) (A : Option Addr) (n : Nat) (ts : List ByteArray) : Prop :=
  ts.length = n ∧ n ≤ 100000000 ∧ (n = 0 ∨ ∃ g, A = some ⟨g, 0, none⟩ ∧ B ≤ g ∧ Cells w g n (strF ts))

theorem OwnS.keep {w w' : World} {B : Nat} {A : Option Addr} {n : Nat} {ts : List ByteArray} (h : OwnS w B A n ts) (hb : Below w.heap.size w w') : OwnS w' B A n ts :=
  ⟨h.1, h.2.1, h.2.2.imp id fun ⟨g, e, hg, hC⟩ => ⟨g, e, hg, hC.call hb⟩⟩

/-- The digits of a mark. -/
def mkT : Nat → Nat → ByteArray → ByteArray
  | 0, _, out => out
  | f + 1, k, out => if k = 0 then out else mkT f (k / 10) (strOfNums [48 + (k : Int) % 10] ++ out)

theorem mkT_zero (f : Nat) (out : ByteArray) : mkT f 0 out = out := by cases f <;> simp [mkT]

/-- The text of a mark. -/
def markB (k : Nat) : ByteArray := strOfNums [109] ++ mkT 18 k ByteArray.empty

/-- Marks: the texts of 1, 2, .. -/
def smarkF (j : Nat) : Value := .string (markB (j + 1))

theorem own_keeps {w w' : World} {base : Nat} {e : TypeId} {size : Nat} {v : Value} {n : Nat} {xs : List Value} (h : w.ownsRow base e size v n xs) (hb : Below w.heap.size w w') : w'.ownsRow base e size v n xs :=
  h.kept (row := none) ⟨hb.os, hb.tape, hb.output, hb.size, fun i hi _ => hb.block i hi⟩ (Classical.em _)

theorem news_of {W : World} {B : Nat} {cs : Array Value} {t : TypeId} (hB : B = W.heap.size) : ∀ j u, cs.toList[j]? = some u → (W.alloc (.cells cs t)).cell? ((⟨B, 0, none⟩ : Addr).add j) = some u := by
  subst hB
  exact World.news_of_block (heap_alloc_new W _)

/-- Texts as values. -/
def sv (ts : List ByteArray) : List Value := ts.map .string

theorem sv_snoc (ts : List ByteArray) (s : ByteArray) : sv (ts ++ [s]) = sv ts ++ [.string s] := by simp [sv]

theorem own_strs {w : World} {base : Nat} {t : TypeId} {v : Value} {ts : List ByteArray} {n : Nat} (h : w.ownsRow base t 1 v n (sv ts)) (hn : n ≤ 100000000) :
    ∃ A c, v = .slice A n c ∧ OwnS w base A n ts := by
  have hl : ts.length = n := by simpa [sv] using h.1
  rcases Nat.eq_zero_or_pos n with h0 | h0
  · subst h0
    rcases h.2 with ⟨rfl, _⟩ | ⟨g, cap, cur, rfl, _⟩
    · exact ⟨none, 0, rfl, hl, by omega, .inl rfl⟩
    · exact ⟨_, cap, rfl, hl, by omega, .inl rfl⟩
  · obtain ⟨g, c, rfl, hb, hlt⟩ := h.form h0
    refine ⟨_, c, rfl, hl, hn, .inr ⟨g, rfl, hb, hlt, fun j hj => ⟨?_, h.frozenAt j⟩⟩⟩
    rw [h.cellAt j (by omega)]
    unfold sv; rw [List.getElem?_map, List.getElem?_eq_getElem (by omega)]
    simp [strF, List.getD, List.getElem?_eq_getElem (show j < ts.length by omega)]

theorem info_string : (Tryd.prog.info? 9).map (fun i => (i.zero, i.size, i.bytes)) = some (some (.string ByteArray.empty), 1, 16) := by kernel_rfl

/-- A list of one text that has just been made. -/
theorem ownS_one {W : World} {B g : Nat} {s : ByteArray} {t : TypeId} (hg : g = W.heap.size) (hB : B ≤ g) : OwnS (W.alloc (.cells #[.string s] t)) B (some ⟨g, 0, none⟩) 1 [s] := by
  subst hg
  exact ⟨rfl, by decide, .inr ⟨_, rfl, hB, by simp, fun j hj => by
    rw [World.cell?_alloc_new, World.frozen?_alloc_new]
    obtain rfl : j = 0 := by omega
    exact ⟨rfl, rfl⟩⟩⟩

theorem OwnS.base {w : World} {B B' : Nat} {A : Option Addr} {n : Nat} {ts : List ByteArray} (h : OwnS w B A n ts) (hB : B' ≤ B) : OwnS w B' A n ts :=
  ⟨h.1, h.2.1, h.2.2.imp id fun ⟨g, e, hg, hC⟩ => ⟨g, e, by omega, hC⟩⟩

/-- What lies below a place is kept by what changes nothing below it. -/
theorem OwnS.lt {w : World} {B : Nat} {A : Option Addr} {n : Nat} {ts : List ByteArray} (h : OwnS w B A n ts) {j : Nat} (hj : j < n) : ∃ g, A = some ⟨g, 0, none⟩ ∧ B ≤ g ∧ Cells w g n (strF ts) := by
  rcases h.2.2 with h0 | h1
  · omega
  · exact h1

end Go.Proofs.YtgdjbclkdnmebaaDoor
