/- Marks of a list of texts: nothing else is changed. For at most 100000000 texts. -/
import Derived.Test.YtgopaflggbgplaaSs
namespace Go.Proofs.Ytgopaflggbgplaa
open Go.ChangeShapes Go.WideShapes Go.ChangeAt Go.RowKit Go.Joins

/-- A list of texts in a block between two bounds, or an empty one. -/
def LS (w : World) (lo hi : Nat) (A : Option Addr) (ts : List ByteArray) : Prop :=
  ts.length ≤ 100000000 ∧ (ts.length = 0 ∨ ∃ g, A = some ⟨g, 0, none⟩ ∧ lo ≤ g ∧ g < hi ∧ Cells w g ts.length (strF ts))

/-- Its marks. -/
def LSM (w : World) (lo hi : Nat) (A : Option Addr) (ts : List ByteArray) : Prop :=
  ts.length ≤ 100000000 ∧ (ts.length = 0 ∨ ∃ g, A = some ⟨g, 0, none⟩ ∧ lo ≤ g ∧ g < hi ∧ Cells w g ts.length smarkF)

theorem LS.of_own {w : World} {B : Nat} {A : Option Addr} {ts : List ByteArray} (h : OwnS w B A ts.length ts) : LS w B w.heap.size A ts :=
  ⟨h.2.1, h.2.2.imp id fun ⟨g, e, hg, hC⟩ => ⟨g, e, hg, hC.lt, hC⟩⟩

theorem LS.own {w : World} {lo hi : Nat} {A : Option Addr} {ts : List ByteArray} (h : LS w lo hi A ts) : OwnS w lo A ts.length ts :=
  ⟨rfl, h.1, h.2.imp id fun ⟨g, e, hg, _, hC⟩ => ⟨g, e, hg, hC⟩⟩

theorem LS.call {w w' : World} {lo hi : Nat} {A : Option Addr} {ts : List ByteArray} (h : LS w lo hi A ts) (hb : Below w.heap.size w w') : LS w' lo hi A ts :=
  ⟨h.1, h.2.imp id fun ⟨g, e, h1, h2, hC⟩ => ⟨g, e, h1, h2, hC.call hb⟩⟩

theorem LSM.call {w w' : World} {lo hi : Nat} {A : Option Addr} {ts : List ByteArray} (h : LSM w lo hi A ts) (hb : Below w.heap.size w w') : LSM w' lo hi A ts :=
  ⟨h.1, h.2.imp id fun ⟨g, e, h1, h2, hC⟩ => ⟨g, e, h1, h2, hC.call hb⟩⟩

theorem LS.below {w w' : World} {lo hi B : Nat} {A : Option Addr} {ts : List ByteArray} (h : LS w lo hi A ts) (hb : Below B w w') (hB : hi ≤ B) : LS w' lo hi A ts :=
  ⟨h.1, h.2.imp id fun ⟨g, e, h1, h2, hC⟩ => ⟨g, e, h1, h2, hC.below hb (by omega)⟩⟩

theorem LS.keep {w w' : World} {lo hi g0 : Nat} {A : Option Addr} {ts : List ByteArray} (h : LS w lo hi A ts) (hd : hi ≤ g0 ∨ g0 < lo) (hk : ∀ g' m f', g' ≠ g0 → Cells w g' m f' → Cells w' g' m f') : LS w' lo hi A ts :=
  ⟨h.1, h.2.imp id fun ⟨g, e, h1, h2, hC⟩ => ⟨g, e, h1, h2, hk _ _ _ (by omega) hC⟩⟩

end Go.Proofs.Ytgopaflggbgplaa
