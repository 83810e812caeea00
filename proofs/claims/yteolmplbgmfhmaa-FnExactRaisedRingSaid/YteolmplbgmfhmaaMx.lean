/- The library's own variable holds some integer in every world that fits. No conditions. -/
import Derived.Test.YteolmplbgmfhmaaRh
import Derived.Shelf.Vars
import Derived.HandedShaped
namespace Go.Proofs.Yteolmplbgmfhmaa

theorem mx_of {W : World} (h : W.ShapedOpen Try.prog) : Mx W :=
  cell_of_shapedOpen_int (t := 3) (zero := #[.int .i64 0]) (k := .i64) h (of_decide_eq_true (by kernel_rfl)) (by kernel_rfl) rfl (by kernel_rfl) (by kernel_rfl) Try.underlying3

end Go.Proofs.Yteolmplbgmfhmaa
