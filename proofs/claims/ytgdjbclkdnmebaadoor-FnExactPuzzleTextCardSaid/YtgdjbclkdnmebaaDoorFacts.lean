/- What the program as a whole is: three closed facts that every row asks. No conditions. -/
import Derived.Test.YtgdjbclkdnmebaaDoorBase
namespace Go.Proofs.YtgdjbclkdnmebaaDoor

set_option maxRecDepth 100000 in
theorem whole : (Tryd.pinned.checked.prog.mayEnter && (Tryd.pinned.checked.prog.liftsFinal == Rows.fnExactPinsTextRow.lifted) && (Tryd.pinned.checked.prog.make == some Rows.fnExactPinsTextRow.make)) = true := by kernel_rfl

theorem whole_all : Tryd.pinned.checked.prog.mayEnter = true ∧ Tryd.pinned.checked.prog.liftsFinal = Rows.fnExactPinsTextRow.lifted ∧ Tryd.pinned.checked.prog.make = some Rows.fnExactPinsTextRow.make := by
  have h := whole
  generalize Tryd.pinned.checked.prog.mayEnter = x at h ⊢
  generalize Tryd.pinned.checked.prog.liftsFinal = y at h ⊢
  generalize Tryd.pinned.checked.prog.make = z at h ⊢
  rw [Bool.and_eq_true, Bool.and_eq_true, beq_iff_eq, beq_iff_eq] at h
  exact ⟨h.1.1, h.1.2, h.2⟩

end Go.Proofs.YtgdjbclkdnmebaaDoor
