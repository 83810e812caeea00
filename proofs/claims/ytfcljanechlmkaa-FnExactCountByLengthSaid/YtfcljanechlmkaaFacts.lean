/- What the program as a whole is: three closed facts that every row asks. No conditions. -/
import Derived.Test.YtfcljanechlmkaaBase
namespace Go.Proofs.Ytfcljanechlmkaa

set_option maxRecDepth 100000 in
theorem whole : (Try.pinned.checked.prog.mayEnter && (Try.pinned.checked.prog.liftsFinal == Rows.fnExactStopsOfRow.lifted) && (Try.pinned.checked.prog.make == some Rows.fnExactStopsOfRow.make)) = true := by kernel_rfl

theorem whole_all : Try.pinned.checked.prog.mayEnter = true ∧ Try.pinned.checked.prog.liftsFinal = Rows.fnExactStopsOfRow.lifted ∧ Try.pinned.checked.prog.make = some Rows.fnExactStopsOfRow.make := by
  have h := whole
  generalize Try.pinned.checked.prog.mayEnter = x at h ⊢
  generalize Try.pinned.checked.prog.liftsFinal = y at h ⊢
  generalize Try.pinned.checked.prog.make = z at h ⊢
  rw [Bool.and_eq_true, Bool.and_eq_true, beq_iff_eq, beq_iff_eq] at h
  exact ⟨h.1.1, h.1.2, h.2⟩

end Go.Proofs.Ytfcljanechlmkaa
