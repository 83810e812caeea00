/- What the program as a whole is: closed facts that every row asks, each by itself (in one they want more memory than there is). No conditions. -/
import Derived.Test.YtaajklkldfgppaaBase
namespace Go.Proofs.Ytaajklkldfgppaa

theorem mayEnter_parts {P : Program} (h0 : (match behindMainWord (wordsSigns P.initOrder.toList) with | c :: rest => (stripLifts liftWords (c :: rest)).1.isEmpty && (stripLifts liftWords (c :: rest)).2.head? == some "cut".toList | [] => false) = true) (h1 : P.laysLater = false) (h2 : P.bearsReflect = false) (h3 : P.doorRows.isEmpty = true) : P.mayEnter = true := by
  unfold Program.mayEnter
  generalize behindMainWord (wordsSigns P.initOrder.toList) = ws at h0 ⊢
  cases ws with
  | nil => exact h0
  | cons c rest =>
    simp only [Bool.and_eq_true] at h0
    obtain ⟨a, b⟩ := h0
    have a' : (stripLifts liftWords (c :: rest)).1 = [] := List.isEmpty_iff.1 a
    have h3' := List.isEmpty_iff.1 h3
    show (_ || _ || _) = true
    rw [a', h1, h2]
    unfold Program.doorFits
    rw [h3']
    have b2 : (stripLifts liftWords (c :: rest)).2.head? = some "cut".toList := by simpa using b
    rw [b2]
    simp

set_option maxRecDepth 100000 in
theorem whole_words : (match behindMainWord (wordsSigns Try.pinned.checked.prog.initOrder.toList) with | c :: rest => (stripLifts liftWords (c :: rest)).1.isEmpty && (stripLifts liftWords (c :: rest)).2.head? == some "cut".toList | [] => false) = true := by kernel_rfl

set_option maxRecDepth 100000 in
theorem whole_later : Try.pinned.checked.prog.laysLater = false := by kernel_rfl

set_option maxRecDepth 100000 in
theorem whole_reflect : Try.pinned.checked.prog.bearsReflect = false := by kernel_rfl

set_option maxRecDepth 100000 in
theorem whole_doors : Try.pinned.checked.prog.doorRows.isEmpty = true := by kernel_rfl

set_option maxRecDepth 100000 in
theorem whole_lifts : (Try.pinned.checked.prog.liftsFinal == Rows.fnExactAddPinRow.lifted) = true := by kernel_rfl

set_option maxRecDepth 100000 in
theorem whole_make : (Try.pinned.checked.prog.make == some Rows.fnExactAddPinRow.make) = true := by kernel_rfl

theorem whole_all : Try.pinned.checked.prog.mayEnter = true ∧ Try.pinned.checked.prog.liftsFinal = Rows.fnExactAddPinRow.lifted ∧ Try.pinned.checked.prog.make = some Rows.fnExactAddPinRow.make :=
  ⟨mayEnter_parts whole_words whole_later whole_reflect whole_doors, beq_iff_eq.1 whole_lifts, beq_iff_eq.1 whole_make⟩

end Go.Proofs.Ytaajklkldfgppaa
