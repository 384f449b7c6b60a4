/- Facts of the whole program that every law's claim wants, reckoned once. -/
import Derived.Test.YtjmdhfjemaoebaaRows
import Derived.JoinedOf
import Derived.KernelRfl
namespace Go.Proofs.Ytjmdhfjemaoebaa
set_option maxRecDepth 20000
open Go
theorem whole_facts : (Try.prog.mayEnter && (Try.prog.liftsFinal == false) && (Try.prog.make == some .cut)) = true := by kernel_rfl
theorem whole_may : Try.prog.mayEnter = true := by
  have h := whole_facts
  simp only [Bool.and_eq_true] at h
  exact h.1.1
theorem whole_lifts : Try.prog.liftsFinal = false := by
  have h := whole_facts
  simp only [Bool.and_eq_true, beq_iff_eq] at h
  exact h.1.2
theorem whole_make : Try.prog.make = some .cut := by
  have h := whole_facts
  simp only [Bool.and_eq_true, beq_iff_eq] at h
  exact h.2
end Go.Proofs.Ytjmdhfjemaoebaa
