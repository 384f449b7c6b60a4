import Derived.Test.YtjmdhfjemaoebaaGreatRows
import Derived.JoinedOf
import Derived.KernelRfl
namespace Go.Proofs.YtjmdhfjemaoebaaGreat
set_option maxRecDepth 20000
open Go
theorem whole_facts : (Tryz.prog.mayEnter && (Tryz.prog.liftsFinal == false) && (Tryz.prog.make == some .cut)) = true := by kernel_rfl
theorem whole_may : Tryz.prog.mayEnter = true := by
  have h := whole_facts
  simp only [Bool.and_eq_true] at h
  exact h.1.1
theorem whole_lifts : Tryz.prog.liftsFinal = false := by
  have h := whole_facts
  simp only [Bool.and_eq_true, beq_iff_eq] at h
  exact h.1.2
theorem whole_make : Tryz.prog.make = some .cut := by
  have h := whole_facts
  simp only [Bool.and_eq_true, beq_iff_eq] at h
  exact h.2
end Go.Proofs.YtjmdhfjemaoebaaGreat
