/- Bells at home, in the program. -/
import Derived.Test.YtpfnamiacagocaaM2
import Derived.Test.YtpfnamiacagocaaW2
namespace Go.Proofs.Ytpfnamiacagocaa
open Go.RowKit
set_option linter.unusedSimpArgs false
set_option linter.unusedVariables false

/-- bells at home from place i on, k places -/
def homeR (f : Nat → Nat) (i k : Nat) : List Nat := ((List.range' i k).filter fun i => f i == 49 + i).map (· + 1)
theorem homeR_all (n : Nat) (f : Nat → Nat) : homeR f 0 n = home n f := by unfold homeR home; rw [List.range_eq_range']
theorem homeR_yes {f : Nat → Nat} {i k : Nat} (h : (f i == 49 + i) = true) : homeR f i (k + 1) = (i + 1) :: homeR f (i + 1) k := by
  unfold homeR
  rw [List.range'_succ, List.filter_cons_of_pos (by exact h)]
  rfl
theorem homeR_no {f : Nat → Nat} {i k : Nat} (h : (f i == 49 + i) = false) : homeR f i (k + 1) = homeR f (i + 1) k := by
  unfold homeR
  rw [List.range'_succ, List.filter_cons_of_neg (by simp [h])]

end Go.Proofs.Ytpfnamiacagocaa
