/- HuntBells in the model, and the law. -/
import Derived.Test.YtpfnamiacagocaaD7
namespace Go.Proofs.Ytpfnamiacagocaa
open Go.RowKit
set_option linter.unusedSimpArgs false
set_option linter.unusedVariables false

/-- a slice of numbers of its own, and a flag -/
def IntsAny (P : List Int) (b : Bool) (w : World) (e : Ending) (w' : World) : Prop :=
  ∃ v, e = .returned (.tuple #[v, .bool b]) ∧ New w.heap.size w' 3 v (ints P) ∧ Below w.heap.size w w'
theorem IntsAny.of {xs : List Nat} {b : Bool} {w : World} {e : Ending} {w' : World} (h : NumsAny xs b w e w') : IntsAny (xs.map fun (k : Nat) => (k : Int)) b w e w' := h

end Go.Proofs.Ytpfnamiacagocaa
