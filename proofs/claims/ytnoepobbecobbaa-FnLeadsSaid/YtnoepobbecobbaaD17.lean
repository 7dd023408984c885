/- StartAt in the program. -/
import Derived.Test.YtnoepobbecobbaaD16
import Derived.StillTailTactics
namespace Go.Proofs.Ytnoepobbecobbaa
open Go.RowKit
set_option linter.unusedSimpArgs false
set_option linter.unusedVariables false

/-- a good method and an index of it -/
def startB (s : ByteArray) (n : Int) (L : List (List Nat)) (k : Int) : Bool := goodM s n L && (decide (0 ≤ k) && decide (k < L.length))

end Go.Proofs.Ytnoepobbecobbaa
