/- TurnMethod in the model. -/
import Derived.Test.YtnoepobbecobbaaD12
namespace Go.Proofs.Ytnoepobbecobbaa
open Go.RowKit
set_option linter.unusedSimpArgs false
set_option linter.unusedVariables false

end Go.Proofs.Ytnoepobbecobbaa
