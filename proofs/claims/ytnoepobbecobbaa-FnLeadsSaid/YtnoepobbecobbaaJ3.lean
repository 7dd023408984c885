/- Halves: isMirrored in the program. -/
import Derived.Test.YtnoepobbecobbaaH1
namespace Go.Proofs.Ytnoepobbecobbaa
open Go.RowKit
set_option linter.unusedSimpArgs false
set_option linter.unusedVariables false

end Go.Proofs.Ytnoepobbecobbaa
