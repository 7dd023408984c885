/- IsPalindrome in the program and in the model. -/
import Derived.Test.YtnoepobbecobbaaDA
import Derived.Test.YtnoepobbecobbaaJ3
import Derived.Test.YtnoepobbecobbaaH1
import Derived.Deep.RegionHeld3
namespace Go.Proofs.Ytnoepobbecobbaa
open Go.RowKit
set_option linter.unusedSimpArgs false
set_option linter.unusedVariables false

end Go.Proofs.Ytnoepobbecobbaa
