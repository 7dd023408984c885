/- The text of a list of changes in the model. -/
import Derived.Test.YtfocnflnpabmkaaT2
namespace Go.Proofs.Ytfocnflnpabmkaa
open Go.RowKit
set_option linter.unusedSimpArgs false

end Go.Proofs.Ytfocnflnpabmkaa
