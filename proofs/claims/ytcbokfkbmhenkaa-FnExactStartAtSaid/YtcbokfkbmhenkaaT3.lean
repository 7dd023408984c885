/- The text of a list of changes in the model. -/
import Derived.Test.YtcbokfkbmhenkaaT2
namespace Go.Proofs.Ytcbokfkbmhenkaa
open Go.RowKit
set_option linter.unusedSimpArgs false

end Go.Proofs.Ytcbokfkbmhenkaa
