/- The text of a list of changes in the model. -/
import Derived.Test.YtpfnamiacagocaaT2
namespace Go.Proofs.Ytpfnamiacagocaa
open Go.RowKit
set_option linter.unusedSimpArgs false

end Go.Proofs.Ytpfnamiacagocaa
