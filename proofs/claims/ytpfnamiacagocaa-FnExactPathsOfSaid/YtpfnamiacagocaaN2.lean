/- Methods in the model: LeadHead, LeadsIn, LeadRows, courses, hunt bells. -/
import Derived.Test.YtpfnamiacagocaaN1
namespace Go.Proofs.Ytpfnamiacagocaa
open Go.RowKit
set_option linter.unusedSimpArgs false
set_option linter.unusedVariables false

end Go.Proofs.Ytpfnamiacagocaa
