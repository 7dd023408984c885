/- sameInts and sameLists. -/
import Derived.Test.YtpnagaokmfaaiaaDoorO3
namespace Go.Proofs.YtpnagaokmfaaiaaDoor
open Go.RowKit
set_option linter.unusedSimpArgs false

end Go.Proofs.YtpnagaokmfaaiaaDoor
