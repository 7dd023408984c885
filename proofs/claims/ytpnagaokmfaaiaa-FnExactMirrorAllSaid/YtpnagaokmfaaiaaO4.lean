/- sameInts and sameLists. -/
import Derived.Test.YtpnagaokmfaaiaaO3
namespace Go.Proofs.Ytpnagaokmfaaiaa
open Go.RowKit
set_option linter.unusedSimpArgs false

end Go.Proofs.Ytpnagaokmfaaiaa
