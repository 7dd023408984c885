/- Walks of the two tests for a row. -/
import Derived.Test.YtpnagaokmfaaiaaA4
namespace Go.Proofs.Ytpnagaokmfaaiaa
open Go.RowKit

end Go.Proofs.Ytpnagaokmfaaiaa
