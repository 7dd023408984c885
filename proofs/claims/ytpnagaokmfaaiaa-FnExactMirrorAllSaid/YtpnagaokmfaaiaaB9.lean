/- Places and swaps in the program. -/
import Derived.Test.YtpnagaokmfaaiaaB8
namespace Go.Proofs.Ytpnagaokmfaaiaa
open Go.RowKit

end Go.Proofs.Ytpnagaokmfaaiaa
