/- Apply in the program and in the model, and the law on it. -/
import Derived.Test.YtpnagaokmfaaiaaB6
namespace Go.Proofs.Ytpnagaokmfaaiaa
open Go.RowKit

/-- the row behind a change -/
def appF (r s : ByteArray) : ByteArray := strOf r.size (mulF (dg r) (cf r.size (lets s)))

end Go.Proofs.Ytpnagaokmfaaiaa
