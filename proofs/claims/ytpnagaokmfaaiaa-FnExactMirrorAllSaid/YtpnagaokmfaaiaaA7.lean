/- The law on GoodRow; products in the model and in the program. -/
import Derived.Test.YtpnagaokmfaaiaaA6
namespace Go.Proofs.Ytpnagaokmfaaiaa
open Go.RowKit

end Go.Proofs.Ytpnagaokmfaaiaa
