/- Places and swaps in the program. -/
import Derived.Test.YtpnagaokmfaaiaaDoorB8
namespace Go.Proofs.YtpnagaokmfaaiaaDoor
open Go.RowKit

end Go.Proofs.YtpnagaokmfaaiaaDoor
