/- Walks of the two tests for a row. -/
import Derived.Test.YtpnagaokmfaaiaaDoorA4
namespace Go.Proofs.YtpnagaokmfaaiaaDoor
open Go.RowKit

end Go.Proofs.YtpnagaokmfaaiaaDoor
