/- The law on GoodRow; products in the model and in the program. -/
import Derived.Test.YtpnagaokmfaaiaaDoorA6
namespace Go.Proofs.YtpnagaokmfaaiaaDoor
open Go.RowKit

end Go.Proofs.YtpnagaokmfaaiaaDoor
