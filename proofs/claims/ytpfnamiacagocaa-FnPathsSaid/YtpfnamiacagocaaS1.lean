/- The contracts of strings.Builder and slices.Clone at this program. -/
import Derived.Shelf.Strings.Builder1
import Derived.Shelf.Slices.Clone
import Derived.Test.YtpfnamiacagocaaK2
namespace Go.Proofs.Ytpfnamiacagocaa
open Go.Shelf Go.RowKit
end Go.Proofs.Ytpfnamiacagocaa
