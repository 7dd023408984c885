/- The contracts of strings.Builder and slices.Clone at this program. -/
import Derived.Shelf.Strings.Builder1
import Derived.Shelf.Slices.Clone
import Derived.Test.YtnildepdpkbekaaK2
namespace Go.Proofs.Ytnildepdpkbekaa
open Go.Shelf Go.RowKit
end Go.Proofs.Ytnildepdpkbekaa
