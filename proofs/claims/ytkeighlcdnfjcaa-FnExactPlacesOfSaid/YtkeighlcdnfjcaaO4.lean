/- sameInts and sameLists. -/
import Derived.Test.YtkeighlcdnfjcaaO3
namespace Go.Proofs.Ytkeighlcdnfjcaa
open Go.RowKit
set_option linter.unusedSimpArgs false

end Go.Proofs.Ytkeighlcdnfjcaa
