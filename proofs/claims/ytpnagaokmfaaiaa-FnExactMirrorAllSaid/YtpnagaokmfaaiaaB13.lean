/- A number as a text, the text of some places, a number put first: in the model. -/
import Derived.Test.YtpnagaokmfaaiaaB12
import Derived.Test.YtpnagaokmfaaiaaO6
namespace Go.Proofs.Ytpnagaokmfaaiaa
open Go.RowKit

theorem txt_app (l r : List Nat) : txt (l ++ r) = txt l ++ txt r := by
  apply ByteArray.ext
  rw [ByteArray.data_append]
  simp [txt]

end Go.Proofs.Ytpnagaokmfaaiaa
