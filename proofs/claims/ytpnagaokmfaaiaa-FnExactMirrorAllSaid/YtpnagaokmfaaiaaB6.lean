/- ChangeRow in the program and in the model, and the law on it. -/
import Derived.Test.YtpnagaokmfaaiaaB5
import Derived.Test.YtpnagaokmfaaiaaQ3
namespace Go.Proofs.Ytpnagaokmfaaiaa
open Go.RowKit

theorem isStr_rnds (n : Nat) (h8 : n ≤ 8) : IsStr n (rdf n) (rnds n) := by
  have e : rnds n = strOf n (rdf n) := strOf_congr (f := fun i => 49 + i) (g := rdf n) fun i hi => by simp [rdf, hi]
  rw [e]
  exact isStr_strOf n _ fun i hi => by simp only [rdf, hi, if_true]; omega

end Go.Proofs.Ytpnagaokmfaaiaa
