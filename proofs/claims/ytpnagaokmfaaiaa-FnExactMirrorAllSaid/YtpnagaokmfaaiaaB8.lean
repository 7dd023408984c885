/- Places and swaps: lists of numbers, in the model and in the program. -/
import Derived.Test.YtpnagaokmfaaiaaB7
import Derived.Test.YtpnagaokmfaaiaaO5
namespace Go.Proofs.Ytpnagaokmfaaiaa
open Go.RowKit

/-- numbers as elements -/
def nums (xs : List Nat) : List Value := ints (xs.map fun (k : Nat) => (k : Int))
theorem nums_len (xs : List Nat) : (nums xs).length = xs.length := by simp [nums, ints]
theorem nums_snoc (xs : List Nat) (p : Nat) : nums xs ++ [.int .i64 p] = nums (xs ++ [p]) := by simp [nums, ints]

end Go.Proofs.Ytpnagaokmfaaiaa
