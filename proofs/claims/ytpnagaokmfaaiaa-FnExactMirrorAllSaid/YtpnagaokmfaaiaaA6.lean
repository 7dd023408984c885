/- The program's own test for a row. -/
import Derived.Test.YtpnagaokmfaaiaaA5
namespace Go.Proofs.Ytpnagaokmfaaiaa
open Go.RowKit

/-- eight marks as cells -/
def bool8 (f : Nat → Bool) : Array Value := #[.bool (f 0), .bool (f 1), .bool (f 2), .bool (f 3), .bool (f 4), .bool (f 5), .bool (f 6), .bool (f 7)]
theorem bool8_get (f : Nat → Bool) : ∀ i, i < 8 → (bool8 f)[i]? = some (.bool (f i)) := by
  intro i h
  have : i = 0 ∨ i = 1 ∨ i = 2 ∨ i = 3 ∨ i = 4 ∨ i = 5 ∨ i = 6 ∨ i = 7 := by omega
  rcases this with rfl | rfl | rfl | rfl | rfl | rfl | rfl | rfl <;> rfl
def markAt (f : Nat → Bool) (b : Nat) (i : Nat) : Bool := if i = b then true else f i
theorem bool8_set (f : Nat → Bool) : ∀ b, b < 8 → (bool8 f).setIfInBounds b (.bool true) = bool8 (markAt f b) := by
  intro i h
  have : i = 0 ∨ i = 1 ∨ i = 2 ∨ i = 3 ∨ i = 4 ∨ i = 5 ∨ i = 6 ∨ i = 7 := by omega
  rcases this with rfl | rfl | rfl | rfl | rfl | rfl | rfl | rfl <;> rfl

end Go.Proofs.Ytpnagaokmfaaiaa
