/- Turned rows: the program's and the model's. -/
import Derived.Test.YtpnagaokmfaaiaaA11
import Derived.Laws.IdiomStrings
namespace Go.Proofs.Ytpnagaokmfaaiaa
open Go.RowKit

theorem dig8_congr {f g : Nat → Nat} (h : ∀ i, i < 8 → f i = g i) : dig8 f = dig8 g := by
  unfold dig8
  rw [h 0 (by omega), h 1 (by omega), h 2 (by omega), h 3 (by omega), h 4 (by omega), h 5 (by omega), h 6 (by omega), h 7 (by omega)]
theorem fill_zero {n : Nat} {f : Nat → Nat} (h : IsRow n f) : dig8 (fill f (fun _ => 0) n) = dig8 (invF n f) := by
  refine dig8_congr fun i _ => ?_
  by_cases hi : i < n
  · exact fill_inv h _ i hi
  · rw [fill_free f _ n i (fun k hk e => by have := h.hi k hk; have := h.lo k hk; omega)]
    simp [invF, cutF, hi]
theorem dig8_fill0 (f : Nat → Nat) : dig8 (fill f (fun _ => 0) 0) = zero8 := rfl

end Go.Proofs.Ytpnagaokmfaaiaa
