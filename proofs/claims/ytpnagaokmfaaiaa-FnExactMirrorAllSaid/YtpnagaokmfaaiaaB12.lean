/- MirrorChange in the program. -/
import Derived.Test.YtpnagaokmfaaiaaB11
namespace Go.Proofs.Ytpnagaokmfaaiaa
open Go.RowKit

/-- mirrored digits, the last k of them laid -/
def mirTo (n : Nat) (f : Nat → Nat) (k j : Nat) : Nat := if n ≤ j + k ∧ j < n then 49 + n - (f (n - 1 - j) - 48) else 0
theorem mirTo_zero (n : Nat) (f : Nat → Nat) : dig8 (mirTo n f 0) = zero8 := by
  have : ∀ i, mirTo n f 0 i = 0 := fun i => by unfold mirTo; rw [if_neg (by omega)]
  simp [dig8, zero8, this]
theorem mirTo_succ {n : Nat} (f : Nat → Nat) {k : Nat} (hk : k < n) : setF (mirTo n f k) (n - 1 - k) (49 + n - (f k - 48)) = mirTo n f (k + 1) := by
  funext j
  unfold setF mirTo
  by_cases e : j = n - 1 - k
  · subst e
    rw [if_pos rfl, if_pos (by omega), show n - 1 - (n - 1 - k) = k by omega]
  · rw [if_neg e]
    by_cases h : n ≤ j + k ∧ j < n
    · rw [if_pos h, if_pos (by omega)]
    · rw [if_neg h, if_neg (by omega)]
theorem mirTo_all (n : Nat) (f : Nat → Nat) : mirTo n f n = mirF n f := by
  funext j
  unfold mirTo mirF
  by_cases h : j < n
  · rw [if_pos (by omega), if_pos h]
  · rw [if_neg (by omega), if_neg h]
theorem isRow_mir {n : Nat} {f : Nat → Nat} (h : IsRow n f) : IsRow n (mirF n f) := by
  have hm : ∀ i, i < n → mirF n f i = 49 + n - (f (n - 1 - i) - 48) := fun i hi => by simp [mirF, hi]
  refine isRow_mk h.three h.eight (fun i hi => ?_) (fun i hi => ?_) (fun i j hi hj e => ?_) (fun i hi => by simp [mirF]; omega)
  · rw [hm i hi]; have := h.lo (n - 1 - i) (by omega); have := h.hi (n - 1 - i) (by omega); omega
  · rw [hm i hi]; have := h.lo (n - 1 - i) (by omega); have := h.hi (n - 1 - i) (by omega); omega
  · rw [hm i hi, hm j hj] at e
    have := h.lo (n - 1 - i) (by omega); have := h.hi (n - 1 - i) (by omega)
    have := h.lo (n - 1 - j) (by omega); have := h.hi (n - 1 - j) (by omega)
    have := h.inj (n - 1 - i) (n - 1 - j) (by omega) (by omega) (by omega)
    omega

end Go.Proofs.Ytpnagaokmfaaiaa
