/- Plain facts on the place of a row. No program here. -/
import Derived.Test.YtnildepdpkbekaaP6
namespace Go.Proofs.Ytnildepdpkbekaa

/-- how many digits behind place i are less than the one there -/
def lessAt (f : Nat → Nat) (n i : Nat) : Nat := cntLt f (f i) (i + 1) (n - (i + 1))
def placeA (f : Nat → Nat) (n : Nat) : Nat → Nat
  | 0 => 0
  | k + 1 => placeA f n k + lessAt f n k * fact (n - (k + 1))
def placeB (f : Nat → Nat) (n : Nat) : Nat → Nat
  | 0 => 0
  | k + 1 => placeB f n k * (n - k) + lessAt f n k
theorem place_same (f : Nat → Nat) (n : Nat) : ∀ k, k ≤ n → placeB f n k * fact (n - k) = placeA f n k
  | 0, _ => by simp [placeB, placeA]
  | k + 1, h => by
    have ih := place_same f n k (by omega)
    show (placeB f n k * (n - k) + lessAt f n k) * fact (n - (k + 1)) = placeA f n k + lessAt f n k * fact (n - (k + 1))
    rw [← ih, Nat.add_mul, show n - k = (n - (k + 1)) + 1 by omega]
    show _ = placeB f n k * (fact (n - (k + 1)) * (n - (k + 1) + 1)) + _
    rw [Nat.mul_assoc, Nat.mul_comm (n - (k + 1) + 1)]
theorem place_end (f : Nat → Nat) (n : Nat) : placeB f n n = placeA f n n := by
  have := place_same f n n (Nat.le_refl _)
  simpa [fact] using this
theorem lessAt_le (f : Nat → Nat) (n i : Nat) : lessAt f n i ≤ n := Nat.le_trans (cntLt_le _ _ _ _) (by omega)
theorem placeA_le {n : Nat} (f : Nat → Nat) (h8 : n ≤ 8) : ∀ k, placeA f n k ≤ k * 322560
  | 0 => Nat.le_refl _
  | k + 1 => by
    have ih := placeA_le f h8 k
    have h1 := lessAt_le f n k
    have h2 := fact_le (show n - (k + 1) ≤ 8 by omega)
    have h3 : lessAt f n k * fact (n - (k + 1)) ≤ 8 * 40320 := Nat.mul_le_mul (by omega) h2
    show placeA f n k + _ ≤ _
    omega
theorem placeB_le {n : Nat} (f : Nat → Nat) (h8 : n ≤ 8) (k : Nat) (hk : k ≤ n) : placeB f n k ≤ 2580480 := by
  have h1 := place_same f n k hk
  have h2 := placeA_le f h8 k
  have h3 := fact_pos (n - k)
  have h4 : placeB f n k ≤ placeB f n k * fact (n - k) := Nat.le_mul_of_pos_right _ h3
  omega
theorem lessAt_mul_le {n : Nat} (f : Nat → Nat) (h8 : n ≤ 8) (k : Nat) : lessAt f n k * fact (n - (k + 1)) ≤ 322560 := by
  have h1 := lessAt_le f n k
  have h2 := fact_le (show n - (k + 1) ≤ 8 by omega)
  exact Nat.mul_le_mul (show lessAt f n k ≤ 8 by omega) h2
end Go.Proofs.Ytnildepdpkbekaa
