/- Plain facts on inversions: no program here. -/
import Derived.Test.YtnildepdpkbekaaP3
namespace Go.Proofs.Ytnildepdpkbekaa

/-- how many of the len digits from place lo on are less than v -/
def cntLt (f : Nat → Nat) (v lo : Nat) : Nat → Nat
  | 0 => 0
  | len + 1 => cntLt f v lo len + if f (lo + len) < v then 1 else 0
theorem cntLt_le (f : Nat → Nat) (v lo : Nat) : ∀ len, cntLt f v lo len ≤ len
  | 0 => Nat.le_refl _
  | len + 1 => by have := cntLt_le f v lo len; unfold cntLt; split <;> omega
/-- how many of the first len digits are greater than v -/
def cntGt (f : Nat → Nat) (v : Nat) : Nat → Nat
  | 0 => 0
  | len + 1 => cntGt f v len + if v < f len then 1 else 0
theorem cntGt_le (f : Nat → Nat) (v : Nat) : ∀ len, cntGt f v len ≤ len
  | 0 => Nat.le_refl _
  | len + 1 => by have := cntGt_le f v len; unfold cntGt; split <;> omega
/-- the inversions that begin at the first k places of n -/
def invA (f : Nat → Nat) (n : Nat) : Nat → Nat
  | 0 => 0
  | k + 1 => invA f n k + cntLt f (f k) (k + 1) (n - (k + 1))
/-- the inversions that end at the first k places -/
def invB (f : Nat → Nat) : Nat → Nat
  | 0 => 0
  | k + 1 => invB f k + cntGt f (f k) k
theorem invA_le (f : Nat → Nat) (n : Nat) : ∀ k, invA f n k ≤ k * n
  | 0 => by simp [invA]
  | k + 1 => by
    have := invA_le f n k
    have := cntLt_le f (f k) (k + 1) (n - (k + 1))
    unfold invA
    rw [Nat.succ_mul]; omega
theorem invA_grow (f : Nat → Nat) (n : Nat) : ∀ k, k ≤ n → invA f (n + 1) k = invA f n k + cntGt f (f n) k
  | 0, _ => rfl
  | k + 1, hk => by
    have e : cntLt f (f k) (k + 1) ((n - (k + 1)) + 1) = cntLt f (f k) (k + 1) (n - (k + 1)) + if f n < f k then 1 else 0 := by
      show cntLt f (f k) (k + 1) (n - (k + 1)) + (if f (k + 1 + (n - (k + 1))) < f k then 1 else 0) = _
      rw [show k + 1 + (n - (k + 1)) = n by omega]
    unfold invA cntGt
    rw [invA_grow f n k (by omega), show n + 1 - (k + 1) = (n - (k + 1)) + 1 by omega, e]
    omega
theorem inv_same (f : Nat → Nat) : ∀ n, invA f n n = invB f n
  | 0 => rfl
  | n + 1 => by
    show invA f (n + 1) n + cntLt f (f n) (n + 1) (n + 1 - (n + 1)) = invB f n + cntGt f (f n) n
    rw [invA_grow f n n (Nat.le_refl _), inv_same f n, Nat.sub_self]
    rfl
def evenB (c : Nat) : Bool := c % 2 == 0
theorem evenB_succ (c : Nat) : evenB (c + 1) = !evenB c := by
  unfold evenB
  have : c % 2 = 0 ∨ c % 2 = 1 := by omega
  rcases this with h | h <;> simp [h, Nat.add_mod]
end Go.Proofs.Ytnildepdpkbekaa
