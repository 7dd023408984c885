/- Factorials. -/
import Derived.Test.YtnildepdpkbekaaA18
import Derived.Test.YtnildepdpkbekaaP5
namespace Go.Proofs.Ytnildepdpkbekaa
open Go.RowKit
set_option linter.unusedSimpArgs false

set_option maxRecDepth 100000 in
set_option maxHeartbeats 1000000 in
theorem factorial_any (n : Nat) (h8 : n ≤ 8) (w : World) :
    Calls Try.prog 58 #[.int .i64 n] w fun e w' => e = .returned (.int .i64 (fact n)) ∧ w = w' := by
  go_enter Try.func58, Try.ntmps58
  go_wp2
  go_loopg [3, 4, 6] n (fun q c _ i wr => ∃ k : Nat, k ≤ n ∧ q + k = n ∧ i = .int .i64 k ∧ c = .int .i64 (fact k) ∧ w = wr)
  case atStart => exact ⟨0, Nat.zero_le _, rfl, rfl, rfl, rfl⟩
  case round =>
    obtain ⟨k, hk, hq, rfl, rfl, rfl⟩ := hrel
    have HQ := Lib.hid hq
    clear hq
    by_cases hlt : k < n
    · have e : (fact k : Int) * ((k : Int) + 1) = ((fact (k + 1) : Nat) : Int) := by simp [fact]
      have hb1 : (fact k : Int) * ((k : Int) + 1) ≤ 40320 := by have := fact_le (show k + 1 ≤ 8 by omega); omega
      have hb0 : 0 ≤ (fact k : Int) * ((k : Int) + 1) := by omega
      have E := Lib.hid e
      clear e
      go_wp2
      go_roundg (n - (k + 1))
      case measure => have := HQ.out; omega
      case rel => exact ⟨k + 1, by omega, by have := HQ.out; omega, by go_num, by rw [E.out], rfl⟩
    · obtain rfl : k = n := by omega
      go_wp2
      go_ret
      exact ⟨rfl, rfl⟩

/-- the product of the numbers from k + 1 to n -/
def factTo (n : Nat) : Nat → Nat
  | 0 => 1
  | j + 1 => factTo n j * (n - j)
theorem factTo_mul (n : Nat) : ∀ j, j ≤ n → factTo n j * fact (n - j) = fact n
  | 0, _ => by simp [factTo]
  | j + 1, h => by
    have ih := factTo_mul n j (by omega)
    rw [show n - j = (n - (j + 1)) + 1 by omega] at ih
    rw [← ih]
    show factTo n j * (n - j) * fact (n - (j + 1)) = factTo n j * (fact (n - (j + 1)) * (n - (j + 1) + 1))
    rw [show n - (j + 1) + 1 = n - j by omega, Nat.mul_assoc, Nat.mul_comm (n - j)]
theorem factTo_le {n : Nat} (h8 : n ≤ 8) (j : Nat) (hj : j ≤ n) : factTo n j ≤ 40320 := by
  have h1 := factTo_mul n j hj
  have h2 := fact_pos (n - j)
  have h3 := fact_le h8
  exact Nat.le_trans (Nat.le_mul_of_pos_right _ h2) (by omega)

set_option maxRecDepth 100000 in
set_option maxHeartbeats 1000000 in
theorem l1Fact_any (n : Nat) (h8 : n ≤ 8) (w : World) :
    Calls Try.prog 56 #[.int .i64 n] w fun e w' => e = .returned (.int .i64 (fact n)) ∧ w = w' := by
  go_enter Try.func56, Try.ntmps56
  go_wp2
  go_loopg [0, 3] n (fun q i c wr => ∃ j : Nat, j ≤ n ∧ q + j = n ∧ i = .int .i64 q ∧ c = .int .i64 (factTo n j) ∧ w = wr)
  case atStart => exact ⟨0, Nat.zero_le _, rfl, rfl, rfl, rfl⟩
  case round =>
    obtain ⟨j, hj, hq, rfl, rfl, rfl⟩ := hrel
    have HQ := Lib.hid hq
    have hb := factTo_le h8 j hj
    have hgk : gk ≤ 8 := by omega
    clear hq
    by_cases hlt : 1 < gk
    · obtain ⟨g', hg'⟩ : ∃ g', gk = g' + 1 := ⟨gk - 1, by omega⟩
      have e : (factTo n j : Int) * ((g' : Int) + 1) = ((factTo n (j + 1) : Nat) : Int) := by
        have := HQ.out
        simp [factTo, show n - j = g' + 1 by omega]
      have hb1 : (factTo n j : Int) * ((g' : Int) + 1) ≤ 40320 := by have := factTo_le h8 (j + 1) (by have := HQ.out; omega); omega
      have hb0 : 0 ≤ (factTo n j : Int) * ((g' : Int) + 1) := by omega
      subst hg'
      have E := Lib.hid e
      clear e
      go_wp2
      go_roundg g'
      case measure => omega
      case rel => exact ⟨j + 1, by have := HQ.out; omega, by have := HQ.out; omega, by go_num, by rw [E.out], rfl⟩
    · have hfin : factTo n j = fact n := by
        have := factTo_mul n j hj
        have h2 : n - j = gk := by have := HQ.out; omega
        have h3 : gk = 0 ∨ gk = 1 := by omega
        rw [h2] at this
        rcases h3 with rfl | rfl <;> simpa [fact] using this
      have HFIN := Lib.hid hfin
      clear hfin
      go_wp2
      go_ret
      exact ⟨by show Ending.returned (.int .i64 (factTo n j)) = _; rw [HFIN.out], rfl⟩
end Go.Proofs.Ytnildepdpkbekaa
