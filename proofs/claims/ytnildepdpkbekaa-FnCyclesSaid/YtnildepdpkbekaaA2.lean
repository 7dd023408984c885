/- Walks over the program's arrays of digits. -/
import Derived.Test.YtnildepdpkbekaaA1
namespace Go.Proofs.Ytnildepdpkbekaa
open Go.RowKit

/-- eight digits as cells -/
def dig8 (f : Nat → Nat) : Array Value := #[.int .u8 (f 0), .int .u8 (f 1), .int .u8 (f 2), .int .u8 (f 3), .int .u8 (f 4), .int .u8 (f 5), .int .u8 (f 6), .int .u8 (f 7)]

def zero8 : Array Value := #[.int .u8 0, .int .u8 0, .int .u8 0, .int .u8 0, .int .u8 0, .int .u8 0, .int .u8 0, .int .u8 0]
theorem dig8_zero : dig8 (rdf 0) = zero8 := rfl

set_option maxHeartbeats 1000000 in
theorem roundsDigits_any (n : Nat) (h8 : n ≤ 8) (w : World) :
    Calls Try.prog 59 #[.int .i64 n] w fun e w' => e = .returned (.agg (dig8 (rdf n))) ∧ Below w.heap.size w w' := by
  go_enter Try.func59, Try.ntmps59
  go_wp2
  go_loopg [4, 6] n (fun g _ i wr => ∃ k : Nat, k ≤ n ∧ g + k = n ∧ i = .int .i64 k ∧ wr = (w.alloc (.cells zero8 56)).alloc (.cells (dig8 (rdf k)) 56))
  case atStart => exact ⟨0, Nat.zero_le _, rfl, rfl, rfl⟩
  case round =>
    obtain ⟨k, hk, hg, rfl, rfl⟩ := hrel
    have HG := Lib.hid hg
    clear hg
    by_cases hlt : k < n
    · have hk8 : k = 0 ∨ k = 1 ∨ k = 2 ∨ k = 3 ∨ k = 4 ∨ k = 5 ∨ k = 6 ∨ k = 7 := by omega
      obtain ⟨j, hj⟩ : ∃ j, j = k + 1 := ⟨_, rfl⟩
      have HJ := Lib.hid hj
      clear hj
      rcases hk8 with rfl | rfl | rfl | rfl | rfl | rfl | rfl | rfl
      all_goals
        simp [dig8, rdf]
        go_wp2
        go_roundg (gk - 1)
        case measure => have := HG.out; omega
        case rel => exact ⟨j, by have := HJ.out; omega, by have := HJ.out; have := HG.out; omega, by rw [HJ.out]; rfl, by rw [HJ.out]; rfl⟩
    · obtain rfl : k = n := by omega
      simp only [dig8, zero8]
      go_wp2
      refine bodyPost_ret (v := .agg (dig8 (rdf k))) (by simp [results, Try.results59, go_sem]; rfl) rfl ⟨rfl, ?_⟩
      exact (((Below.refl _ _).alloc (Nat.le_refl _) _).alloc (by simp) _)

theorem dig8_get (f : Nat → Nat) : ∀ i, i < 8 → (dig8 f)[i]? = some (.int .u8 (f i)) := by
  intro i h
  have : i = 0 ∨ i = 1 ∨ i = 2 ∨ i = 3 ∨ i = 4 ∨ i = 5 ∨ i = 6 ∨ i = 7 := by omega
  rcases this with rfl | rfl | rfl | rfl | rfl | rfl | rfl | rfl <;> rfl

/-- f is a row of n digits, zeros behind them -/
def IsDig (n : Nat) (f : Nat → Nat) : Prop := n ≤ 8 ∧ (∀ i, i < n → 49 ≤ f i ∧ f i ≤ 56) ∧ ∀ i, n ≤ i → i < 8 → f i = 0

set_option maxHeartbeats 1000000 in
theorem stage_any (n : Nat) (f : Nat → Nat) (hf : IsDig n f) (w : World) :
    Calls Try.prog 81 #[.agg (dig8 f)] w fun e w' => e = .returned (.int .i64 n) ∧ Below w.heap.size w w' := by
  obtain ⟨h8, hlo, hhi⟩ := hf
  have hget := dig8_get f
  go_enter Try.func81, Try.ntmps81
  go_wp2
  go_loopg [3] n (fun g i wr => ∃ k : Nat, k ≤ n ∧ g + k = n ∧ i = .int .i64 k ∧ wr = w.alloc (.cells (dig8 f) 56))
  case atStart => exact ⟨0, Nat.zero_le _, rfl, rfl, rfl⟩
  case round =>
    obtain ⟨k, hk, hg, rfl, rfl⟩ := hrel
    have HG := Lib.hid hg
    clear hg
    by_cases hlt : k < n
    · have hne : ((f k : Int) != 0) = true := by have := hlo k hlt; simp; omega
      have hk8 : k < 8 := by omega
      clear hlo hhi
      go_wp2
      go_roundg (gk - 1)
      case measure => have := HG.out; omega
      case rel => exact ⟨k + 1, by omega, by have := HG.out; omega, by go_num, rfl⟩
    · obtain rfl : k = n := by omega
      by_cases hk8 : k < 8
      · have hne : ((f k : Int) != 0) = false := by have := hhi k (Nat.le_refl _) hk8; simp; omega
        clear hlo hhi
        go_wp2
        go_ret
        exact ⟨rfl, (Below.refl _ _).alloc (Nat.le_refl _) _⟩
      · clear hlo hhi
        go_wp2
        go_ret
        exact ⟨rfl, (Below.refl _ _).alloc (Nat.le_refl _) _⟩
end Go.Proofs.Ytnildepdpkbekaa
