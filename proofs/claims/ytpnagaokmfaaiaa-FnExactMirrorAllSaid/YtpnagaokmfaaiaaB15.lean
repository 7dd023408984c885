/- All changes in the program. -/
import Derived.Test.YtpnagaokmfaaiaaB14
import Derived.Test.YtpnagaokmfaaiaaQ5
namespace Go.Proofs.Ytpnagaokmfaaiaa
open Go.RowKit

/-- texts as elements -/
def strs (ls : List (List Nat)) : List Value := ls.map fun l => .string (txt l)
theorem strs_len (ls : List (List Nat)) : (strs ls).length = ls.length := by simp [strs]
theorem strs_snoc (ls : List (List Nat)) (l : List Nat) : strs ls ++ [.string (txt l)] = strs (ls ++ [l]) := by simp [strs]
theorem strs_app (ls rs : List (List Nat)) : strs ls ++ strs rs = strs (ls ++ rs) := by simp [strs]
theorem strs_one (ls : List (List Nat)) : ∀ u ∈ strs ls, u.oneCell' = true := by
  intro u hu
  simp only [strs, List.mem_map] at hu
  obtain ⟨l, _, rfl⟩ := hu
  rfl

theorem aft_succ (n k len last : Nat) : aft n (k + 1) len last = (if (n - last) % 2 = 0 ∧ len < n then [[]] else []) ++ stp n (fun p => aft n k (len + 1) p) n (last + 1) := rfl
theorem rune_text (p : Nat) (hp : p ≤ 8) (w : World) : (convert 21 9 (.int .i32 (48 + p))).run Try.prog w = .ok (.string (txt [48 + p])) w := by
  have : p = 0 ∨ p = 1 ∨ p = 2 ∨ p = 3 ∨ p = 4 ∨ p = 5 ∨ p = 6 ∨ p = 7 ∨ p = 8 := by omega
  rw [run_convert_int_string w _ _ _ _ (by kernel_rfl) Try.underlying9]
  rcases this with rfl | rfl | rfl | rfl | rfl | rfl | rfl | rfl | rfl <;> rfl

def After (xs : List (List Nat)) (w : World) (e : Ending) (w' : World) : Prop := ∃ v, e = .returned v ∧ New w.heap.size w' 9 v (strs xs) ∧ Below w.heap.size w w'

end Go.Proofs.Ytpnagaokmfaaiaa
