/- AllChanges in the program. -/
import Derived.Test.YtpnagaokmfaaiaaB15
namespace Go.Proofs.Ytpnagaokmfaaiaa
open Go.RowKit

/-- new texts, and a word -/
def TextsAny (xs : List (List Nat)) (b : Bool) (w : World) (e : Ending) (w' : World) : Prop :=
  ∃ v, e = .returned (.tuple #[v, .bool b]) ∧ New w.heap.size w' 9 v (strs xs) ∧ Below w.heap.size w w'
theorem isEmpty_txt (b : List Nat) : (txt b).toList.isEmpty = decide (b = []) := by
  rw [empty_lets]
  have h1 : (lets (txt b)).length = b.length := by rw [lets_len, txt_size]
  cases b with
  | nil => rfl
  | cons x t =>
    have : lets (txt (x :: t)) ≠ [] := fun h => by rw [h] at h1; simp at h1
    simp [this]

end Go.Proofs.Ytpnagaokmfaaiaa
