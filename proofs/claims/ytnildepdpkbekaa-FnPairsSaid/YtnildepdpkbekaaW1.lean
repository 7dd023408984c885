/- Draws of lists of changes: a hunting method's changes. -/
import Derived.Test.YtnildepdpkbekaaC3
import Derived.Test.YtnildepdpkbekaaK5
namespace Go.Proofs.Ytnildepdpkbekaa
open Go.RowKit
set_option linter.unusedSimpArgs false
set_option linter.unusedVariables false

theorem string_lets (s : ByteArray) : Value.string s = Value.string (txt (lets s)) := by rw [txt_lets]
/-- a new list of at most K short texts -/
def Few (K : Nat) (B : Nat) (W : World) (v : Value) (L : List (List Nat)) : Prop := New B W 9 v (strs L) ∧ L.length ≤ K ∧ ∀ l ∈ L, l.length ≤ 10
theorem Few.nil (K B : Nat) (W : World) : Few K B W (.slice none 0 0) [] := ⟨New.nil _ _ _, by simp, by simp⟩

end Go.Proofs.Ytnildepdpkbekaa
