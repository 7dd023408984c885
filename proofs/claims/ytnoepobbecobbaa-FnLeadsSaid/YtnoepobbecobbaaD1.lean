/- Methods in the harness: sizes, copies, equality, marks. -/
import Derived.Test.YtnoepobbecobbaaMA
import Derived.Test.YtnoepobbecobbaaCA
import Derived.Test.YtnoepobbecobbaaC3
namespace Go.Proofs.Ytnoepobbecobbaa
open Go.RowKit
set_option linter.unusedSimpArgs false
set_option linter.unusedVariables false

theorem szRest_max : ∀ (ss : List ByteArray) (left : Int), 0 ≤ left → szRest ss left ≤ left
  | [], left, _ => by simp [szRest]
  | s :: t, left, h => by
    unfold szRest
    split
    · omega
    · have := szRest_max t (left - s.size) (by omega)
      omega
theorem szAll_max (ss : List ByteArray) (left : Int) (h : 0 ≤ left) : szAll ss left ≤ left := by
  unfold szAll
  split
  · omega
  · have := szRest_max ss (left - ss.length) (by omega)
    omega

theorem New.setRowOther {B : Nat} {W : World} {e : TypeId} {v : Value} {xs : List Value} (h : New B W e v xs) (c : Nat) (cs : Array Value) (hne : v.ownBlock ≠ some c) : New B (W.setRow c cs) e v xs :=
  ⟨h.own.block fun g hg => setRow_other W c g cs (fun he => hne (he ▸ hg)), h.base⟩
def zeroM : Array Value := #[.string ⟨#[]⟩, .int .i64 0, .slice none 0 0]

/-- a method that owns its changes -/
def MethOut (s : ByteArray) (n : Int) (L : List (List Nat)) (w : World) (e : Ending) (w' : World) : Prop :=
  ∃ v, e = .returned (.agg #[.string s, .int .i64 n, v]) ∧ New w.heap.size w' 9 v (strs L) ∧ Below w.heap.size w w'

end Go.Proofs.Ytnoepobbecobbaa
