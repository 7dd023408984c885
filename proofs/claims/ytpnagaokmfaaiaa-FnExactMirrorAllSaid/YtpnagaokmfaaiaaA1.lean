/- Walks of the smallest helpers: bounds of a stage, rounds as a text. -/
import Derived.Test.YtpnagaokmfaaiaaRows
import Derived.Test.YtpnagaokmfaaiaaP2
import Derived.WalkKit
import Derived.WalkSpells
import Derived.WalkLawsBesides
import Derived.Lib.Hide
import Derived.Deep.LoopGhost
import Derived.Outline
import Derived.Deep.DeepMust
import Derived.Deep.QuietTactic
import Derived.BigQuiet
import Derived.Deep.DeepCutAuto
import Derived.Deep.DeepFit
import Derived.IntWalk
import Derived.Handy
import Derived.Below
namespace Go.Proofs.Ytpnagaokmfaaiaa
open Go.RowKit

set_option maxHeartbeats 400000 in
theorem l1In_any (n a b : Int) (w : World) :
    Calls Try.prog 30 #[.int .i64 n, .int .i64 a, .int .i64 b] w fun e w' => e = .returned (.bool (decide (a ≤ n) && decide (n ≤ b))) ∧ w = w' := by
  by_cases h1 : a ≤ n <;> by_cases h2 : n ≤ b
  all_goals
    go_enter Try.func30, Try.ntmps30
    go_wp2
    go_ret
    exact ⟨by simp [h1, h2], rfl⟩

set_option maxHeartbeats 400000 in
theorem goodStage_any (n : Int) (w : World) :
    Calls Try.prog 39 #[.int .i64 n] w fun e w' => e = .returned (.bool (decide (3 ≤ n) && decide (n ≤ 8))) ∧ w = w' := by
  by_cases h1 : 3 ≤ n <;> by_cases h2 : n ≤ 8
  all_goals
    go_enter Try.func39, Try.ntmps39
    go_wp2
    go_ret
    exact ⟨by simp [h1, h2], rfl⟩

/-- rounds on n bells, as a text -/
def rnds (n : Nat) : ByteArray := ⟨((List.range n).map fun i => UInt8.ofNat (49 + i)).toArray⟩

end Go.Proofs.Ytpnagaokmfaaiaa
