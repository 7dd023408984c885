/- MirrorAll in the program and in the model, and the law on it. -/
import Derived.Test.YtpfnamiacagocaaC2
import Derived.Test.YtpfnamiacagocaaC3
namespace Go.Proofs.Ytpfnamiacagocaa
open Go.RowKit
set_option linter.unusedSimpArgs false

def palOk {α : Type} (xs : List α) : Bool := decide (xs.length ≤ 20)
def palOut {α : Type} (xs : List α) : List α := if palOk xs = true then pal xs else []
theorem palOut_len {α : Type} (xs : List α) : (palOut xs).length ≤ 40 := by
  unfold palOut
  split
  · rename_i h
    have h : xs.length ≤ 20 := by simpa [palOk] using h
    rw [pal_len]; omega
  · simp

end Go.Proofs.Ytpfnamiacagocaa
