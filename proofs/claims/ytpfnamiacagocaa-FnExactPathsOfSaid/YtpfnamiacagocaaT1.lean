/- Lists of changes: whether they are good; their texts. -/
import Derived.Test.YtpfnamiacagocaaC3
namespace Go.Proofs.Ytpfnamiacagocaa
open Go.RowKit
set_option linter.unusedSimpArgs false

/-- 1 to 40 changes of stage n -/
def goodAll (n : Int) (L : List (List Nat)) : Bool := decide (1 ≤ L.length) && decide (L.length ≤ 40) && L.all (fun l => goodC n (txt l))

theorem goodC_range {n : Int} {s : ByteArray} (h : goodC n s = true) : 3 ≤ n ∧ n ≤ 8 := by
  obtain ⟨m, rfl, hg⟩ := goodC_stage h
  have := goodL_three hg
  have := goodL_eight hg
  omega

end Go.Proofs.Ytpfnamiacagocaa
