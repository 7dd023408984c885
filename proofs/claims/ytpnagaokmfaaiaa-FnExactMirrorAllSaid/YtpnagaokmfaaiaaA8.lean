/- Products in the model. -/
import Derived.Test.YtpnagaokmfaaiaaA7
namespace Go.Proofs.Ytpnagaokmfaaiaa
open Go.RowKit

/-- whether two texts can be multiplied -/
noncomputable def twoB (s t : ByteArray) : Bool := goodB s && goodB t && decide (s.size = t.size)
theorem twoB_yes {s t : ByteArray} (h : twoB s t = true) : IsRow s.size (dg s) ∧ IsRow t.size (dg t) ∧ s.size = t.size := by
  unfold twoB goodB at h
  simp at h
  exact ⟨h.1.1, h.1.2, h.2⟩

end Go.Proofs.Ytpnagaokmfaaiaa
