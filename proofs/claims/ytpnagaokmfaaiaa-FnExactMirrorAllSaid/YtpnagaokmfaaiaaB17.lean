/- The model's ways to go on from a place. -/
import Derived.Test.YtpnagaokmfaaiaaB16
namespace Go.Proofs.Ytpnagaokmfaaiaa
open Go.RowKit

theorem Own.one {W : World} {e : TypeId} {v : Value} {xs : List Value} (h : Own W e v xs) : v.oneCell' = true := by
  rcases h.shape with ⟨rfl, _⟩ | ⟨g, cap, rfl, _⟩ <;> rfl
theorem frm_succ (n k p : Nat) : frm n (k + 1) p = if n < p then [[]] else (frm n k (p + 1)).map (p :: ·) ++ (if p < n then frm n k (p + 2) else []) := rfl

end Go.Proofs.Ytpnagaokmfaaiaa
