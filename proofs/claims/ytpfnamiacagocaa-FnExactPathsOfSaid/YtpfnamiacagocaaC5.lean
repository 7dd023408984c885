/- The law FnExactMirrorAll. -/
import Derived.Test.YtpfnamiacagocaaC4
namespace Go.Proofs.Ytpfnamiacagocaa
open Go.RowKit
set_option linter.unusedSimpArgs false

theorem Own.under {B : Nat} {W W' : World} {e : TypeId} {v : Value} {xs : List Value} (h : Own W e v xs) (hlt : ∀ g, v.ownBlock = some g → g < B) (hb : Below B W W') : Own W' e v xs := h.block fun g hg => hb.block g (hlt g hg)
theorem Own.besides {W W' : World} {e : TypeId} {v u : Value} {xs : List Value} (h : Own W e v xs) (hk : KeptBut W W' u) (hne : ∀ g, v.ownBlock = some g → u.ownBlock ≠ some g) : Own W' e v xs := h.block fun g hg => hk g (h.lt g hg) (hne g hg)

end Go.Proofs.Ytpfnamiacagocaa
