/- MirrorAll in the program and in the model, and the law on it. The law FnExactMirrorAll. -/
import Derived.Test.YtkhglknpcajmiaaCA
import Derived.Test.YtkhglknpcajmiaaC3
namespace Go.Proofs.Ytkhglknpcajmiaa
open Go.RowKit
set_option linter.unusedSimpArgs false

def palOk {α : Type} (xs : List α) : Bool := decide (xs.length ≤ 20)
def palOut {α : Type} (xs : List α) : List α := if palOk xs = true then pal xs else []
theorem palOut_len {α : Type} (xs : List α) : (palOut xs).length ≤ 40 := by
  unfold palOut
  split
  · rename_i h
    have h : xs.length ≤ 20 := by simpa [palOk] using h
    rw [pal_len]; omega
  · simp

end Go.Proofs.Ytkhglknpcajmiaa
namespace Go.Proofs.Ytkhglknpcajmiaa
open Go.RowKit
set_option linter.unusedSimpArgs false

theorem Own.under {B : Nat} {W W' : World} {e : TypeId} {v : Value} {xs : List Value} (h : Own W e v xs) (hlt : ∀ g, v.ownBlock = some g → g < B) (hb : Below B W W') : Own W' e v xs := h.block fun g hg => hb.block g (hlt g hg)
theorem Own.besides {W W' : World} {e : TypeId} {v u : Value} {xs : List Value} (h : Own W e v xs) (hk : KeptBut W W' u) (hne : ∀ g, v.ownBlock = some g → u.ownBlock ≠ some g) : Own W' e v xs := h.block fun g hg => hk g (h.lt g hg) (hne g hg)

end Go.Proofs.Ytkhglknpcajmiaa
