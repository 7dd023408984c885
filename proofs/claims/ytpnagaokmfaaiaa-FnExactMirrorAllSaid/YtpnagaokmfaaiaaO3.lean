/- Lists of lists of numbers, each in a block of its own: compared, marked, held. -/
import Derived.Test.YtpnagaokmfaaiaaO2
namespace Go.Proofs.Ytpnagaokmfaaiaa
open Go.RowKit
set_option linter.unusedSimpArgs false

def nilV : Value := .slice none 0 0
/-- how many numbers stand ahead of list i -/
def offL (L : Nat → Nat) : Nat → Nat
  | 0 => 0
  | i + 1 => offL L i + L i
theorem offL_mono (L : Nat → Nat) : ∀ {i j : Nat}, i ≤ j → offL L i ≤ offL L j
  | i, j, h => by
    induction h with
    | refl => exact Nat.le_refl _
    | step _ ih => exact Nat.le_trans ih (Nat.le_add_right _ _)
def markF (F : Nat → List Int) (k : Int) (j : Nat) (i : Nat) : List Int := if i < j then marks (k + (offL (fun i => (F i).length) i : Nat)) (F i).length else F i

end Go.Proofs.Ytpnagaokmfaaiaa
