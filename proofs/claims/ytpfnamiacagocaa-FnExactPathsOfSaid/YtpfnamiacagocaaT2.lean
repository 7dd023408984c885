/- The text of a list of changes. -/
import Derived.Test.YtpfnamiacagocaaT1
import Derived.Test.YtpfnamiacagocaaK3
namespace Go.Proofs.Ytpfnamiacagocaa
open Go.RowKit
set_option linter.unusedSimpArgs false

def isDash (l : List Nat) : Bool := (txt l).toList == [45]
/-- the text of these changes behind another, which is - or none, if d -/
def textT : Bool → List (List Nat) → List Nat
  | _, [] => []
  | d, c :: t => (if isDash c || d then c else 46 :: c) ++ textT (isDash c) t
def prevD (L : List (List Nat)) (j : Nat) : Bool := if j = 0 then true else isDash (L.getD (j - 1) [])
theorem textT_step (L : List (List Nat)) (j : Nat) (hj : j < L.length) : textT (prevD L j) (L.drop j) = (if isDash L[j] || prevD L j then L[j] else 46 :: L[j]) ++ textT (prevD L (j + 1)) (L.drop (j + 1)) := by
  rw [List.drop_eq_getElem_cons hj]
  have : prevD L (j + 1) = isDash L[j] := by simp [prevD, List.getD_eq_getElem?_getD, hj]
  rw [this]
  rfl
theorem ofNat_snoc (l : List Nat) (x : List Nat) : (l ++ x).map UInt8.ofNat = l.map UInt8.ofNat ++ (txt x).data.toList := by simp [txt]
end Go.Proofs.Ytpfnamiacagocaa
