/- The group that rows generate, in the model. -/
import Derived.Test.YtnoepobbecobbaaSR
namespace Go.Proofs.Ytnoepobbecobbaa
open Go.RowKit
set_option linter.unusedSimpArgs false
set_option linter.unusedVariables false

theorem l1PlaceR {n : Nat} {f : Nat → Nat} (hf : IsRow n f) (w : World) : Calls Try.prog 118 #[.string (strOf n f)] w fun e w' => e = .returned (.int .i64 (plR n f)) ∧ Below w.heap.size w w' := l1Place_any n f hf w
theorem strs_rowsL_get (n : Nat) (fs : List (Nat → Nat)) (k : Nat) (hk : k < fs.length) : (strs (rowsL n fs))[k]? = some (.string (strOf n fs[k])) := by
  simp [strs, rowsL, List.getElem?_eq_getElem hk, txt_rowL]
theorem SeenAt.apart {B W} {T : TypeId} {v : Value} {xs : List Value} {g n : Nat} {S : List (Nat → Nat)} (h : New B W T v xs) (hs : SeenAt W g n S) (hne : T ≠ 4) : v.ownBlock ≠ some g := by
  obtain ⟨cs, h1, _⟩ := hs
  exact h.apartRow h1 hne
def closeT (n : Nat) (r : Option (List (Nat → Nat))) : List (List Nat) := match r with | some G => rowsL n (sortF n G) | none => []
theorem closeT_some (n : Nat) (G : List (Nat → Nat)) : closeT n (some G) = rowsL n (sortF n G) := rfl
theorem closeT_none (n : Nat) : closeT n none = [] := rfl

end Go.Proofs.Ytnoepobbecobbaa
