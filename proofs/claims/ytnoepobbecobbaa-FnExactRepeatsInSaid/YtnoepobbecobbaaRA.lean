/- The rows of a group; CosetOf. -/
import Derived.Test.YtnoepobbecobbaaSVY
namespace Go.Proofs.Ytnoepobbecobbaa
open Go.RowKit
set_option linter.unusedSimpArgs false
set_option linter.unusedVariables false

theorem isG_facts {L : List (List Nat)} (h : isG L = true) : riseB L = true ∧ listB L = true ∧ 0 < L.length ∧ 3 ≤ firstN L ∧ firstN L ≤ 8 ∧ Rows (firstN L) (rF L) ∧ Rise (firstN L) (rF L) ∧ IsGrp (firstN L) (rF L) ∧ (rF L).length ≤ 800 := by
  unfold isG at h
  simp only [Bool.and_eq_true, decide_eq_true_eq] at h
  obtain ⟨h1, h2, h3⟩ := h
  have hb : listB L = true := by unfold riseB at h1; simp only [Bool.and_eq_true] at h1; exact h1.2
  have hi : incB L = true := by unfold riseB at h1; simp only [Bool.and_eq_true] at h1; exact h1.1
  obtain ⟨q3, q8, _⟩ := first_row hb h2
  exact ⟨h1, hb, h2, q3, q8, rowsB_rows hb, rise_of hb hi, grpB_iff.1 h3, by rw [rF_len]; exact rowsB_len hb⟩

def GroupOut (L : List (List Nat)) (w : World) (e : Ending) (w' : World) : Prop :=
  ∃ v, e = .returned (.tuple #[v, .bool (isG L)]) ∧ NewD w.heap.size w' v (if isG L = true then rF L else []) ∧ Below w.heap.size w w'
/-- a coset's rows -/
noncomputable def csF (L : List (List Nat)) (s : ByteArray) : List (Nat → Nat) := sortF (firstN L) ((rF L).map (mulR (firstN L) (dg s)))
noncomputable def csB (L : List (List Nat)) (s : ByteArray) : Bool := isG L && (goodB s && decide (s.size = firstN L))
noncomputable def csL (L : List (List Nat)) (s : ByteArray) : List (List Nat) := if csB L s = true then rowsL (firstN L) (csF L s) else []
theorem csL_no {L : List (List Nat)} {s : ByteArray} (h : csB L s = false) : csL L s = [] := by unfold csL; simp [h]
theorem csL_yes {L : List (List Nat)} {s : ByteArray} (h : csB L s = true) : csL L s = rowsL (firstN L) (csF L s) := by unfold csL; simp [h]

end Go.Proofs.Ytnoepobbecobbaa
