/- The even rows of a list, in the program and in the model; the law EvenOnes. -/
import Derived.Test.YtnoepobbecobbaaSC
namespace Go.Proofs.Ytnoepobbecobbaa
open Go.RowKit
set_option linter.unusedSimpArgs false
set_option linter.unusedVariables false

/-- an even row, as a text -/
def evO (l : List Nat) : Bool := evenB (invB (dg (txt l)) l.length)
def evL (L : List (List Nat)) : List (List Nat) := L.filter evO
theorem str_dg {n : Nat} {l : List Nat} (hb : goodB (txt l) = true) (hn : l.length = n) : IsRow n (dg (txt l)) ∧ txt l = strOf n (dg (txt l)) := by
  have h := goodB_row hb
  rw [txt_size, hn] at h
  refine ⟨h, ?_⟩
  have := strOf_of_isStr (isStr_dg (txt l))
  rw [txt_size, hn] at this
  exact this
theorem rowsB_mem {n : Int} {L : List (List Nat)} (h : rowsB n L = true) {l : List Nat} (hm : l ∈ L) : goodB (txt l) = true ∧ (l.length : Int) = n := by
  simp only [rowsB, Bool.and_eq_true] at h
  have := List.all_eq_true.1 h.2 l hm
  simpa [rowB] using this
theorem evO_row {L : List (List Nat)} (h : listB L = true) {l : List Nat} (hm : l ∈ L) : ∃ n, IsRow n (dg (txt l)) ∧ txt l = strOf n (dg (txt l)) ∧ evO l = evenB (invB (dg (txt l)) n) := by
  obtain ⟨h1, h2⟩ := rowsB_mem h hm
  have := str_dg (n := l.length) h1 rfl
  exact ⟨l.length, this.1, this.2, rfl⟩
theorem szRest_left : ∀ (ss : List ByteArray) (left : Int), 0 ≤ szRest ss left → szRest ss left ≤ left
  | [], _, _ => by unfold szRest; omega
  | s :: t, left, h => by
    unfold szRest at h ⊢
    split at h
    · omega
    · rename_i hh
      rw [if_neg hh]
      have := szRest_left t _ h
      omega
theorem szAll_left {ss : List ByteArray} {left : Int} (h : 0 ≤ szAll ss left) : szAll ss left ≤ left - ss.length := by
  unfold szAll at h ⊢
  split at h
  · omega
  · rename_i hh
    rw [if_neg hh]
    exact szRest_left _ _ h

end Go.Proofs.Ytnoepobbecobbaa
