/- SameMethod in the program and in the model. -/
import Derived.Test.YtnoepobbecobbaaDA
import Derived.Test.YtnoepobbecobbaaH1
import Derived.Deep.RegionHeld3
namespace Go.Proofs.Ytnoepobbecobbaa
open Go.RowKit
set_option linter.unusedSimpArgs false
set_option linter.unusedVariables false

/-- two lists of texts are the same -/
def sameLs (L M : List (List Nat)) : Bool := decide (L.length = M.length) && (List.range L.length).all fun i => sameT (L.getD i []) (M.getD i [])
theorem sameLs_len {L M : List (List Nat)} (h : L.length ≠ M.length) : sameLs L M = false := by
  unfold sameLs
  rw [decide_eq_false h, Bool.false_and]
theorem sameLs_no {L M : List (List Nat)} (i : Nat) (hi : i < L.length) (h : sameT (L.getD i []) (M.getD i []) = false) : sameLs L M = false := by
  unfold sameLs
  rw [Bool.and_eq_false_iff]
  refine .inr ?_
  rw [List.all_eq_false]
  exact ⟨i, List.mem_range.2 hi, by rw [h]; simp⟩
theorem sameLs_yes {L M : List (List Nat)} (hl : L.length = M.length) (h : ∀ t, t < L.length → sameT (L.getD t []) (M.getD t []) = true) : sameLs L M = true := by
  unfold sameLs
  rw [decide_eq_true hl, Bool.true_and, List.all_eq_true]
  intro t ht
  rw [List.mem_range] at ht
  exact h t ht

def sameB (s s' : ByteArray) (n n' : Int) (L M : List (List Nat)) : Bool := (s.toList == s'.toList) && (decide (n = n') && sameLs L M)

end Go.Proofs.Ytnoepobbecobbaa
