/- A copy of a list of texts that came in. -/
import Derived.Test.YtdflpkkcjbdpfaaDoorC1
import Derived.OwnWalk
namespace Go.Proofs.YtdflpkkcjbdpfaaDoor
open Go.RowKit
set_option linter.unusedSimpArgs false

/-- the texts as letters -/
def letss (ss : List ByteArray) : List (List Nat) := ss.map lets
theorem letss_len (ss : List ByteArray) : (letss ss).length = ss.length := by simp [letss]
theorem strs_letss (ss : List ByteArray) : strs (letss ss) = ss.map Value.string := by
  simp only [strs, letss, List.map_map]
  exact List.map_congr_left fun s _ => by simp [txt_lets]
/-- the first j texts, empty texts behind them -/
def someOf (ss : List ByteArray) (j : Nat) : List Value := (ss.take j).map Value.string ++ List.replicate (ss.length - j) (.string ⟨#[]⟩)
theorem someOf_len (ss : List ByteArray) (j : Nat) (hj : j ≤ ss.length) : (someOf ss j).length = ss.length := by simp [someOf]; omega
theorem someOf_zero (ss : List ByteArray) : someOf ss 0 = List.replicate ss.length (.string ⟨#[]⟩) := by simp [someOf]
theorem someOf_all (ss : List ByteArray) : someOf ss ss.length = ss.map Value.string := by simp [someOf]
theorem someOf_set (ss : List ByteArray) (j : Nat) (hj : j < ss.length) : (someOf ss j).set j (.string ss[j]) = someOf ss (j + 1) := by
  unfold someOf
  rw [List.set_append_right _ _ (by simp; omega)]
  rw [List.take_succ_eq_append_getElem hj, List.map_append, List.append_assoc]
  congr 1
  have e : ss.length - j = (ss.length - (j + 1)) + 1 := by omega
  rw [e, List.replicate_succ]
  have e2 : j - ((ss.take j).map Value.string).length = 0 := by simp; omega
  rw [e2]
  simp

end Go.Proofs.YtdflpkkcjbdpfaaDoor
