/- The texts of rows read back. -/
import Derived.Test.YtnoepobbecobbaaSE
namespace Go.Proofs.Ytnoepobbecobbaa
open Go.RowKit
set_option linter.unusedSimpArgs false
set_option linter.unusedVariables false

theorem rowL_lenB (n : Nat) (f : Nat → Nat) : (rowL n f).length = n := by simp [rowL]
theorem goodB_rowL {n : Nat} {f : Nat → Nat} (h : IsRow n f) : goodB (txt (rowL n f)) = true := by
  rw [txt_rowL]
  refine goodB_yes ?_
  rw [strOf_size, dg_strOf h]
  exact h
theorem dg_rowL {n : Nat} {f : Nat → Nat} (h : IsRow n f) : dg (txt (rowL n f)) = f := by rw [txt_rowL, dg_strOf h]
theorem rF_rowsL {n : Nat} {fs : List (Nat → Nat)} (h : Rows n fs) : rF (rowsL n fs) = fs := by
  unfold rF rowsL
  rw [List.map_map]
  conv => rhs; rw [← List.map_id fs]
  exact List.map_congr_left fun f hf => dg_rowL (h f hf)
theorem rowsB_rowsL {n : Nat} {fs : List (Nat → Nat)} (h : Rows n fs) (hl : fs.length ≤ 800) : rowsB n (rowsL n fs) = true := by
  unfold rowsB
  rw [rowsL_len, decide_eq_true hl, Bool.true_and, List.all_eq_true]
  intro l hm
  obtain ⟨f, hf, rfl⟩ := List.mem_map.1 hm
  unfold rowB
  rw [goodB_rowL (h f hf), rowL_lenB]
  simp
theorem firstN_rowsL {n : Nat} {fs : List (Nat → Nat)} (h0 : 0 < fs.length) : firstN (rowsL n fs) = n := by
  unfold firstN
  rw [List.getD_eq_getElem?_getD, List.getElem?_eq_getElem (by rw [rowsL_len]; exact h0), Option.getD_some]
  simp [rowsL, rowL_lenB]
end Go.Proofs.Ytnoepobbecobbaa
