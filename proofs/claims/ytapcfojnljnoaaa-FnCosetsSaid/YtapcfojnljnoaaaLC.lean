/- The texts of rows, read back: what the program's tests say of them. -/
import Derived.Test.YtapcfojnljnoaaaLB
namespace Go.Proofs.Ytapcfojnljnoaaa
open Go.RowKit
set_option linter.unusedSimpArgs false
set_option linter.unusedVariables false

theorem goodB_rowL {n : Nat} {f : Nat → Nat} (h : IsRow n f) : goodB (txt (rowL n f)) = true := by
  rw [txt_rowL]
  refine goodB_yes ?_
  rw [strOf_size, dg_strOf h]
  exact h
theorem dg_rowL {n : Nat} {f : Nat → Nat} (h : IsRow n f) : dg (txt (rowL n f)) = f := by rw [txt_rowL, dg_strOf h]
theorem rF_rowsL {n : Nat} {fs : List (Nat → Nat)} (h : Rows n fs) : rF (rowsL n fs) = fs := by
  unfold rF rowsL
  rw [List.map_map]
  conv => rhs; rw [← List.map_id fs]
  exact List.map_congr_left fun f hf => dg_rowL (h f hf)
theorem rowsB_rowsL {n : Nat} {fs : List (Nat → Nat)} (h : Rows n fs) (hl : fs.length ≤ 800) : rowsB n (rowsL n fs) = true := by
  unfold rowsB
  rw [rowsL_len, decide_eq_true hl, Bool.true_and, List.all_eq_true]
  intro l hm
  obtain ⟨f, hf, rfl⟩ := List.mem_map.1 hm
  unfold rowB
  rw [goodB_rowL (h f hf), rowL_len]
  simp
theorem firstN_rowsL {n : Nat} {fs : List (Nat → Nat)} (h0 : 0 < fs.length) : firstN (rowsL n fs) = n := by
  unfold firstN
  rw [List.getD_eq_getElem?_getD, List.getElem?_eq_getElem (by rw [rowsL_len]; exact h0), Option.getD_some]
  simp [rowsL, rowL_len]
theorem listB_rowsL {n : Nat} {fs : List (Nat → Nat)} (h : Rows n fs) (hl : fs.length ≤ 800) (h0 : 0 < fs.length) : listB (rowsL n fs) = true := by
  unfold listB
  rw [firstN_rowsL h0]
  exact rowsB_rowsL h hl
theorem incTo_rise {n : Nat} {fs : List (Nat → Nat)} (h : Rows n fs) (hl : fs.length ≤ 800) (hr : Rise n fs) (h0 : 0 < fs.length) : ∀ k, k < fs.length → incTo (rowsL n fs) k = true
  | 0, _ => rfl
  | k + 1, hk => by
    show (incTo (rowsL n fs) k && stepB (rowsL n fs) k) = true
    rw [incTo_rise h hl hr h0 k (by omega), Bool.true_and, stepB_row (listB_rowsL h hl h0) (by rw [rowsL_len]; exact hk)]
    have := hr k (k + 1) (by omega) hk (by omega)
    have e := firstN_rowsL (n := n) h0
    simp only [e, rF_rowsL h, ltF, decide_eq_true_eq]
    exact this
theorem riseB_rowsL {n : Nat} {fs : List (Nat → Nat)} (h : Rows n fs) (hl : fs.length ≤ 800) (hr : Rise n fs) (h0 : 0 < fs.length) : riseB (rowsL n fs) = true := by
  unfold riseB incB
  rw [rowsL_len, incTo_rise h hl hr h0 _ (by omega), listB_rowsL h hl h0]
  rfl
/-- the program says that a group's rows in order are one -/
theorem isG_rowsL {n : Nat} {fs : List (Nat → Nat)} (h : Rows n fs) (hl : fs.length ≤ 800) (hr : Rise n fs) (hG : IsGrp n fs) : isG (rowsL n fs) = true := by
  have h0 := List.length_pos_of_mem hG.1
  unfold isG
  rw [riseB_rowsL h hl hr h0, rowsL_len, decide_eq_true h0, firstN_rowsL h0, rF_rowsL h, grpB_iff.2 hG]
  rfl
/-- rows in order, each once, rise -/
theorem rise_sort {n : Nat} {fs : List (Nat → Nat)} (h : Rows n fs) (hn : fs.Nodup) : Rise n (sortF n fs) := by
  intro i j hi hj hij
  have ho := List.pairwise_iff_getElem.1 (sortF_ord n fs) i j hi hj hij
  refine Nat.lt_of_le_of_ne ho fun e => ?_
  have hrs := rows_sort h
  have e2 := rowKey_inj (hrs _ (List.getElem_mem hi)) (hrs _ (List.getElem_mem hj)) e
  have hnd : (sortF n fs).Nodup := ((sortF_perm n fs).nodup_iff).2 hn
  exact List.pairwise_iff_getElem.1 hnd i j hi hj hij e2
theorem grp_sort {n : Nat} {fs : List (Nat → Nat)} (h : IsGrp n fs) : IsGrp n (sortF n fs) :=
  ⟨(sortF_perm n fs).mem_iff.2 h.1, fun a ha b hb => (sortF_perm n fs).mem_iff.2 (h.2 a ((sortF_perm n fs).mem_iff.1 ha) b ((sortF_perm n fs).mem_iff.1 hb))⟩
end Go.Proofs.Ytapcfojnljnoaaa
