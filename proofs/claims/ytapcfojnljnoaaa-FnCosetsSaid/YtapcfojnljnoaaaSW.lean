/- Rows that rise; the model's test whether rows are a group. -/
import Derived.Test.YtapcfojnljnoaaaSV
namespace Go.Proofs.Ytapcfojnljnoaaa
open Go.RowKit
set_option linter.unusedSimpArgs false
set_option linter.unusedVariables false

/-- the rows rise -/
def Rise (n : Nat) (fs : List (Nat → Nat)) : Prop := ∀ i j (hi : i < fs.length) (hj : j < fs.length), i < j → rowKey n fs[i] < rowKey n fs[j]
theorem Rise.nodup {n : Nat} {fs : List (Nat → Nat)} (h : Rise n fs) : fs.Nodup := by
  unfold List.Nodup
  rw [List.pairwise_iff_getElem]
  intro i j hi hj hij e
  have := h i j hi hj hij
  rw [e] at this
  omega
theorem Rise.ord {n : Nat} {fs : List (Nat → Nat)} (h : Rise n fs) : Ord n fs := by
  unfold Ord
  rw [List.pairwise_iff_getElem]
  intro i j hi hj hij
  exact Nat.le_of_lt (h i j hi hj hij)
theorem Rise.sort {n : Nat} {fs : List (Nat → Nat)} (hr : Rows n fs) (h : Rise n fs) : sortF n fs = fs := (sortF_unique hr (List.Perm.refl _) h.ord).symm
theorem txB_row {L : List (List Nat)} (hb : listB L = true) {k : Nat} (hk : k < L.length) : txB L k = strOf (firstN L) ((rF L)[k]'(by rw [rF_len]; exact hk)) := by
  unfold txB
  rw [List.getD_eq_getElem?_getD, List.getElem?_eq_getElem hk, Option.getD_some]
  have hm := rowsB_mem hb (List.getElem_mem hk)
  have := (str_dg (n := firstN L) hm.1 (by have := hm.2; omega)).2
  rw [this]
  simp [rF]
theorem stepB_row {L : List (List Nat)} (hb : listB L = true) {k : Nat} (hk : k + 1 < L.length) : stepB L k = ltF (firstN L) ((rF L)[k]'(by rw [rF_len]; omega)) ((rF L)[k + 1]'(by rw [rF_len]; omega)) := by
  unfold stepB
  rw [txB_row hb (show k < L.length by omega), txB_row hb hk]
  exact less_rows (rowsB_rows hb _ (List.getElem_mem _)) (rowsB_rows hb _ (List.getElem_mem _))
theorem rise_of {L : List (List Nat)} (hb : listB L = true) (hi : incB L = true) : Rise (firstN L) (rF L) := by
  intro i j hi' hj hij
  rw [rF_len] at hi' hj
  induction j with
  | zero => omega
  | succ j ih =>
    have h1 := incTo_le L (show j + 1 ≤ L.length - 1 by omega) hi
    have h1 : (incTo L j && stepB L j) = true := h1
    simp only [Bool.and_eq_true] at h1
    have h2 := h1.2
    rw [stepB_row hb hj] at h2
    have h2 : rowKey (firstN L) ((rF L)[j]'(by rw [rF_len]; omega)) < rowKey (firstN L) ((rF L)[j + 1]'(by rw [rF_len]; omega)) := by simpa [ltF] using h2
    by_cases hij2 : i = j
    · subst hij2; exact h2
    · exact Nat.lt_trans (ih (by rw [rF_len]; omega) (by omega) (by omega)) h2
theorem less_list2 : ∀ (n : Nat) (F G : Nat → UInt8), (∃ j, j < n ∧ (∀ i, i < j → F i = G i) ∧ F j < G j) → Op.bytesLess ((List.range n).map F) ((List.range n).map G) = true
  | 0, _, _, h => by obtain ⟨j, hj, _⟩ := h; omega
  | n + 1, F, G, h => by
    obtain ⟨j, hj, h1, h2⟩ := h
    rw [List.range_succ_eq_map, List.map_cons, List.map_cons, List.map_map, List.map_map]
    unfold Op.bytesLess
    cases j with
    | zero => simp [h2]
    | succ j =>
      rw [h1 0 (by omega)]
      simp only [beq_self_eq_true, Bool.true_and, Bool.or_eq_true]
      exact Or.inr (less_list2 n (F ∘ Nat.succ) (G ∘ Nat.succ) ⟨j, by omega, fun i hi => h1 (i + 1) (by omega), h2⟩)
theorem key_first {n : Nat} {f g : Nat → Nat} (hf : IsRow n f) (hg : IsRow n g) {j : Nat} (hj : j < n) (h1 : ∀ i, i < j → f i = g i) (h2 : f j < g j) : rowKey n f < rowKey n g := by
  have h := less_rows hf hg
  have hl : Op.bytesLess (strOf n f).toList (strOf n g).toList = true := by
    rw [Lib.toList_data, Lib.toList_data]
    simp only [strOf]
    refine less_list2 n _ _ ⟨j, hj, fun i hi => by rw [h1 i hi], ?_⟩
    have := hg.hi j hj
    have := hg.eight
    rw [UInt8.lt_iff_toNat_lt]
    simp; omega
  rw [hl] at h
  simpa [ltF] using h.symm
/-- rounds is the least row -/
theorem rounds_least {n : Nat} {f : Nat → Nat} (hf : IsRow n f) (hne : f ≠ rdf n) : rowKey n (rdf n) < rowKey n f := by
  have h3 := hf.three
  have h8 := hf.eight
  have hr := isRow_rdf h3 h8
  have hex : ∃ j, j < n ∧ f j ≠ rdf n j := by
    refine Classical.byContradiction fun hno => hne (funext fun i => ?_)
    by_cases hi : i < n
    · exact Classical.byContradiction fun h => hno ⟨i, hi, h⟩
    · rw [hf.zero i (by omega), hr.zero i (by omega)]
  obtain ⟨j, hj, h1, h2⟩ : ∃ j, j < n ∧ f j ≠ rdf n j ∧ ∀ i, i < j → f i = rdf n i := by
    obtain ⟨j0, h⟩ := hex
    have key : ∀ j, (j < n ∧ f j ≠ rdf n j) → ∃ j, j < n ∧ f j ≠ rdf n j ∧ ∀ i, i < j → f i = rdf n i := by
      intro j
      induction j using Nat.strongRecOn with
      | ind j ih =>
        intro h
        by_cases hall : ∀ i, i < j → f i = rdf n i
        · exact ⟨j, h.1, h.2, hall⟩
        · obtain ⟨i, hi⟩ := Classical.not_forall.1 hall
          obtain ⟨hi, hne⟩ := Classical.not_imp.1 hi
          exact ih i hi ⟨by omega, hne⟩
    exact key j0 h
  have hrd : ∀ i, i < n → rdf n i = 49 + i := fun i hi => by simp [rdf, hi]
  refine key_first hr hf hj (fun i hi => (h2 i hi).symm) ?_
  rw [hrd j hj] at h1 ⊢
  have hlo := hf.lo j hj
  rcases Nat.lt_or_ge (f j) (49 + j) with h | h
  · have hk : f j - 49 < j := by omega
    have e := h2 (f j - 49) hk
    rw [hrd _ (by omega)] at e
    have := hf.inj (f j - 49) j (by omega) hj (by rw [e]; omega)
    omega
  · omega
theorem first_rounds {n : Nat} {fs : List (Nat → Nat)} (hr : Rows n fs) (hi : Rise n fs) (h0 : 0 < fs.length) : fs[0] = rdf n ↔ rdf n ∈ fs := by
  constructor
  · intro e
    rw [← e]
    exact List.getElem_mem h0
  · intro hm
    obtain ⟨k, hk, e⟩ := List.getElem_of_mem hm
    by_cases hk0 : k = 0
    · subst hk0; exact e
    · refine Classical.byContradiction fun hne => ?_
      have h1 := rounds_least (hr _ (List.getElem_mem h0)) hne
      have h2 := hi 0 k h0 hk (by omega)
      rw [e] at h2
      omega

open Classical in
/-- rows are a group -/
noncomputable def grpB (n : Nat) (fs : List (Nat → Nat)) : Bool := decide (IsGrp n fs)
end Go.Proofs.Ytapcfojnljnoaaa
