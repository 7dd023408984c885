/- Lists that rise: in the program, in the model. Rows that rise; the model's test whether rows are a group. The model's test whether rows are a group. IsGroup. -/
import Derived.Test.YtnoepobbecobbaaSU
import Derived.BigQuiet
namespace Go.Proofs.Ytnoepobbecobbaa
open Go.RowKit
set_option linter.unusedSimpArgs false
set_option linter.unusedVariables false

theorem drawnBelow {B : Nat} {W W' : World} (h : Below B W W') (n : Nat) : Below B W (W'.drewN n) := ⟨h.os, h.tape, h.output, h.size, h.block⟩
def txB (L : List (List Nat)) (i : Nat) : ByteArray := txt (L.getD i [])
def stepB (L : List (List Nat)) (k : Nat) : Bool := Op.bytesLess (txB L k).toList (txB L (k + 1)).toList
def incTo (L : List (List Nat)) : Nat → Bool
  | 0 => true
  | k + 1 => incTo L k && stepB L k
def incB (L : List (List Nat)) : Bool := incTo L (L.length - 1)
theorem incTo_le (L : List (List Nat)) : ∀ {a b : Nat}, a ≤ b → incTo L b = true → incTo L a = true
  | a, 0, h, e => by rw [show a = 0 by omega]; exact e
  | a, b + 1, h, e => by
    by_cases hab : a = b + 1
    · rw [hab]; exact e
    · have : (incTo L b && stepB L b) = true := e
      exact incTo_le L (show a ≤ b by omega) (by simp only [Bool.and_eq_true] at this; exact this.1)
theorem incB_no {L : List (List Nat)} {k : Nat} (hk : k + 1 < L.length) (h : stepB L k = false) : incB L = false := by
  cases hb : incB L with
  | false => rfl
  | true =>
    have := incTo_le L (show k + 1 ≤ L.length - 1 by omega) hb
    have : (incTo L k && stepB L k) = true := this
    rw [h, Bool.and_false] at this
    cases this

end Go.Proofs.Ytnoepobbecobbaa
namespace Go.Proofs.Ytnoepobbecobbaa
open Go.RowKit
set_option linter.unusedSimpArgs false
set_option linter.unusedVariables false

/-- the rows rise -/
def Rise (n : Nat) (fs : List (Nat → Nat)) : Prop := ∀ i j (hi : i < fs.length) (hj : j < fs.length), i < j → rowKey n fs[i] < rowKey n fs[j]
theorem Rise.nodup {n : Nat} {fs : List (Nat → Nat)} (h : Rise n fs) : fs.Nodup := by
  unfold List.Nodup
  rw [List.pairwise_iff_getElem]
  intro i j hi hj hij e
  have := h i j hi hj hij
  rw [e] at this
  omega
theorem Rise.ord {n : Nat} {fs : List (Nat → Nat)} (h : Rise n fs) : Ord n fs := by
  unfold Ord
  rw [List.pairwise_iff_getElem]
  intro i j hi hj hij
  exact Nat.le_of_lt (h i j hi hj hij)
theorem Rise.sort {n : Nat} {fs : List (Nat → Nat)} (hr : Rows n fs) (h : Rise n fs) : sortF n fs = fs := (sortF_unique hr (List.Perm.refl _) h.ord).symm
theorem txB_row {L : List (List Nat)} (hb : listB L = true) {k : Nat} (hk : k < L.length) : txB L k = strOf (firstN L) ((rF L)[k]'(by rw [rF_len]; exact hk)) := by
  unfold txB
  rw [List.getD_eq_getElem?_getD, List.getElem?_eq_getElem hk, Option.getD_some]
  have hm := rowsB_mem hb (List.getElem_mem hk)
  have := (str_dg (n := firstN L) hm.1 (by have := hm.2; omega)).2
  rw [this]
  simp [rF]
theorem stepB_row {L : List (List Nat)} (hb : listB L = true) {k : Nat} (hk : k + 1 < L.length) : stepB L k = ltF (firstN L) ((rF L)[k]'(by rw [rF_len]; omega)) ((rF L)[k + 1]'(by rw [rF_len]; omega)) := by
  unfold stepB
  rw [txB_row hb (show k < L.length by omega), txB_row hb hk]
  exact less_rows (rowsB_rows hb _ (List.getElem_mem _)) (rowsB_rows hb _ (List.getElem_mem _))
theorem rise_of {L : List (List Nat)} (hb : listB L = true) (hi : incB L = true) : Rise (firstN L) (rF L) := by
  intro i j hi' hj hij
  rw [rF_len] at hi' hj
  induction j with
  | zero => omega
  | succ j ih =>
    have h1 := incTo_le L (show j + 1 ≤ L.length - 1 by omega) hi
    have h1 : (incTo L j && stepB L j) = true := h1
    simp only [Bool.and_eq_true] at h1
    have h2 := h1.2
    rw [stepB_row hb hj] at h2
    have h2 : rowKey (firstN L) ((rF L)[j]'(by rw [rF_len]; omega)) < rowKey (firstN L) ((rF L)[j + 1]'(by rw [rF_len]; omega)) := by simpa [ltF] using h2
    by_cases hij2 : i = j
    · subst hij2; exact h2
    · exact Nat.lt_trans (ih (by rw [rF_len]; omega) (by omega) (by omega)) h2
theorem less_list2 : ∀ (n : Nat) (F G : Nat → UInt8), (∃ j, j < n ∧ (∀ i, i < j → F i = G i) ∧ F j < G j) → Op.bytesLess ((List.range n).map F) ((List.range n).map G) = true
  | 0, _, _, h => by obtain ⟨j, hj, _⟩ := h; omega
  | n + 1, F, G, h => by
    obtain ⟨j, hj, h1, h2⟩ := h
    rw [List.range_succ_eq_map, List.map_cons, List.map_cons, List.map_map, List.map_map]
    unfold Op.bytesLess
    cases j with
    | zero => simp [h2]
    | succ j =>
      rw [h1 0 (by omega)]
      simp only [beq_self_eq_true, Bool.true_and, Bool.or_eq_true]
      exact Or.inr (less_list2 n (F ∘ Nat.succ) (G ∘ Nat.succ) ⟨j, by omega, fun i hi => h1 (i + 1) (by omega), h2⟩)
theorem key_first {n : Nat} {f g : Nat → Nat} (hf : IsRow n f) (hg : IsRow n g) {j : Nat} (hj : j < n) (h1 : ∀ i, i < j → f i = g i) (h2 : f j < g j) : rowKey n f < rowKey n g := by
  have h := less_rows hf hg
  have hl : Op.bytesLess (strOf n f).toList (strOf n g).toList = true := by
    rw [Lib.toList_data, Lib.toList_data]
    simp only [strOf]
    refine less_list2 n _ _ ⟨j, hj, fun i hi => by rw [h1 i hi], ?_⟩
    have := hg.hi j hj
    have := hg.eight
    rw [UInt8.lt_iff_toNat_lt]
    simp; omega
  rw [hl] at h
  simpa [ltF] using h.symm
/-- rounds is the least row -/
theorem rounds_least {n : Nat} {f : Nat → Nat} (hf : IsRow n f) (hne : f ≠ rdf n) : rowKey n (rdf n) < rowKey n f := by
  have h3 := hf.three
  have h8 := hf.eight
  have hr := isRow_rdf h3 h8
  have hex : ∃ j, j < n ∧ f j ≠ rdf n j := by
    refine Classical.byContradiction fun hno => hne (funext fun i => ?_)
    by_cases hi : i < n
    · exact Classical.byContradiction fun h => hno ⟨i, hi, h⟩
    · rw [hf.zero i (by omega), hr.zero i (by omega)]
  obtain ⟨j, hj, h1, h2⟩ : ∃ j, j < n ∧ f j ≠ rdf n j ∧ ∀ i, i < j → f i = rdf n i := by
    obtain ⟨j0, h⟩ := hex
    have key : ∀ j, (j < n ∧ f j ≠ rdf n j) → ∃ j, j < n ∧ f j ≠ rdf n j ∧ ∀ i, i < j → f i = rdf n i := by
      intro j
      induction j using Nat.strongRecOn with
      | ind j ih =>
        intro h
        by_cases hall : ∀ i, i < j → f i = rdf n i
        · exact ⟨j, h.1, h.2, hall⟩
        · obtain ⟨i, hi⟩ := Classical.not_forall.1 hall
          obtain ⟨hi, hne⟩ := Classical.not_imp.1 hi
          exact ih i hi ⟨by omega, hne⟩
    exact key j0 h
  have hrd : ∀ i, i < n → rdf n i = 49 + i := fun i hi => by simp [rdf, hi]
  refine key_first hr hf hj (fun i hi => (h2 i hi).symm) ?_
  rw [hrd j hj] at h1 ⊢
  have hlo := hf.lo j hj
  rcases Nat.lt_or_ge (f j) (49 + j) with h | h
  · have hk : f j - 49 < j := by omega
    have e := h2 (f j - 49) hk
    rw [hrd _ (by omega)] at e
    have := hf.inj (f j - 49) j (by omega) hj (by rw [e]; omega)
    omega
  · omega
theorem first_rounds {n : Nat} {fs : List (Nat → Nat)} (hr : Rows n fs) (hi : Rise n fs) (h0 : 0 < fs.length) : fs[0] = rdf n ↔ rdf n ∈ fs := by
  constructor
  · intro e
    rw [← e]
    exact List.getElem_mem h0
  · intro hm
    obtain ⟨k, hk, e⟩ := List.getElem_of_mem hm
    by_cases hk0 : k = 0
    · subst hk0; exact e
    · refine Classical.byContradiction fun hne => ?_
      have h1 := rounds_least (hr _ (List.getElem_mem h0)) hne
      have h2 := hi 0 k h0 hk (by omega)
      rw [e] at h2
      omega

open Classical in
/-- rows are a group -/
noncomputable def grpB (n : Nat) (fs : List (Nat → Nat)) : Bool := decide (IsGrp n fs)
end Go.Proofs.Ytnoepobbecobbaa
namespace Go.Proofs.Ytnoepobbecobbaa
open Go.RowKit
set_option linter.unusedSimpArgs false
set_option linter.unusedVariables false

noncomputable def rowA (n : Nat) (fs : List (Nat → Nat)) (a : Nat → Nat) : Bool := fs.all fun b => inB (mulR n a b) fs
noncomputable def allA (n : Nat) (fs : List (Nat → Nat)) : Bool := fs.all (rowA n fs)
theorem allA_no {n : Nat} {fs : List (Nat → Nat)} {a b : Nat → Nat} (ha : a ∈ fs) (hb : b ∈ fs) (h : inB (mulR n a b) fs = false) : allA n fs = false := by
  cases hc : allA n fs with
  | false => rfl
  | true =>
    have h1 := List.all_eq_true.1 hc a ha
    have h2 := List.all_eq_true.1 h1 b hb
    rw [h] at h2
    cases h2
theorem inB_rowsIn (f : Nat → Nat) (fs : List (Nat → Nat)) : inB f (rowsIn fs) = inB f fs := by
  unfold inB
  congr 1
  exact propext (mem_rowsIn fs f)

end Go.Proofs.Ytnoepobbecobbaa
namespace Go.Proofs.Ytnoepobbecobbaa
open Go.RowKit
set_option linter.unusedSimpArgs false
set_option linter.unusedVariables false

/-- an operation whose guard lets it run is walked as if it had none -/
theorem wpList_unguard6 {P : Program} {ops : Array Oper} {Q : Exit → Act → World → Prop} {a : Act} {w : World} {rest : List Oper} {o : Oper} (hw : Region.wanted o (yielded ops a.tmps) = true)
    (h : wpList P ops Q ({o with guard := none} :: rest) a w) : wpList P ops Q (o :: rest) a w := by
  unfold wpList at h ⊢
  rw [if_pos hw]
  rw [if_pos (show Region.wanted {o with guard := none} (yielded ops a.tmps) = true by simp [Region.wanted])] at h
  exact h
noncomputable def riseB (L : List (List Nat)) : Bool := incB L && listB L
noncomputable def isG (L : List (List Nat)) : Bool := riseB L && (decide (0 < L.length) && grpB (firstN L) (rF L))
theorem allA_iff {n : Nat} {fs : List (Nat → Nat)} : allA n fs = true ↔ ∀ a ∈ fs, ∀ b ∈ fs, mulR n a b ∈ fs := by
  unfold allA rowA
  simp only [List.all_eq_true, inB_iff]
theorem grpB_iff {n : Nat} {fs : List (Nat → Nat)} : grpB n fs = true ↔ IsGrp n fs := by simp [grpB]
/-- the model's test -/
theorem grpB_model {n : Nat} {fs : List (Nat → Nat)} (hr : Rows n fs) (hi : Rise n fs) (h0 : 0 < fs.length) : (fs[0] = rdf n → grpB n fs = allA n fs) ∧ (fs[0] ≠ rdf n → grpB n fs = false) := by
  constructor
  · intro e
    have hm := (first_rounds hr hi h0).1 e
    rw [Bool.eq_iff_iff, grpB_iff, allA_iff]
    exact ⟨fun h => h.2, fun h => ⟨hm, h⟩⟩
  · intro e
    cases hb : grpB n fs with
    | false => rfl
    | true => exact absurd ((first_rounds hr hi h0).2 (grpB_iff.1 hb).1) e
/-- the program's -/
theorem grpB_prog {n : Nat} (h3 : 3 ≤ n) (h8 : n ≤ 8) {fs : List (Nat → Nat)} (hr : Rows n fs) (hi : Rise n fs) (hl : fs.length ≤ 800) :
    (grpR n fs = none → grpB n fs = false) ∧ ∀ G, grpR n fs = some G → grpB n fs = ((G.length : Int) == (fs.length : Int)) ∧ G.length ≤ 800 := by
  have hiff := grp_iff h3 h8 hr hi.nodup hl
  constructor
  · intro e
    cases hb : grpB n fs with
    | false => rfl
    | true =>
      obtain ⟨G, hG, _⟩ := hiff.1 (grpB_iff.1 hb)
      rw [e] at hG
      cases hG
  · intro G e
    have hs := grpR_spec h3 h8 hr
    rw [e] at hs
    refine ⟨?_, hs.len⟩
    rw [Bool.eq_iff_iff, grpB_iff, hiff, e]
    simp only [Option.some.injEq, exists_eq_left', beq_iff_eq]
    omega

end Go.Proofs.Ytnoepobbecobbaa
