/- slices.Sort on the texts of rows; SortRows in the program and in the model; the law SortRows. -/
import Derived.Shelf.SortM.Plain
import Derived.Shelf.SortM.SortNone
import Derived.Sort.OwnSorted
import Derived.Sort.KeysCollected
import Derived.Test.YtnoepobbecobbaaSH
import Derived.Test.YtnoepobbecobbaaSF
namespace Go.Proofs.Ytnoepobbecobbaa
open Go.RowKit
set_option linter.unusedSimpArgs false
set_option linter.unusedVariables false
/-- a row's bytes -/
def bytF (n : Nat) (f : Nat → Nat) : List UInt8 := (rowL n f).map UInt8.ofNat
theorem strs_enc (n : Nat) (fs : List (Nat → Nat)) : strs (rowsL n fs) = (fs.map (bytF n)).map encStr := by
  simp only [strs, rowsL, List.map_map]
  rfl
theorem lt_bytes : ∀ (l r : List Nat), (∀ b ∈ l, b < 256) → (∀ b ∈ r, b < 256) → (l.map UInt8.ofNat < r.map UInt8.ofNat ↔ lexL l r = true)
  | [], [], _, _ => by simp [lexL]
  | [], _ :: _, _, _ => by simp [lexL]
  | _ :: _, [], _, _ => by simp [lexL]
  | a :: l, b :: r, hl, hr => by
    have ha := hl a (by simp)
    have hb := hr b (by simp)
    have ih := lt_bytes l r (fun x hx => hl x (by simp [hx])) (fun x hx => hr x (by simp [hx]))
    simp only [List.map_cons, List.cons_lt_cons_iff, lexL, Bool.or_eq_true, decide_eq_true_eq, Bool.and_eq_true, beq_iff_eq, ih]
    have e1 : (UInt8.ofNat a < UInt8.ofNat b) ↔ (a < b) := by
      rw [UInt8.lt_iff_toNat_lt]; simp [UInt8.toNat_ofNat']; omega
    have e2 : (UInt8.ofNat a = UInt8.ofNat b) ↔ a = b := by
      constructor
      · intro e
        have := congrArg UInt8.toNat e
        simp [UInt8.toNat_ofNat'] at this; omega
      · rintro rfl; rfl
    rw [e1, e2]
theorem le_bytes {n : Nat} {f g : Nat → Nat} (hf : IsRow n f) (hg : IsRow n g) : bytF n f ≤ bytF n g ↔ rowKey n f ≤ rowKey n g := by
  have h := lt_bytes (rowL n g) (rowL n f) (rowL_small hg) (rowL_small hf)
  rw [lexL_num _ _ (by rw [rowL_len, rowL_len]) (rowL_small hg) (rowL_small hf), decide_eq_true_eq] at h
  unfold bytF
  rw [← List.not_lt, h]
  show ¬ rowKey n g < rowKey n f ↔ _
  omega
theorem sorted_bytes {n : Nat} {fs : List (Nat → Nat)} (hr : Rows n fs) : ((fs.map (bytF n)).mergeSort fun x y => decide (x ≤ y)) = (sortF n fs).map (bytF n) := by
  have h1 : (fs.map (bytF n)).Perm ((sortF n fs).map (bytF n)) := ((sortF_perm n fs).map _).symm
  have h2 := mergeSort_of_perm h1
  unfold leB at h2
  rw [h2]
  refine List.mergeSort_of_pairwise ?_
  rw [List.pairwise_map]
  refine List.Pairwise.imp_of_mem ?_ (sortF_ord n fs)
  intro a b ha hb h
  have hs := rows_sort hr
  exact decide_eq_true ((le_bytes (hs a ha) (hs b hb)).2 h)

end Go.Proofs.Ytnoepobbecobbaa
