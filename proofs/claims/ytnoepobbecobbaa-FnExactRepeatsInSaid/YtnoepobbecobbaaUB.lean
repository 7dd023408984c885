/- The pairs of equal rows, purely. -/
import Derived.Test.YtnoepobbecobbaaUA
import Derived.Test.YtnoepobbecobbaaOD
namespace Go.Proofs.Ytnoepobbecobbaa
open Go.RowKit
set_option linter.unusedSimpArgs false
set_option linter.unusedVariables false

open Classical in
/-- the pairs with first index i, the second below k -/
noncomputable def rowP (fs : List (Nat → Nat)) (i : Nat) : Nat → List (List Nat)
  | 0 => []
  | k + 1 => if i < k ∧ fs[i]? = fs[k]? then rowP fs i k ++ [[i, k]] else rowP fs i k
/-- the pairs with first index below i -/
noncomputable def allP (fs : List (Nat → Nat)) : Nat → List (List Nat)
  | 0 => []
  | i + 1 => allP fs i ++ rowP fs i fs.length
noncomputable def repF (fs : List (Nat → Nat)) : List (List Nat) := (allP fs fs.length).take 100
theorem rowP_yes {fs : List (Nat → Nat)} {i k : Nat} (h : i < k) (e : fs[i]? = fs[k]?) : rowP fs i (k + 1) = rowP fs i k ++ [[i, k]] := by simp [rowP, h, e]
theorem rowP_skip {fs : List (Nat → Nat)} {i k : Nat} (h : ¬ (i < k ∧ fs[i]? = fs[k]?)) : rowP fs i (k + 1) = rowP fs i k := by
  rw [rowP.eq_2]
  exact if_neg h
theorem rowP_no {fs : List (Nat → Nat)} {i k : Nat} (e : fs[i]? ≠ fs[k]?) : rowP fs i (k + 1) = rowP fs i k := by simp [rowP, e]
theorem rowP_low {fs : List (Nat → Nat)} {i : Nat} : ∀ k, k ≤ i + 1 → rowP fs i k = []
  | 0, _ => rfl
  | k + 1, h => by
    have h1 : ¬ (i < k ∧ fs[i]? = fs[k]?) := fun q => by omega
    have h2 := rowP_low (fs := fs) (i := i) k (by omega)
    rw [rowP_skip h1, h2]
theorem rowP_more {fs : List (Nat → Nat)} {i k : Nat} : ∀ d, ∃ t, rowP fs i (k + d) = rowP fs i k ++ t
  | 0 => ⟨[], by simp⟩
  | d + 1 => by
    obtain ⟨t, ht⟩ := rowP_more (fs := fs) (i := i) (k := k) d
    by_cases h : i < k + d ∧ fs[i]? = fs[k + d]?
    · exact ⟨t ++ [[i, k + d]], by rw [← Nat.add_assoc, rowP_yes h.1 h.2, ht, List.append_assoc]⟩
    · exact ⟨t, by rw [← Nat.add_assoc, ← ht]; exact rowP_skip h⟩
/-- what is known on the way: the pairs so far, at most 100 -/
noncomputable def nowP (fs : List (Nat → Nat)) (i k : Nat) : List (List Nat) := (allP fs i ++ rowP fs i k).take 100
theorem nowP_first (fs : List (Nat → Nat)) (i : Nat) : nowP fs i (i + 1) = (allP fs i).take 100 := by simp [nowP, rowP_low (fs := fs) (i := i) (i + 1) (Nat.le_refl _)]
theorem nowP_last (fs : List (Nat → Nat)) (i : Nat) : nowP fs i fs.length = (allP fs (i + 1)).take 100 := rfl
theorem nowP_len (fs : List (Nat → Nat)) (i k : Nat) : (nowP fs i k).length ≤ 100 := by
  unfold nowP
  rw [List.length_take]
  omega
/-- a full list stays -/
theorem nowP_full {fs : List (Nat → Nat)} {i k : Nat} (h : ¬ (nowP fs i k).length < 100) (hk : k ≤ fs.length) : nowP fs i k = (allP fs (i + 1)).take 100 := by
  obtain ⟨t, ht⟩ := rowP_more (fs := fs) (i := i) (k := k) (fs.length - k)
  rw [show k + (fs.length - k) = fs.length by omega] at ht
  show _ = (allP fs i ++ rowP fs i fs.length).take 100
  rw [ht, ← List.append_assoc, List.take_append_of_le_length]
  · rfl
  · unfold nowP at h
    rw [List.length_take] at h
    omega
theorem nowP_room {fs : List (Nat → Nat)} {i k : Nat} (h : (nowP fs i k).length < 100) : nowP fs i k = allP fs i ++ rowP fs i k := by
  unfold nowP at h ⊢
  rw [List.length_take] at h
  exact List.take_of_length_le (by omega)
theorem nowP_yes {fs : List (Nat → Nat)} {i k : Nat} (h : (nowP fs i k).length < 100) (hik : i < k) (e : fs[i]? = fs[k]?) : nowP fs i (k + 1) = nowP fs i k ++ [[i, k]] := by
  have h1 := nowP_room h
  show (allP fs i ++ rowP fs i (k + 1)).take 100 = _
  rw [rowP_yes hik e, ← List.append_assoc, ← h1]
  exact List.take_of_length_le (by rw [List.length_append]; show _ + 1 ≤ 100; omega)
theorem nowP_no {fs : List (Nat → Nat)} {i k : Nat} (e : fs[i]? ≠ fs[k]?) : nowP fs i (k + 1) = nowP fs i k := by
  unfold nowP
  rw [rowP_no e]
theorem allP_past {fs : List (Nat → Nat)} {i k : Nat} (h : fs.length ≤ i + 1) (hk : k ≤ i + 1) : rowP fs i k = [] := rowP_low k hk
end Go.Proofs.Ytnoepobbecobbaa
