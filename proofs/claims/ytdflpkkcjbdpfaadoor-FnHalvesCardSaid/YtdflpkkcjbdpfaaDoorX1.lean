/- What a mirrored list is, and that the halves found make the list. -/
import Derived.Test.YtdflpkkcjbdpfaaDoorH5
import Derived.Test.YtdflpkkcjbdpfaaDoorC4
namespace Go.Proofs.YtdflpkkcjbdpfaaDoor
open Go.RowKit
set_option linter.unusedSimpArgs false
set_option linter.unusedVariables false

theorem sameT_txt {x y : List Nat} (h : sameT x y = true) : txt x = txt y := by
  unfold sameT at h
  rw [same_lets, decide_eq_true_eq] at h
  rw [← txt_lets (txt x), h, txt_lets]
theorem pal_at {α : Type} (xs : List α) (i : Nat) (hi : xs.length ≤ i) (hi2 : i < 2 * xs.length - 1) : (pal xs)[i]? = xs[2 * xs.length - 2 - i]? := by
  unfold pal
  rw [List.getElem?_append_right hi, List.getElem?_reverse (by simp; omega), List.getElem?_dropLast]
  simp only [List.length_dropLast]
  rw [if_pos (by omega)]
  congr 1
  omega
theorem pal_lo {α : Type} (xs : List α) (i : Nat) (hi : i < xs.length) : (pal xs)[i]? = xs[i]? := by
  unfold pal
  rw [List.getElem?_append_left hi]
/-- a mirrored list reads the same from behind -/
theorem pal_mirror {α : Type} (xs : List α) (i : Nat) (hi : i < (pal xs).length) : (pal xs)[(pal xs).length - 1 - i]? = (pal xs)[i]? := by
  rw [pal_len] at hi ⊢
  by_cases h : i < xs.length
  · rw [pal_lo xs i h]
    by_cases h2 : 2 * xs.length - 1 - 1 - i < xs.length
    · obtain rfl : i = xs.length - 1 := by omega
      rw [pal_lo xs _ h2]
      congr 1 <;> omega
    · rw [pal_at xs _ (by omega) (by omega)]
      congr 1 <;> omega
  · rw [pal_at xs i (by omega) hi, pal_lo xs _ (by omega)]
    congr 1 <;> omega
theorem pal_half (P : List (List Nat)) (h : palB P = true) : strs (pal (half P)) = strs P := by
  unfold palB at h
  simp at h
  obtain ⟨hp, hodd⟩ := h
  have hl : (half P).length = P.length / 2 + 1 := by unfold half; rw [List.length_take]; omega
  have hpl : (pal (half P)).length = P.length := by rw [pal_len, hl]; omega
  unfold strs
  apply List.ext_getElem?
  intro i
  rw [List.getElem?_map, List.getElem?_map]
  by_cases hi : i < P.length
  · by_cases hlo : i < (half P).length
    · rw [pal_lo _ i hlo]
      unfold half
      rw [List.getElem?_take, if_pos (by omega)]
    · rw [pal_at _ i (by omega) (by omega), hl]
      unfold half
      rw [List.getElem?_take, if_pos (by omega)]
      have hpi : pairOk P i = true := by
        unfold pairsOk at hp
        rw [List.all_eq_true] at hp
        exact hp i (List.mem_range.2 hi)
      unfold pairOk at hpi
      have e : 2 * (P.length / 2 + 1) - 2 - i = P.length - 1 - i := by omega
      rw [e]
      have h1 : P.length - 1 - i < P.length := by omega
      rw [List.getElem?_eq_getElem h1, List.getElem?_eq_getElem hi]
      have := sameT_txt hpi
      rw [List.getD_eq_getElem?_getD, List.getD_eq_getElem?_getD, List.getElem?_eq_getElem h1, List.getElem?_eq_getElem hi] at this
      simp at this
      simp [this]
  · rw [List.getElem?_eq_none (by omega), List.getElem?_eq_none (by omega)]
theorem strs_append (a b : List (List Nat)) : strs (a ++ b) = strs a ++ strs b := by simp [strs]
theorem halvesF_make (L : List (List Nat)) (hl : L.length ≤ 40) : ∀ (k : Nat) (a b : List (List Nat)), k < L.length → halvesF L k = some (a, b) → strs (pal a ++ pal b) = strs L ∧ (a.length ≤ 20 ∧ b.length ≤ 20) ∧ 1 ≤ a.length ∧ 1 ≤ b.length
  | 0, a, b, _, h => by simp [halvesF] at h
  | k + 1, a, b, hk, h => by
    rw [halvesF_pos L (k + 1) (by omega)] at h
    split at h
    · rename_i hc
      simp only [Bool.and_eq_true] at hc
      simp at h
      obtain ⟨rfl, rfl⟩ := h
      refine ⟨?_, ⟨?_, ?_⟩, ?_, ?_⟩
      · rw [strs_append, pal_half _ hc.1, pal_half _ hc.2, ← strs_append, List.take_append_drop]
      · unfold half; rw [List.length_take, List.length_take]; omega
      · unfold half; rw [List.length_take, List.length_drop]; omega
      · unfold half; rw [List.length_take, List.length_take]; omega
      · unfold half; rw [List.length_take, List.length_drop]; omega
    · exact halvesF_make L hl k a b (by omega) h
theorem halvesR_make {n : Int} {L a b : List (List Nat)} (h : halvesR n L = some (a, b)) : strs (pal a ++ pal b) = strs L ∧ palOk a = true ∧ palOk b = true ∧ (a.length ≤ 20 ∧ b.length ≤ 20) ∧ 1 ≤ a.length ∧ 1 ≤ b.length := by
  unfold halvesR at h
  split at h
  · rename_i hg
    unfold goodAll at hg
    simp at hg
    obtain ⟨h1, ⟨h2, h3⟩, h4, h5⟩ := halvesF_make L hg.1.2 _ a b (by omega) h
    exact ⟨h1, by simp [palOk]; omega, by simp [palOk]; omega, ⟨h2, h3⟩, h4, h5⟩
  · simp at h
end Go.Proofs.YtdflpkkcjbdpfaaDoor
