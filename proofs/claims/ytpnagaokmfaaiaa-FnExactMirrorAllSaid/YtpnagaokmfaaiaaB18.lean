/- All changes in the model. -/
import Derived.Test.YtpnagaokmfaaiaaB17
namespace Go.Proofs.Ytpnagaokmfaaiaa
open Go.RowKit

/-- letters that are bytes -/
def Sm (xs : List (List Nat)) : Prop := ∀ l ∈ xs, ∀ b ∈ l, b < 256
theorem Sm.set {xs : List (List Nat)} (h : Sm xs) (k : Nat) {s : List Nat} (hs : ∀ b ∈ s, b < 256) : Sm (xs.set k s) := by
  intro l hl
  rcases List.mem_or_eq_of_mem_set hl with q | q
  · exact h l q
  · rw [q]; exact hs
theorem Sm.get {xs : List (List Nat)} (h : Sm xs) (k : Nat) (hk : k < xs.length) : ∀ b ∈ xs.getD k [], b < 256 := by
  rw [List.getD_eq_getElem?_getD, List.getElem?_eq_getElem hk]
  exact h _ (List.getElem_mem hk)
theorem lexL_gt : ∀ a b : List Nat, (!lexL a b && !decide (a = b)) = lexL b a
  | [], [] => rfl
  | [], _ :: _ => rfl
  | _ :: _, [] => rfl
  | a :: l, b :: r => by
    have ih := lexL_gt l r
    unfold lexL
    rcases Nat.lt_trichotomy a b with h | h | h
    · have h1 : ¬ b < a := by omega
      have h2 : ¬ b = a := by omega
      simp [h, h1, h2]
    · subst h
      simp only [Nat.lt_irrefl, decide_false, beq_self_eq_true, Bool.true_and, Bool.false_or, List.cons.injEq, true_and]
      exact ih
    · have h1 : ¬ a < b := by omega
      have h2 : ¬ a = b := by omega
      simp [h, h1, h2]
theorem gt_txt {s t : List Nat} (hs : ∀ b ∈ s, b < 256) (ht : ∀ b ∈ t, b < 256) : (!Op.bytesLess (txt t).toList (txt s).toList && !(txt t).toList == (txt s).toList) = lexL s t := by
  rw [less_lets, same_lets, lets_txt s hs, lets_txt t ht]
  exact lexL_gt t s
theorem frm_len2 (n : Nat) : ∀ (k p : Nat), ∀ l ∈ frm n k p, l.length ≤ n + 1 - p
  | 0, p, l, h => by simp [frm] at h; simp [h]
  | k + 1, p, l, h => by
    unfold frm at h
    split at h
    · simp at h; simp [h]
    · rw [List.mem_append] at h
      rcases h with h | h
      · obtain ⟨t, ht, rfl⟩ := List.mem_map.1 h
        have := frm_len2 n k (p + 1) t ht
        simp only [List.length_cons]; omega
      · split at h
        · have := frm_len2 n k (p + 2) l h; omega
        · simp at h
theorem strs_at (xs : List (List Nat)) (k : Nat) (hk : k < xs.length) : (strs xs)[k]? = some (.string (txt (xs.getD k []))) := by
  simp [strs, List.getD_eq_getElem?_getD, hk]
theorem strs_set (xs : List (List Nat)) (k : Nat) (s : List Nat) : (strs xs).set k (.string (txt s)) = strs (xs.set k s) := by
  simp [strs, List.map_set]

end Go.Proofs.Ytpnagaokmfaaiaa
