/- Touches as texts: turned, reversed, the least turn. Purely. -/
import Derived.Test.YtkhglknpcajmiaaXA
import Derived.Lib.MinMaxS
namespace Go.Proofs.Ytkhglknpcajmiaa
open Go.RowKit
set_option linter.unusedSimpArgs false
set_option linter.unusedVariables false

/-- a touch turned to the left -/
def turnT (t : ByteArray) (n : Nat) : ByteArray := t.extract n t.size ++ t.extract 0 n
/-- the lesser of two texts -/
def minB (a b : ByteArray) : ByteArray := if Op.bytesLess b.toList a.toList = true then b else a
theorem minS_eq (a b : ByteArray) : Lib.minS a b = minB a b := by
  have h1 : (a.data.toList < b.data.toList) ↔ lexL (lets a) (lets b) = true := by
    rw [← less_lets, Lib.toList_data, Lib.toList_data, bytesLess_eq, decide_eq_true_eq]
  have h2 : (a.data.toList = b.data.toList) ↔ lets a = lets b := by
    constructor
    · intro e
      have : a = b := by cases a; cases b; simp_all
      rw [this]
    · intro e
      rw [lets_inj e]
  have h3 := lexL_gt (lets a) (lets b)
  unfold Lib.minS minB
  rw [less_lets]
  simp only [h1, h2]
  rw [← h3]
  cases e1 : lexL (lets a) (lets b)
  · by_cases e2 : lets a = lets b
    · simp [e2, lets_inj e2]
    · simp [e2]
  · simp
theorem lets_app (a b : ByteArray) : lets (a ++ b) = lets a ++ lets b := by
  rw [← data_lets, ← data_lets, ← data_lets, ByteArray.data_append, Array.toList_append, List.map_append]
theorem lets_ext (s : ByteArray) (p q : Nat) : lets (s.extract p q) = ((lets s).drop p).take (q - p) := by
  rw [← data_lets, ← data_lets]
  simp only [ByteArray.data_extract, Array.toList_extract]
  simp [List.extract_eq_take_drop, List.map_drop, List.map_take]
theorem lets_turn (t : ByteArray) (n : Nat) : lets (turnT t n) = (lets t).drop n ++ (lets t).take n := by
  unfold turnT
  rw [lets_app, lets_ext, lets_ext, List.drop_zero, Nat.sub_zero, List.take_of_length_le (by rw [List.length_drop, lets_len]; exact Nat.le_refl _)]
theorem turnT_size (t : ByteArray) (n : Nat) : (turnT t n).size = t.size := by
  rw [← lets_len, lets_turn, List.length_append, List.length_drop, List.length_take, lets_len]
  omega
theorem goodT_turn {t : ByteArray} (h : goodT t = true) (n : Nat) : goodT (turnT t n) = true := by
  unfold goodT at h ⊢
  rw [turnT_size, lets_turn, List.all_append, Bool.and_comm ((List.drop n (lets t)).all kcB), ← List.all_append, List.take_append_drop]
  exact h
/-- the least of a touch and its first turns -/
def leastTo (t : ByteArray) : Nat → ByteArray
  | 0 => t
  | k + 1 => minB (leastTo t k) (turnT t k)
def leastT (t : ByteArray) : ByteArray := leastTo t t.size
/-- a touch read backwards but for its last call -/
def revF (n : Nat) (h : Nat → Nat) (k : Nat) : Nat := if k + 1 < n then h (n - 2 - k) else h k
def revT (t : ByteArray) : ByteArray := strOf t.size (revF t.size (dg t))
theorem revT_size (t : ByteArray) : (revT t).size = t.size := strOf_size _ _
theorem dg_strF (n : Nat) (f : Nat → Nat) (hf : ∀ i, i < n → f i < 256) (k : Nat) (h : k < n) : dg (strOf n f) k = f k := by
  have hk : k < (strOf n f).size := by rw [strOf_size]; exact h
  rw [← dg_at _ k hk]
  exact strOf_get n f hf k hk
theorem revF_lt (t : ByteArray) (k : Nat) : revF t.size (dg t) k < 256 := by
  unfold revF
  split
  · exact dg_lt t _
  · exact dg_lt t _
theorem dg_rev (t : ByteArray) (k : Nat) (h : k < t.size) : dg (revT t) k = revF t.size (dg t) k := dg_strF _ _ (fun i _ => revF_lt t i) k h
theorem goodT_rev {t : ByteArray} (h : goodT t = true) : goodT (revT t) = true := by
  obtain ⟨h1, h2, h3⟩ := goodT_parts h
  refine goodT_mk (by rw [revT_size]; exact h1) (by rw [revT_size]; exact h2) fun k hk => ?_
  rw [revT_size] at hk
  rw [dg_rev t k hk]
  unfold revF
  split
  · exact h3 _ (by omega)
  · exact h3 _ hk
theorem rev_rev (t : ByteArray) : revT (revT t) = t := by
  apply bytes_ext
  · rw [revT_size, revT_size]
  · intro k h1 h2
    have h3 : k < t.size := h2
    have h4 : dg (revT (revT t)) k = dg t k := by
      rw [dg_rev (revT t) k (by rw [revT_size]; exact h3), revT_size]
      unfold revF
      split
      · rw [dg_rev t _ (by omega)]
        unfold revF
        rw [if_pos (by omega)]
        congr 1
        omega
      · rw [dg_rev t _ h3]
        unfold revF
        rw [if_neg (by assumption)]
    rw [← dg_at _ k h1, ← dg_at _ k h2] at h4
    exact UInt8.toNat_inj.1 h4
/-- the letters behind each other, up to the last -/
theorem rev_end (t : ByteArray) (n : Nat) (h : t.size = n + 1) : strOf n (revF t.size (dg t)) ++ t.extract n t.size = revT t := by
  have hx : t.extract n t.size = ⟨#[UInt8.ofNat (revF t.size (dg t) n)]⟩ := by
    have e : revF t.size (dg t) n = dg t n := by unfold revF; rw [if_neg (by omega)]
    rw [e, h]
    exact sub_one t n (by omega)
  have := strOf_snoc n (revF t.size (dg t)) _ hx
  rw [this]
  unfold revT
  rw [h]
theorem rev_step (t : ByteArray) (j k : Nat) (h : j + k + 2 = t.size) : strOf j (revF t.size (dg t)) ++ t.extract k (k + 1) = strOf (j + 1) (revF t.size (dg t)) := by
  refine strOf_snoc j _ _ ?_
  have e : revF t.size (dg t) j = dg t k := by
    unfold revF
    rw [if_pos (by omega)]
    congr 1
    omega
  rw [e]
  exact sub_one t k (by omega)
end Go.Proofs.Ytkhglknpcajmiaa
