/- The reader of place notation: a change. -/
import Derived.Test.YtpnagaokmfaaiaaDoorU1
namespace Go.Proofs.YtpnagaokmfaaiaaDoor
open Go.RowKit
set_option linter.unusedSimpArgs false

def lx : List Nat := [45, 120]
def ld : List Nat := [48, 49, 50, 51, 52, 53, 54, 55, 56, 57]
theorem lx_has (c : Nat) : lx.contains c = isX c := by
  unfold lx isX
  by_cases h1 : c = 45
  · simp [h1]
  · by_cases h2 : c = 120
    · simp [h2]
    · simp [h1, h2]
theorem ld_has (c : Nat) : ld.contains c = isD c := by
  unfold ld isD
  rw [Bool.eq_iff_iff]
  simp only [List.contains_cons, List.contains_nil, Bool.or_false, Bool.or_eq_true, beq_iff_eq, Bool.and_eq_true, decide_eq_true_eq]
  omega
theorem drop_lets (s : ByteArray) (p : Nat) (hp : p < s.size) : (lets s).drop p = dg s p :: (lets s).drop (p + 1) := lets_drop s p hp
theorem drop_end (s : ByteArray) (p : Nat) (hp : s.size ≤ p) : (lets s).drop p = [] := List.drop_eq_nil_of_le (by rw [lets_len]; exact hp)
theorem seesX_yes {s : ByteArray} {p : Nat} (h : seesB s p lx = true) : p < s.size ∧ spanW ((lets s).drop p) = 1 := by
  unfold seesB at h
  rw [lx_has, Bool.and_eq_true, decide_eq_true_eq] at h
  refine ⟨h.1, ?_⟩
  rw [drop_lets s p h.1]
  show (if isX (dg s p) = true then 1 else spanD _) = 1
  rw [h.2]
  rfl
theorem seesX_no {s : ByteArray} {p : Nat} (h : seesB s p lx = false) : spanW ((lets s).drop p) = spanD ((lets s).drop p) := by
  unfold seesB at h
  rw [lx_has] at h
  by_cases hp : p < s.size
  · rw [decide_eq_true hp, Bool.true_and] at h
    rw [drop_lets s p hp]
    show (if isX (dg s p) = true then 1 else spanD (dg s p :: _)) = _
    rw [h]
    rfl
  · rw [drop_end s p (by omega)]
    rfl
theorem seesD_yes {s : ByteArray} {p : Nat} (h : seesB s p ld = true) : p < s.size ∧ spanD ((lets s).drop p) = spanD ((lets s).drop (p + 1)) + 1 := by
  unfold seesB at h
  rw [ld_has, Bool.and_eq_true, decide_eq_true_eq] at h
  refine ⟨h.1, ?_⟩
  rw [drop_lets s p h.1, spanD, h.2]
  rfl
theorem seesD_no {s : ByteArray} {p : Nat} (h : seesB s p ld = false) : spanD ((lets s).drop p) = 0 := by
  unfold seesB at h
  rw [ld_has] at h
  by_cases hp : p < s.size
  · rw [decide_eq_true hp, Bool.true_and] at h
    rw [drop_lets s p hp, spanD, h]
    rfl
  · rw [drop_end s p (by omega)]
    rfl
theorem lets_part (s : ByteArray) (p q : Nat) : lets (s.extract p q) = ((lets s).drop p).take (q - p) := by
  rw [← data_lets, ← data_lets]
  simp only [ByteArray.data_extract, Array.toList_extract]
  simp [List.extract_eq_take_drop, List.map_drop, List.map_take]

/-- the change that begins at p is read, or a panic tells p -/
def ChRes (b : Nat) (n : Nat) (s : ByteArray) (p : Nat) (w : World) (e : Ending) (w' : World) : Prop :=
  Only b w w' ∧ if wordP n (lets s) p = [] then e = .panicked [{ v := .iface 82 (.int .i64 p), recovered := false }]
  else e = .returned (.string (txt (wordP n (lets s) p))) ∧ Rd w' b n s (p + spanW ((lets s).drop p))
theorem ChRes.no {b n : Nat} {s : ByteArray} {p : Nat} {w w' : World} {e : Ending} (h : wordP n (lets s) p = []) (ho : Only b w w') (he : e = .panicked [{ v := .iface 82 (.int .i64 p), recovered := false }]) : ChRes b n s p w e w' := ⟨ho, by rw [if_pos h]; exact he⟩
theorem ChRes.yes {b n : Nat} {s : ByteArray} {p q : Nat} {r : List Nat} {w w' : World} {e : Ending} (h : wordP n (lets s) p = r) (h0 : r ≠ []) (hq : p + spanW ((lets s).drop p) = q) (ho : Only b w w') (he : e = .returned (.string (txt r))) (hr : Rd w' b n s q) : ChRes b n s p w e w' :=
  ⟨ho, by rw [if_neg (by rw [h]; exact h0), h, hq]; exact ⟨he, hr⟩⟩
end Go.Proofs.YtpnagaokmfaaiaaDoor
