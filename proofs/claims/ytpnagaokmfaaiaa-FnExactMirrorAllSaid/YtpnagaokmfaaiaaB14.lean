/- MirrorChange in the model, and the law on it. -/
import Derived.Test.YtpnagaokmfaaiaaB13
namespace Go.Proofs.Ytpnagaokmfaaiaa
open Go.RowKit

/-- the first k places mirrored -/
def mirK (n : Nat) (ps : List Nat) (k : Nat) : List Nat := ((ps.take k).map (n + 1 - ·)).reverse
theorem mirK_succ (n : Nat) (ps : List Nat) (k : Nat) (hk : k < ps.length) : mirK n ps (k + 1) = (n + 1 - ps[k]) :: mirK n ps k := by
  unfold mirK
  rw [List.take_succ_eq_append_getElem hk, List.map_append, List.reverse_append]
  rfl
theorem mirK_len (n : Nat) (ps : List Nat) (k : Nat) : (mirK n ps k).length ≤ ps.length := by
  unfold mirK
  simp; omega
theorem mirK_lt (n : Nat) (ps : List Nat) (hp : ps.Pairwise (· < ·)) (hn : ∀ p ∈ ps, 1 ≤ p ∧ p ≤ n) (k : Nat) (hk : k < ps.length) : ∀ y ∈ mirK n ps k, n + 1 - ps[k] < y := by
  intro y hy
  simp only [mirK, List.mem_reverse, List.mem_map] at hy
  obtain ⟨q, hq, rfl⟩ := hy
  obtain ⟨i, hi, rfl⟩ := List.getElem_of_mem hq
  have hi' : i < k := by simp at hi; omega
  rw [List.getElem_take]
  have := (List.pairwise_iff_getElem.1 hp) i k (by omega) hk hi'
  have := hn _ (List.getElem_mem hk)
  omega

end Go.Proofs.Ytpnagaokmfaaiaa
