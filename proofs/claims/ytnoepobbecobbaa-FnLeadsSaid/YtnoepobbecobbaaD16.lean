/- slices.Concat of two lists of texts. -/
import Derived.Test.YtnoepobbecobbaaD15
namespace Go.Proofs.Ytnoepobbecobbaa
open Go.RowKit
set_option linter.unusedSimpArgs false
set_option linter.unusedVariables false

theorem cell_lt {w : World} {a : Addr} {v : Value} (h : w.cell? a = some v) : a.block < w.heap.size := by
  rcases Nat.lt_or_ge a.block w.heap.size with h1 | h1
  · exact h1
  · simp [World.cell?, Array.getElem?_eq_none h1] at h
def catL (xs : Nat → List (List Nat)) (i : Nat) : List (List Nat) := ((List.range i).map xs).flatten
theorem catL_succ (xs : Nat → List (List Nat)) (i : Nat) : catL xs (i + 1) = catL xs i ++ xs i := by
  unfold catL
  rw [List.range_succ]
  simp
theorem catL_le (xs : Nat → List (List Nat)) {i j : Nat} (h : i ≤ j) : (catL xs i).length ≤ (catL xs j).length := by
  induction j with
  | zero => obtain rfl : i = 0 := by omega
            exact Nat.le_refl _
  | succ j ih =>
    rcases Nat.lt_or_ge i (j + 1) with h1 | h1
    · have := ih (by omega)
      rw [catL_succ, List.length_append]
      omega
    · obtain rfl : i = j + 1 := by omega
      exact Nat.le_refl _
theorem news_of {W : World} {ad : Addr} {c : Nat} {X : List (List Nat)} (h : Txts W (.slice (some ad) X.length c) X) : ∀ j u, (strs X)[j]? = some u → W.cell? (ad.add j) = some u := by
  intro j u hj
  have hjl : j < X.length := by
    have := (List.getElem?_eq_some_iff.1 hj).1
    simpa [strs] using this
  obtain ⟨a', cap', hv, hcap, hc⟩ := h
  injection hv with e1 e2 e3
  obtain ⟨g, off, e, hg, hcc⟩ := hc (by omega)
  rw [e] at e1
  injection e1 with e1
  subst e1
  rw [add_at, hcc j hjl]
  simp [strs, hjl] at hj
  rw [← hj]
  simp [List.getD_eq_getElem?_getD, hjl]

end Go.Proofs.Ytnoepobbecobbaa
