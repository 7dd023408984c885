/- The law on products. -/
import Derived.Test.YtnildepdpkbekaaA25
namespace Go.Proofs.Ytnildepdpkbekaa
open Go.RowKit
set_option linter.unusedSimpArgs false

theorem IsBytes.below {w w' : World} {a : Option Addr} {len cap : Nat} {zs : List Int} (h : IsBytes w a len cap zs) (hb : Below w.heap.size w w') : IsBytes w' a len cap zs := by
  rcases h with h | ⟨x, h1, h2, h3, h4, h5, h6⟩
  · exact .inl h
  · refine .inr ⟨x, h1, h2, h3, h4, fun i hi => ?_, h6⟩
    have := h5 i hi
    rw [hb.cell (block_lt_of_cell this)]; exact this
theorem IsBytes.len {w : World} {a : Option Addr} {len cap : Nat} {zs : List Int} (h : IsBytes w a len cap zs) : len ≤ maxLen := by
  rcases h with ⟨_, h, _⟩ | ⟨x, h1, h2, h3, h4, h5, h6⟩
  · omega
  · omega
theorem mx10 {s : ByteArray} (h : s.size ≤ 10) : s.size ≤ maxLen := by unfold maxLen; omega

/-! ### what the functions give, as functions -/
noncomputable def tmS (s t : ByteArray) : ByteArray := if twoB s t = true then strOf s.size (mulF (dg s) (dg t)) else ⟨#[]⟩
noncomputable def tnS (s : ByteArray) : ByteArray := if goodB s = true then strOf s.size (invF s.size (dg s)) else ⟨#[]⟩
open Classical in
noncomputable def rnB (n : Int) : Bool := decide (3 ≤ n ∧ n ≤ 8)
noncomputable def rnS (n : Int) : ByteArray := if rnB n = true then rnds n.toNat else ⟨#[]⟩
/-! ### the same at rows -/
theorem twoB_row {n : Nat} {f g : Nat → Nat} (hf : IsRow n f) (hg : IsRow n g) : twoB (strOf n f) (strOf n g) = true := by
  simp [twoB, goodB_strOf hf, goodB_strOf hg, strOf_size]
theorem two_rows {s t : ByteArray} (h : twoB s t = true) : ∃ n f g, IsRow n f ∧ IsRow n g ∧ s = strOf n f ∧ t = strOf n g ∧ tmS s t = strOf n (mulR n f g) := by
  obtain ⟨h1, h2, h3⟩ := twoB_yes h
  refine ⟨s.size, dg s, dg t, h1, by rw [h3]; exact h2, strOf_of_isStr (isStr_dg s), by rw [h3]; exact strOf_of_isStr (isStr_dg t), ?_⟩
  simp only [tmS, h, if_true]
  exact strOf_mul _ _

end Go.Proofs.Ytnildepdpkbekaa
