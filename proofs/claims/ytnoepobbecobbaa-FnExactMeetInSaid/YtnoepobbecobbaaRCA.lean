/- Sets of rows and rows of one's own, apart. -/
import Derived.Test.YtnoepobbecobbaaSP
namespace Go.Proofs.Ytnoepobbecobbaa
open Go.RowKit
set_option linter.unusedSimpArgs false
set_option linter.unusedVariables false

theorem SetAt.only {W W' : World} {n b c : Nat} {S : List (Nat → Nat)} (h : SetAt W n b S) (ho : Only c W W') (hne : b ≠ c) : SetAt W' n b S := h.block (ho.block b h.lt hne)
theorem NewD.apartSet {W : World} {n b B : Nat} {S fs : List (Nat → Nat)} {v : Value} (h : NewD B W v fs) (hs : SetAt W n b S) : v.ownBlock ≠ some b := by
  obtain ⟨h1, h2⟩ := h
  rcases h2 with ⟨rfl, h0⟩ | ⟨g, cap, cur, rfl, hBg, hb, _⟩
  · simp [Value.ownBlock]
  · obtain ⟨_, _, es, ⟨xs, clock, e1, _⟩, _⟩ := hs
    intro e
    have e : g = b := by simpa [Value.ownBlock] using e
    subst e
    rw [hb] at e1
    cases e1
theorem NewD.at8 {W : World} {B g m cap : Nat} {fs : List (Nat → Nat)} (h : NewD B W (.slice (some ⟨g, 0, none⟩) m cap) fs) (i : Nat) (hi : i < fs.length) : W.rangeAt g (i * 8) (cells8 fs[i]) := by
  obtain ⟨a', cap', e1, _, hcc⟩ := h.digs
  obtain ⟨g', off', e2, _, hc⟩ := hcc (by omega)
  injection e1 with e1
  rw [← e1] at e2
  injection e2 with e2
  injection e2 with e2 e3
  subst e2 e3
  have := hc i hi
  rwa [Nat.zero_add] at this
end Go.Proofs.Ytnoepobbecobbaa
