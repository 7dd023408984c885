/- CloseRows. -/
import Derived.Test.YtnoepobbecobbaaST
import Derived.Test.YtnoepobbecobbaaSI
namespace Go.Proofs.Ytnoepobbecobbaa
open Go.RowKit
set_option linter.unusedSimpArgs false
set_option linter.unusedVariables false

noncomputable def clR (L : List (List Nat)) : Option (List (Nat → Nat)) := bfsR (firstN L) (rF L)
noncomputable def clB (L : List (List Nat)) : Bool := (listB L && decide (0 < L.length)) && (clR L).isSome
noncomputable def clL (L : List (List Nat)) : List (List Nat) := if clB L = true then closeT (firstN L) (clR L) else []
theorem first_row {L : List (List Nat)} (hb : listB L = true) (h0 : 0 < L.length) : 3 ≤ firstN L ∧ firstN L ≤ 8 ∧ 0 < (rF L).length := by
  have hr := rowsB_rows hb
  have h1 : 0 < (rF L).length := by rw [rF_len]; exact h0
  have := hr _ (List.getElem_mem h1)
  exact ⟨this.three, this.eight, h1⟩
theorem txts_first {W : World} {a : Option Addr} {m cap : Nat} {L : List (List Nat)} (h : Txts W (.slice a m cap) L) (h0 : 0 < L.length) : ∃ g off s, a = some ⟨g, off, none⟩ ∧ g < W.heap.size ∧ W.cell? ⟨g, off, none⟩ = some (.string s) ∧ s.size = firstN L := by
  obtain ⟨a', cap', e, _, ha⟩ := h
  injection e with e1 e2 e3
  subst e1
  obtain ⟨g, off, e, hg, hc⟩ := ha h0
  have := hc 0 h0
  rw [Nat.add_zero] at this
  exact ⟨g, off, _, e, hg, this, txt_size _⟩
theorem sortF_rows_len {n : Nat} {gens G : List (Nat → Nat)} (hg : Rows n gens) (h3 : 3 ≤ n) (h8 : n ≤ 8) (e : bfsR n gens = some G) : Rows n (sortF n G) ∧ (sortF n G).length ≤ 800 := by
  have := bfsR_spec hg
  rw [e] at this
  exact ⟨rows_sort (this.rows h3 h8 hg), by rw [sortF_len]; exact this.len⟩

theorem clL_len (L : List (List Nat)) : (clL L).length ≤ 1000 := by
  unfold clL
  split
  · rename_i h
    have hb : listB L = true := by unfold clB at h; simp only [Bool.and_eq_true] at h; exact h.1.1
    have h0 : 0 < L.length := by unfold clB at h; simp only [Bool.and_eq_true, decide_eq_true_eq] at h; exact h.1.2
    obtain ⟨h3, h8, hf0⟩ := first_row hb h0
    cases hq : clR L with
    | none => simp [closeT]
    | some G =>
      have := (sortF_rows_len (rowsB_rows hb) h3 h8 hq).2
      rw [closeT_some, rowsL_len]
      omega
  · simp
end Go.Proofs.Ytnoepobbecobbaa
