/- Lists of texts read, copied, mirrored. -/
import Derived.Test.YtnildepdpkbekaaK4
import Derived.Test.YtnildepdpkbekaaS1
namespace Go.Proofs.Ytnildepdpkbekaa
open Go.RowKit
set_option linter.unusedSimpArgs false

theorem add_at (g off j : Nat) : (⟨g, off, none⟩ : Addr).add j = ⟨g, off + j, none⟩ := by
  unfold Addr.add
  split <;> simp_all
/-- v reads as these texts; they lie anywhere in a block -/
def Txts (W : World) (v : Value) (xs : List (List Nat)) : Prop :=
  ∃ a cap, v = .slice a xs.length cap ∧ xs.length ≤ cap ∧ (0 < xs.length → ∃ g off, a = some ⟨g, off, none⟩ ∧ g < W.heap.size ∧ ∀ j, j < xs.length → W.cell? ⟨g, off + j, none⟩ = some (.string (txt (xs.getD j []))))
theorem Txts.kept {W W' : World} {v : Value} {xs : List (List Nat)} (h : Txts W v xs) (hb : Below W.heap.size W W') : Txts W' v xs := by
  obtain ⟨a, cap, rfl, hcap, ha⟩ := h
  refine ⟨a, cap, rfl, hcap, fun h0 => ?_⟩
  obtain ⟨g, off, rfl, hlt, hc⟩ := ha h0
  exact ⟨g, off, rfl, Nat.lt_of_lt_of_le hlt hb.size, fun j hj => (hb.cell (p := ⟨g, off + j, none⟩) hlt).trans (hc j hj)⟩
theorem Own.txts {W : World} {v : Value} {xs : List (List Nat)} (h : Own W 9 v (strs xs)) : Txts W v xs := by
  rcases h.shape with ⟨rfl, h0⟩ | ⟨g, cap, rfl, hcap⟩
  · have : xs = [] := by simpa [strs] using h0
    subst this
    exact ⟨none, 0, rfl, Nat.le_refl _, fun h => by simp at h⟩
  · rw [strs_len] at hcap
    refine ⟨_, cap, by rw [strs_len], hcap, fun _ => ⟨g, 0, rfl, h.lt g rfl, fun j hj => ?_⟩⟩
    rw [Nat.zero_add]
    rw [strs_len] at h
    exact h.cell j _ (strs_at xs j hj)
theorem New.of_row {B : Nat} {W : World} {v : Value} {n : Nat} {xs : List Value} (h : W.ownsRow B 9 1 v n xs) (hn : xs.length = n) : New B W 9 v xs := by
  subst hn
  obtain ⟨q1, q2⟩ := h
  refine ⟨⟨q1, ?_⟩, fun g hg => ?_⟩
  · rcases q2 with q2 | ⟨g, cap2, cur, q3, q4, q5⟩
    · exact .inl q2
    · exact .inr ⟨g, cap2, cur, q3, Nat.zero_le _, q5⟩
  · rcases q2 with ⟨rfl, _⟩ | ⟨g', cap2, cur, rfl, q4, q5⟩
    · cases hg
    · have e : g' = g := by simpa [Value.ownBlock] using hg
      rw [← e]; exact q4

/-- a slice of its own with the same texts -/
def Copied (xs : List (List Nat)) (w : World) (e : Ending) (w' : World) : Prop := ∃ v', e = .returned v' ∧ New w.heap.size w' 9 v' (strs xs) ∧ Below w.heap.size w w'
/-- the list, and behind it all its elements but the last in reverse order -/
def pal {α : Type} (xs : List α) : List α := xs ++ xs.dropLast.reverse
/-- that, down to element i -/
def palTo {α : Type} (xs : List α) (i : Nat) : List α := xs ++ (xs.dropLast.drop i).reverse
theorem palTo_start {α : Type} (xs : List α) : palTo xs (xs.length - 1) = xs := by
  unfold palTo
  rw [List.drop_eq_nil_of_le (by simp)]
  simp
theorem palTo_zero {α : Type} (xs : List α) : palTo xs 0 = pal xs := rfl
theorem palTo_step {α : Type} (xs : List α) (i : Nat) (hi : i + 1 < xs.length) : palTo xs i = palTo xs (i + 1) ++ [xs[i]'(by omega)] := by
  unfold palTo
  rw [List.drop_eq_getElem_cons (by simp; omega), List.reverse_cons, List.append_assoc]
  simp
theorem palTo_len {α : Type} (xs : List α) (i : Nat) : (palTo xs i).length ≤ 2 * xs.length := by
  unfold palTo
  simp
  omega
theorem pal_len {α : Type} (xs : List α) : (pal xs).length = 2 * xs.length - 1 := by
  unfold pal
  simp
  omega

end Go.Proofs.Ytnildepdpkbekaa
