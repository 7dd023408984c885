/- Turned rows in the model; the law on TurnRow. -/
import Derived.Test.YtnildepdpkbekaaA12
namespace Go.Proofs.Ytnildepdpkbekaa
open Go.RowKit

/-- a block of the call's own whose first n cells are these bytes -/
structure BytesAt (W : World) (b n : Nat) (h : Nat → Nat) : Prop where
  lt : b < W.heap.size
  cell : ∀ i, i < n → W.cell? ⟨b, i, none⟩ = some (.int .u8 (h i))
  free : ∀ i, i < n → W.frozen? ⟨b, i, none⟩ = false
theorem BytesAt.kept {W W' : World} {b n : Nat} {h : Nat → Nat} (H : BytesAt W b n h) (hb : Below W.heap.size W W') : BytesAt W' b n h :=
  ⟨Nat.lt_of_lt_of_le H.lt hb.size, fun i hi => (hb.cell (p := ⟨b, i, none⟩) H.lt).trans (H.cell i hi), fun i hi => (hb.frozen (p := ⟨b, i, none⟩) H.lt).trans (H.free i hi)⟩
theorem BytesAt.set {W : World} {b n : Nat} {h : Nat → Nat} (H : BytesAt W b n h) (k v : Nat) (hk : k < n) : BytesAt (W.setCell ⟨b, k, none⟩ (.int .u8 v)) b n (setF h k v) := by
  refine ⟨by simpa using H.lt, fun i hi => ?_, fun i hi => ?_⟩
  · by_cases e : i = k
    · subst e
      rw [World.cell?_setCell_same _ _ _ (H.cell i hi)]; simp [setF]
    · rw [World.cell?_setCell_other _ _ _ _ (by intro q; injection q; omega), H.cell i hi]; simp [setF, e]
  · rw [World.frozen?_setCell]; exact H.free i hi

theorem bytes_made (s : ByteArray) (w : World) : ∃ cap W1, (convert 9 28 (.string s)).run Try.prog w = .ok (.slice (some ⟨w.heap.size, 0, none⟩) s.size cap) W1 ∧ BytesAt W1 w.heap.size s.size (dg s) ∧ Below w.heap.size w W1 := by
  refine ⟨_, _, run_bytes_of_string w _ _ 5 s Try.underlying9 Try.underlying28 Try.underlying5, ⟨by simp, fun i hi => ?_, fun i hi => ?_⟩, (Below.refl _ w).drew.alloc (Nat.le_refl _) _⟩
  · have hi' : i < s.data.size := hi
    rw [show w.heap.size = w.drew.heap.size from rfl, World.cell?_alloc_mark, bytesRow_at s _ i hi']
    simp [dg, hi]; rfl
  · rw [show w.heap.size = w.drew.heap.size from rfl, World.frozen?_alloc_mark]
    have : ¬ (bytesRow s (grownCap w s.size 0 5)).size ≤ i := by
      have hi' : i < s.data.size := hi
      unfold bytesRow
      simp
      omega
    simp [this]

end Go.Proofs.Ytnildepdpkbekaa
