/- Lists of texts that came in: measured, copied. -/
import Derived.Test.YtdflpkkcjbdpfaaDoorK4
import Derived.Test.YtdflpkkcjbdpfaaDoorS1
namespace Go.Proofs.YtdflpkkcjbdpfaaDoor
open Go.RowKit
set_option linter.unusedSimpArgs false

theorem add_block (ad : Addr) (j : Nat) : (ad.add j).block = ad.block := by
  unfold Addr.add
  split <;> rfl
/-- v reads as these texts, wherever they lie -/
def Arg (W : World) (v : Value) (ss : List ByteArray) : Prop :=
  ∃ a cap, v = .slice a ss.length cap ∧ (0 < ss.length → ∃ ad : Addr, a = some ad ∧ ad.block < W.heap.size ∧ ∀ j, j < ss.length → W.cell? (ad.add j) = some (.string (ss.getD j ByteArray.empty)))
theorem Arg.kept {W W' : World} {v : Value} {ss : List ByteArray} (h : Arg W v ss) (hb : Below W.heap.size W W') : Arg W' v ss := by
  obtain ⟨a, cap, rfl, ha⟩ := h
  refine ⟨a, cap, rfl, fun h0 => ?_⟩
  obtain ⟨ad, rfl, hlt, hc⟩ := ha h0
  refine ⟨ad, rfl, Nat.lt_of_lt_of_le hlt hb.size, fun j hj => ?_⟩
  rw [hb.cell (by rw [add_block]; exact hlt)]
  exact hc j hj

/-- what is left of a measure behind these texts -/
def szRest : List ByteArray → Int → Int
  | [], left => left
  | s :: t, left => if left - s.size < 0 then -1 else szRest t (left - s.size)
def szAll (ss : List ByteArray) (left : Int) : Int := if left - ss.length < 0 then -1 else szRest ss (left - ss.length)
theorem szRest_le : ∀ (ss : List ByteArray) (left : Int), 0 ≤ szRest ss left → ∀ s ∈ ss, (s.size : Int) ≤ left
  | [], _, _, s, hs => by simp at hs
  | s :: t, left, h, x, hx => by
    unfold szRest at h
    split at h
    · omega
    · rcases List.mem_cons.1 hx with rfl | q
      · omega
      · have := szRest_le t _ h x q
        omega
theorem szAll_len {ss : List ByteArray} {left : Int} (h : 0 ≤ szAll ss left) : (ss.length : Int) ≤ left := by
  unfold szAll at h
  split at h <;> omega
theorem szAll_le {ss : List ByteArray} {left : Int} (h : 0 ≤ szAll ss left) : ∀ s ∈ ss, (s.size : Int) ≤ left := by
  unfold szAll at h
  split at h
  · omega
  · intro s hs
    have := szRest_le _ _ h s hs
    omega

end Go.Proofs.YtdflpkkcjbdpfaaDoor
