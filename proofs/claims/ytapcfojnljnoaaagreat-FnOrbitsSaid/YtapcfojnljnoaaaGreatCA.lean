/- Lists of texts that came in: measured, copied. A copy of a list of texts that came in. -/
import Derived.Test.YtapcfojnljnoaaaGreatK4
import Derived.Test.YtapcfojnljnoaaaGreatS1
import Derived.OwnWalk
namespace Go.Proofs.YtapcfojnljnoaaaGreat
open Go.RowKit
set_option linter.unusedSimpArgs false

theorem add_block (ad : Addr) (j : Nat) : (ad.add j).block = ad.block := by
  unfold Addr.add
  split <;> rfl
/-- v reads as these texts, wherever they lie -/
def Arg (W : World) (v : Value) (ss : List ByteArray) : Prop :=
  ∃ a cap, v = .slice a ss.length cap ∧ (0 < ss.length → ∃ ad : Addr, a = some ad ∧ ad.block < W.heap.size ∧ ∀ j, j < ss.length → W.cell? (ad.add j) = some (.string (ss.getD j ByteArray.empty)))
theorem Arg.kept {W W' : World} {v : Value} {ss : List ByteArray} (h : Arg W v ss) (hb : Below W.heap.size W W') : Arg W' v ss := by
  obtain ⟨a, cap, rfl, ha⟩ := h
  refine ⟨a, cap, rfl, fun h0 => ?_⟩
  obtain ⟨ad, rfl, hlt, hc⟩ := ha h0
  refine ⟨ad, rfl, Nat.lt_of_lt_of_le hlt hb.size, fun j hj => ?_⟩
  rw [hb.cell (by rw [add_block]; exact hlt)]
  exact hc j hj

/-- what is left of a measure behind these texts -/
def szRest : List ByteArray → Int → Int
  | [], left => left
  | s :: t, left => if left - s.size < 0 then -1 else szRest t (left - s.size)
def szAll (ss : List ByteArray) (left : Int) : Int := if left - ss.length < 0 then -1 else szRest ss (left - ss.length)
theorem szRest_le : ∀ (ss : List ByteArray) (left : Int), 0 ≤ szRest ss left → ∀ s ∈ ss, (s.size : Int) ≤ left
  | [], _, _, s, hs => by simp at hs
  | s :: t, left, h, x, hx => by
    unfold szRest at h
    split at h
    · omega
    · rcases List.mem_cons.1 hx with rfl | q
      · omega
      · have := szRest_le t _ h x q
        omega
theorem szAll_len {ss : List ByteArray} {left : Int} (h : 0 ≤ szAll ss left) : (ss.length : Int) ≤ left := by
  unfold szAll at h
  split at h <;> omega
theorem szAll_le {ss : List ByteArray} {left : Int} (h : 0 ≤ szAll ss left) : ∀ s ∈ ss, (s.size : Int) ≤ left := by
  unfold szAll at h
  split at h
  · omega
  · intro s hs
    have := szRest_le _ _ h s hs
    omega

end Go.Proofs.YtapcfojnljnoaaaGreat
namespace Go.Proofs.YtapcfojnljnoaaaGreat
open Go.RowKit
set_option linter.unusedSimpArgs false

/-- the texts as letters -/
def letss (ss : List ByteArray) : List (List Nat) := ss.map lets
theorem letss_len (ss : List ByteArray) : (letss ss).length = ss.length := by simp [letss]
theorem strs_letss (ss : List ByteArray) : strs (letss ss) = ss.map Value.string := by
  simp only [strs, letss, List.map_map]
  exact List.map_congr_left fun s _ => by simp [txt_lets]
/-- the first j texts, empty texts behind them -/
def someOf (ss : List ByteArray) (j : Nat) : List Value := (ss.take j).map Value.string ++ List.replicate (ss.length - j) (.string ⟨#[]⟩)
theorem someOf_len (ss : List ByteArray) (j : Nat) (hj : j ≤ ss.length) : (someOf ss j).length = ss.length := by simp [someOf]; omega
theorem someOf_zero (ss : List ByteArray) : someOf ss 0 = List.replicate ss.length (.string ⟨#[]⟩) := by simp [someOf]
theorem someOf_all (ss : List ByteArray) : someOf ss ss.length = ss.map Value.string := by simp [someOf]
theorem someOf_set (ss : List ByteArray) (j : Nat) (hj : j < ss.length) : (someOf ss j).set j (.string ss[j]) = someOf ss (j + 1) := by
  unfold someOf
  rw [List.set_append_right _ _ (by simp; omega)]
  rw [List.take_succ_eq_append_getElem hj, List.map_append, List.append_assoc]
  congr 1
  have e : ss.length - j = (ss.length - (j + 1)) + 1 := by omega
  rw [e, List.replicate_succ]
  have e2 : j - ((ss.take j).map Value.string).length = 0 := by simp; omega
  rw [e2]
  simp

end Go.Proofs.YtapcfojnljnoaaaGreat
