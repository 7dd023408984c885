/- Lists of texts as arguments of a law. -/
import Derived.Test.YtkhglknpcajmiaaCA
import Derived.SliceStrings
namespace Go.Proofs.Ytkhglknpcajmiaa
open Go.RowKit
theorem heap_lt {w : World} {a : Addr} {v : Value} (h : w.cell? a = some v) : a.block < w.heap.size := by
  rcases Nat.lt_or_ge a.block w.heap.size with h1 | h1
  · exact h1
  · simp [World.cell?, Array.getElem?_eq_none h1] at h
theorem arg_of_trod {H : Type} {enc : TypeId × Value → H} {W : World} {base : Nat} {sp : Nat → Bool} {held : Bool} {fuel : Nat} {a : Option Addr} {len cap : Nat} {x : DataW H × List MemPlace}
    (h : DataW.trod enc Try.prog W base sp held fuel 23 (Value.slice a len cap).cells.toList = some x) :
    ∃ ss, Arg W (.slice a len cap) ss ∧ (ss.length ≤ maxLen ∧ ∀ s ∈ ss, s.size ≤ maxLen) := by
  rcases Go.ChangeShapes.open_strings Try.underlying23 Try.underlying9 (by kernel_rfl) h with ⟨hcs, _⟩ | ⟨x, l, c, ss, hcs, _, hl, hm, hz, _, hcell, hsz⟩
  · simp [Value.cells] at hcs
    obtain ⟨rfl, rfl, rfl⟩ := hcs
    exact ⟨[], ⟨none, 0, rfl, fun h => by simp at h⟩, by simp [maxLen], fun s hs => by simp at hs⟩
  · simp [Value.cells] at hcs
    obtain ⟨rfl, rfl, rfl⟩ := hcs
    have hlen : (ss.take len).length = len := by
      rw [List.length_take, hz]
      split <;> omega
    have hle : len ≤ ss.length := by rw [hz]; split <;> omega
    refine ⟨ss.take len, ⟨_, cap, by rw [hlen], fun h0 => ⟨x, rfl, ?_, fun j hj => ?_⟩⟩, by rw [hlen]; omega, fun s hs => hsz s (List.mem_of_mem_take hs)⟩
    · rw [hlen] at h0
      have h1 := hcell 0 (by omega)
      exact heap_lt h1
    · rw [hlen] at hj
      rw [hcell j (by omega)]
      simp [List.getD_eq_getElem?_getD, hj]
end Go.Proofs.Ytkhglknpcajmiaa
