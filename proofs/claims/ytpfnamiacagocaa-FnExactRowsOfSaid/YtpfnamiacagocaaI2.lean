/- Lists of numbers as arguments of a law. -/
import Derived.Test.YtpfnamiacagocaaI1
import Derived.ChangeSlices
namespace Go.Proofs.Ytpfnamiacagocaa
open Go.RowKit
theorem heap_ltI {w : World} {a : Addr} {v : Value} (h : w.cell? a = some v) : a.block < w.heap.size := by
  rcases Nat.lt_or_ge a.block w.heap.size with h1 | h1
  · exact h1
  · simp [World.cell?, Array.getElem?_eq_none h1] at h
theorem argI_of_trod {H : Type} {enc : TypeId × Value → H} {W : World} {base : Nat} {sp : Nat → Bool} {held : Bool} {fuel : Nat} {a : Option Addr} {len cap : Nat} {x : DataW H × List MemPlace}
    (h : DataW.trod enc Try.prog W base sp held fuel 39 (Value.slice a len cap).cells.toList = some x) :
    ∃ xs, ArgI W (.slice a len cap) xs ∧ xs.length ≤ maxLen := by
  rcases Go.ChangeShapes.open_ints Try.underlying39 Try.underlying3 (by kernel_rfl) h with ⟨hcs, _⟩ | ⟨x, l, c, zs, hcs, _, hl, hm, hz, _, hcell, hwz⟩
  · simp [Value.cells] at hcs
    obtain ⟨rfl, rfl, rfl⟩ := hcs
    exact ⟨[], ⟨none, 0, rfl, fun h => by simp at h⟩, by simp [maxLen]⟩
  · simp [Value.cells] at hcs
    obtain ⟨rfl, rfl, rfl⟩ := hcs
    have hle : len ≤ zs.length := by rw [hz]; split <;> omega
    have hlen : (zs.take len).length = len := by rw [List.length_take]; omega
    refine ⟨zs.take len, ⟨_, cap, by rw [hlen], fun h0 => ⟨x, rfl, ?_, fun j hj => ?_⟩⟩, by rw [hlen]; omega⟩
    · rw [hlen] at h0
      exact heap_ltI (hcell 0 (by omega))
    · rw [hlen] at hj
      rw [hcell j (by omega)]
      simp [gx, List.getD_eq_getElem?_getD, hj]
end Go.Proofs.Ytpfnamiacagocaa
