/- Methods: what both sides give alike: GoodMethod, LeadHead, LeadsIn. -/
import Derived.Test.YtpfnamiacagocaaD1
import Derived.Test.YtpfnamiacagocaaN3
namespace Go.Proofs.Ytpfnamiacagocaa
open Go.RowKit
set_option linter.unusedSimpArgs false
set_option linter.unusedVariables false

theorem small_letss {ss : List ByteArray} (h : ∀ t ∈ ss, t.size ≤ maxLen) : Small (letss ss) := fun l hl => by
  simp only [letss, List.mem_map] at hl
  obtain ⟨x, hx, rfl⟩ := hl
  have := h x hx
  simpa [lets] using this
theorem good_cast {s : ByteArray} {n : Int} {L : List (List Nat)} (h : goodM s n L = true) : ∃ k : Nat, n = k := by
  have := goodAll_range (goodM_parts h).1
  exact ⟨n.toNat, by omega⟩
theorem good_ord {s : ByteArray} {n : Nat} {L : List (List Nat)} (h : goodM s n L = true) : ∃ k, IsOrd n (headF n (chR n L)) k := by
  have h9 := goodM_nat h
  exact ord_exists (isRow_head h9.1 h9.2.1 h9.2.2.1)
end Go.Proofs.Ytpfnamiacagocaa
