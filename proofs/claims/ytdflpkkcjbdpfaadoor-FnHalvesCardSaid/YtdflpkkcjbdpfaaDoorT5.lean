/- The law FnExactNotationText. -/
import Derived.Test.YtdflpkkcjbdpfaaDoorT4
import Derived.Test.YtdflpkkcjbdpfaaDoorJ2
import Derived.Test.YtdflpkkcjbdpfaaDoorC2
namespace Go.Proofs.YtdflpkkcjbdpfaaDoor
open Go.RowKit
set_option linter.unusedSimpArgs false
theorem letss_size {ss : List ByteArray} (h : ∀ s ∈ ss, s.size ≤ maxLen) : ∀ l ∈ letss ss, l.length ≤ maxLen := by
  intro l hl
  obtain ⟨s, hs, rfl⟩ := List.mem_map.1 hl
  rw [lets_len]
  exact h s hs

end Go.Proofs.YtdflpkkcjbdpfaaDoor
