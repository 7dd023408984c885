/- A call that starts no goroutine: its row may say 'leaving' too. -/
import Derived.Conc.Holds
import Derived.Handed
namespace Go.Proofs.Ytnoepobbecobbaa
open Go

theorem leaves_of_quiet {P : Program} {m : Machine} (h : m.quiet) : m.OnlyLeaving P := by
  refine ⟨fun g hg => ⟨0, ?_⟩, h.2⟩
  have h1 := List.all_eq_true.1 h.1 g hg
  show g.status = .finished
  simpa using h1
theorem leaving_of_handed {a : Assume} {C : Checked} {os : Os} {f : FuncId} {r : Reach} {Pre : World → Array Value → Prop} {Post : World → Array Value → Value → World → Prop}
    (h : ReturnsInHanded a C os f r Pre Post) : ReturnsInLeavingWide a C os f r Pre Post :=
  fun enter => ReturnsInOpen.mono (fun _ _ _ x => ⟨x.2.1, leaves_of_quiet x.1, x.2.2⟩) (fun _ x => x) (h enter)
end Go.Proofs.Ytnoepobbecobbaa
