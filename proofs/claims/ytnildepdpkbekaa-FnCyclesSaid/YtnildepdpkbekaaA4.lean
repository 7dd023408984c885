/- impl.RoundsOf, and the law on it: the walk. -/
import Derived.Test.YtnildepdpkbekaaA3
namespace Go.Proofs.Ytnildepdpkbekaa
open Go.RowKit

theorem strOf_rdf (n : Nat) : strOf n (rdf n) = rnds n := by
  unfold strOf rnds
  congr 2
  apply List.map_congr_left
  intro i hi
  rw [List.mem_range] at hi
  simp [rdf, hi]
theorem isDig_rdf (n : Nat) (h : n ≤ 8) : IsDig n (rdf n) :=
  ⟨h, fun i hi => by simp [rdf, hi]; omega, fun i hi _ => by simp [rdf]; omega⟩

end Go.Proofs.Ytnildepdpkbekaa
