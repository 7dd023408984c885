/- impl.Times, and the law on it. -/
import Derived.Test.YtnildepdpkbekaaA10
import Derived.Deep.WholeRow
namespace Go.Proofs.Ytnildepdpkbekaa
open Go.RowKit

theorem isDig_of {n : Nat} {f : Nat → Nat} (h : IsRow n f) : IsDig n f :=
  ⟨h.eight, fun i hi => by have := h.ok i hi; have := h.eight; omega, fun i hi _ => h.zero i hi⟩
theorem isDig_mul {n : Nat} {f g : Nat → Nat} (hf : IsRow n f) (hg : IsRow n g) : IsDig n (cutF n (mulF f g)) := by
  refine ⟨hf.eight, fun i hi => ?_, fun i hi _ => by simp [cutF]; omega⟩
  have h1 := hg.ok i hi
  have h2 := hf.ok (g i - 49) (by omega)
  have := hf.eight
  simp only [cutF, hi, if_true, mulF]
  omega

end Go.Proofs.Ytnildepdpkbekaa
