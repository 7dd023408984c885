/- Laws on lists: marks; what both sides give alike: LeadRows, CourseRows. -/
import Derived.Test.YtpfnamiacagocaaD2
import Derived.Test.YtpfnamiacagocaaC5
import Derived.Deep.RegionHeld3
namespace Go.Proofs.Ytpfnamiacagocaa
open Go.RowKit
set_option linter.unusedSimpArgs false
set_option linter.unusedVariables false

theorem markTexts (B : Nat) (v : Value) (P : List (List Nat)) (w : World) (h : New B w 9 v (strs P)) (hB : B ≤ w.heap.size) (hl : P.length ≤ 1000) :
    Calls Try.prog 56 #[v, .int .i64 1] w fun e w' => e = .returned (.int .i64 (1 + (P.length : Nat))) ∧ Own w' 9 v (strs (smarks 1 P.length)) ∧ Below B w w' :=
  (markStringS_full B v P 1 w h hB (by omega) (by omega) (by omega)).mono fun e w' h => ⟨h.1, h.2.1.own, h.2.2.1⟩
theorem heldTexts (v : Value) (p : Nat) (w : World) (h : Own w 9 v (strs (smarks 1 p))) (hl : p ≤ 1000) :
    Calls Try.prog 57 #[v, .int .i64 1] w fun e w' => e = .returned (.int .i64 (1 + (p : Nat))) ∧ Below w.heap.size w w' :=
  heldStringS_any v p 1 w h (by omega) (by omega) (by omega)
theorem markInts (B : Nat) (v : Value) (P : List Int) (w : World) (h : New B w 3 v (ints P)) (hB : B ≤ w.heap.size) (hl : P.length ≤ 1000) :
    Calls Try.prog 48 #[v, .int .i64 1] w fun e w' => e = .returned (.int .i64 (1 + (P.length : Nat))) ∧ Own w' 3 v (ints (marks 1 P.length)) ∧ Below B w w' :=
  (markIntS_any v P 1 w h.own (by omega) (by omega) (by omega)).mono fun e w' hw => ⟨hw.1, hw.2.1, (Below.refl B w).grown hw.2.2 hB (fun g hg => h.base g hg)⟩
theorem heldInts (v : Value) (p : Nat) (w : World) (h : Own w 3 v (ints (marks 1 p))) (hl : p ≤ 1000) :
    Calls Try.prog 49 #[v, .int .i64 1] w fun e w' => e = .returned (.int .i64 (1 + (p : Nat))) ∧ Below w.heap.size w w' :=
  (heldIntS_any v p 1 w h (by omega) (by omega) (by omega)).mono fun e w' hw => ⟨hw.1, hw.2 ▸ Below.refl _ _⟩

end Go.Proofs.Ytpfnamiacagocaa
