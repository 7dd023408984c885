/- Methods: what both sides give alike: GoodMethod, LeadHead, LeadsIn. Laws on lists: marks; what both sides give alike: LeadRows, CourseRows. HuntBells in the model, and the law. -/
import Derived.Test.YtkhglknpcajmiaaD1
import Derived.Test.YtkhglknpcajmiaaNA
import Derived.Test.YtkhglknpcajmiaaCB
import Derived.Deep.RegionHeld3
namespace Go.Proofs.Ytkhglknpcajmiaa
open Go.RowKit
set_option linter.unusedSimpArgs false
set_option linter.unusedVariables false

theorem small_letss {ss : List ByteArray} (h : ∀ t ∈ ss, t.size ≤ maxLen) : Small (letss ss) := fun l hl => by
  simp only [letss, List.mem_map] at hl
  obtain ⟨x, hx, rfl⟩ := hl
  have := h x hx
  simpa [lets] using this
theorem good_cast {s : ByteArray} {n : Int} {L : List (List Nat)} (h : goodM s n L = true) : ∃ k : Nat, n = k := by
  have := goodAll_range (goodM_parts h).1
  exact ⟨n.toNat, by omega⟩
theorem good_ord {s : ByteArray} {n : Nat} {L : List (List Nat)} (h : goodM s n L = true) : ∃ k, IsOrd n (headF n (chR n L)) k := by
  have h9 := goodM_nat h
  exact ord_exists (isRow_head h9.1 h9.2.1 h9.2.2.1)
end Go.Proofs.Ytkhglknpcajmiaa
namespace Go.Proofs.Ytkhglknpcajmiaa
open Go.RowKit
set_option linter.unusedSimpArgs false
set_option linter.unusedVariables false

theorem markTexts (B : Nat) (v : Value) (P : List (List Nat)) (w : World) (h : New B w 9 v (strs P)) (hB : B ≤ w.heap.size) (hl : P.length ≤ 1000) :
    Calls Try.prog 73 #[v, .int .i64 1] w fun e w' => e = .returned (.int .i64 (1 + (P.length : Nat))) ∧ Own w' 9 v (strs (smarks 1 P.length)) ∧ Below B w w' :=
  (markStringS_full B v P 1 w h hB (by omega) (by omega) (by omega)).mono fun e w' h => ⟨h.1, h.2.1.own, h.2.2.1⟩
theorem heldTexts (v : Value) (p : Nat) (w : World) (h : Own w 9 v (strs (smarks 1 p))) (hl : p ≤ 1000) :
    Calls Try.prog 74 #[v, .int .i64 1] w fun e w' => e = .returned (.int .i64 (1 + (p : Nat))) ∧ Below w.heap.size w w' :=
  heldStringS_any v p 1 w h (by omega) (by omega) (by omega)
theorem markInts (B : Nat) (v : Value) (P : List Int) (w : World) (h : New B w 3 v (ints P)) (hB : B ≤ w.heap.size) (hl : P.length ≤ 1000) :
    Calls Try.prog 76 #[v, .int .i64 1] w fun e w' => e = .returned (.int .i64 (1 + (P.length : Nat))) ∧ Own w' 3 v (ints (marks 1 P.length)) ∧ Below B w w' :=
  (markIntS_any v P 1 w h.own (by omega) (by omega) (by omega)).mono fun e w' hw => ⟨hw.1, hw.2.1, (Below.refl B w).grown hw.2.2 hB (fun g hg => h.base g hg)⟩
theorem heldInts (v : Value) (p : Nat) (w : World) (h : Own w 3 v (ints (marks 1 p))) (hl : p ≤ 1000) :
    Calls Try.prog 77 #[v, .int .i64 1] w fun e w' => e = .returned (.int .i64 (1 + (p : Nat))) ∧ Below w.heap.size w w' :=
  (heldIntS_any v p 1 w h (by omega) (by omega) (by omega)).mono fun e w' hw => ⟨hw.1, hw.2 ▸ Below.refl _ _⟩

end Go.Proofs.Ytkhglknpcajmiaa
namespace Go.Proofs.Ytkhglknpcajmiaa
open Go.RowKit
set_option linter.unusedSimpArgs false
set_option linter.unusedVariables false

/-- a slice of numbers of its own, and a flag -/
def IntsAny (P : List Int) (b : Bool) (w : World) (e : Ending) (w' : World) : Prop :=
  ∃ v, e = .returned (.tuple #[v, .bool b]) ∧ New w.heap.size w' 3 v (ints P) ∧ Below w.heap.size w w'
theorem IntsAny.of {xs : List Nat} {b : Bool} {w : World} {e : Ending} {w' : World} (h : NumsAny xs b w e w') : IntsAny (xs.map fun (k : Nat) => (k : Int)) b w e w' := h

end Go.Proofs.Ytkhglknpcajmiaa
