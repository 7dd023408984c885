/-
  No cell of these rows narrows 'for every input' (looked for: loops, veiled, ifaces, maps, wideKeys, modest, calm, conditions, laid).
  DERIVED. THE GIVEN ROWS OF THIS SEAT. 5 by the template 'for every input the law returns true; each argument reads behind the call as it read before'; 0 by the template 'total and deterministic' (their statements: YtnildepdpkbekaaTotals.lean).
  GIVEN WITH THE SEED: the statements are not yours to turn. If you find one false, say at which input.
  Laid BY PROGRAM, IN A SANDBOX (cutbox-rows.mjs): the forced cells as the released guide's own fill.sh prints them over the translation 37ea7afb2b961406… (all of the seat's roots in one cut). By AI agents, Wed Nov 11 2026. No macro, syntax, notation, axiom, sorry.
-/
import Derived.Test.YtnildepdpkbekaaChecked
import GoSem.Claim
import GoSem.ClaimJoined
import GoSem.ClaimMapViews
import Derived.JoinedTies
import Derived.KernelRfl
namespace Go.Proofs.Ytnildepdpkbekaa
/- THE CELL 'sum', in the pinned program and in every row, IS THE sha256 OF THE DUMP (.gsa) THAT YtnildepdpkbekaaProg.lean LOADS. Nothing in Lean hashes anything: it is a label: what it is worth is what the hold of that sum in a sandbox is worth. -/
noncomputable def Try.pinned : Pinned := { name := "ytnildepdpkbekaa", sum := "37ea7afb2b9614066890abc45b030fe61103825cc4c0f8671a343119ec8d02b6", checked := Try.checked }
namespace Rows
def none {H : Type} : Left H := { results := [], args := [] }

/-- 'laws.FnExactPlaceOfRow': WHATEVER THE INPUT: true; the input reads as it did. -/
def fnExactPlaceOfRowSpec : ChangeSpec := { name := "fnExactPlaceOfRow", fn := fun _ => fun
  | [d] => { results := [.lit (.bool true)], args := [d] }
  | _ => none }
def fnExactPlaceOfRowRow : OpenClaim := { program := "ytnildepdpkbekaa", sum := "37ea7afb2b9614066890abc45b030fe61103825cc4c0f8671a343119ec8d02b6", func := "loop.example/g00894/laws.FnExactPlaceOfRow", spec := "fnExactPlaceOfRow", apart := false }
def FnExactPlaceOfRowSaid : Prop := fnExactPlaceOfRowRow.holds Try.pinned (OpenSpec.ofChange fnExactPlaceOfRowSpec)

/-- ITS FALSE NEIGHBOUR: 'it returns false'. Refute it at one input. -/
def fnExactPlaceOfRowWrong : ChangeSpec := { name := "fnExactPlaceOfRow", fn := fun _ => fun
  | [d] => { results := [.lit (.bool false)], args := [d] }
  | _ => none }
def FnExactPlaceOfRowWrongFalsely : Prop := fnExactPlaceOfRowRow.holds Try.pinned (OpenSpec.ofChange fnExactPlaceOfRowWrong)

/-- 'laws.FnExactBetweenRows': WHATEVER THE INPUT: true; the input reads as it did. -/
def fnExactBetweenRowsSpec : ChangeSpec := { name := "fnExactBetweenRows", fn := fun _ => fun
  | [d1, d2] => { results := [.lit (.bool true)], args := [d1, d2] }
  | _ => none }
def fnExactBetweenRowsRow : OpenClaim := { program := "ytnildepdpkbekaa", sum := "37ea7afb2b9614066890abc45b030fe61103825cc4c0f8671a343119ec8d02b6", func := "loop.example/g00894/laws.FnExactBetweenRows", spec := "fnExactBetweenRows", recurses := true, apart := false }
def FnExactBetweenRowsSaid : Prop := fnExactBetweenRowsRow.holds Try.pinned (OpenSpec.ofChange fnExactBetweenRowsSpec)

/-- ITS FALSE NEIGHBOUR: 'it returns false'. Refute it at one input. -/
def fnExactBetweenRowsWrong : ChangeSpec := { name := "fnExactBetweenRows", fn := fun _ => fun
  | [d1, d2] => { results := [.lit (.bool false)], args := [d1, d2] }
  | _ => none }
def FnExactBetweenRowsWrongFalsely : Prop := fnExactBetweenRowsRow.holds Try.pinned (OpenSpec.ofChange fnExactBetweenRowsWrong)

/-- 'laws.FnCycles': WHATEVER THE INPUT: true; the input reads as it did. -/
def fnCyclesSpec : ChangeSpec := { name := "fnCycles", fn := fun _ => fun
  | [d1, d2] => { results := [.lit (.bool true)], args := [d1, d2] }
  | _ => none }
def fnCyclesRow : OpenClaim := { program := "ytnildepdpkbekaa", sum := "37ea7afb2b9614066890abc45b030fe61103825cc4c0f8671a343119ec8d02b6", func := "loop.example/g00894/laws.FnCycles", spec := "fnCycles", apart := false }
def FnCyclesSaid : Prop := fnCyclesRow.holds Try.pinned (OpenSpec.ofChange fnCyclesSpec)

/-- ITS FALSE NEIGHBOUR: 'it returns false'. Refute it at one input. -/
def fnCyclesWrong : ChangeSpec := { name := "fnCycles", fn := fun _ => fun
  | [d1, d2] => { results := [.lit (.bool false)], args := [d1, d2] }
  | _ => none }
def FnCyclesWrongFalsely : Prop := fnCyclesRow.holds Try.pinned (OpenSpec.ofChange fnCyclesWrong)

/-- 'laws.FnPairs': WHATEVER THE INPUT: true; the input reads as it did. -/
def fnPairsSpec : ChangeSpec := { name := "fnPairs", fn := fun _ => fun
  | [d1, d2] => { results := [.lit (.bool true)], args := [d1, d2] }
  | _ => none }
def fnPairsRow : OpenClaim := { program := "ytnildepdpkbekaa", sum := "37ea7afb2b9614066890abc45b030fe61103825cc4c0f8671a343119ec8d02b6", func := "loop.example/g00894/laws.FnPairs", spec := "fnPairs", recurses := true, apart := false }
def FnPairsSaid : Prop := fnPairsRow.holds Try.pinned (OpenSpec.ofChange fnPairsSpec)

/-- ITS FALSE NEIGHBOUR: 'it returns false'. Refute it at one input. -/
def fnPairsWrong : ChangeSpec := { name := "fnPairs", fn := fun _ => fun
  | [d1, d2] => { results := [.lit (.bool false)], args := [d1, d2] }
  | _ => none }
def FnPairsWrongFalsely : Prop := fnPairsRow.holds Try.pinned (OpenSpec.ofChange fnPairsWrong)

/-- 'laws.FnAllChanges': WHATEVER THE INPUT: true; the input reads as it did. -/
def fnAllChangesSpec : ChangeSpec := { name := "fnAllChanges", fn := fun _ => fun
  | [d1, d2] => { results := [.lit (.bool true)], args := [d1, d2] }
  | _ => none }
def fnAllChangesRow : OpenClaim := { program := "ytnildepdpkbekaa", sum := "37ea7afb2b9614066890abc45b030fe61103825cc4c0f8671a343119ec8d02b6", func := "loop.example/g00894/laws.FnAllChanges", spec := "fnAllChanges", recurses := true, apart := false }
def FnAllChangesSaid : Prop := fnAllChangesRow.holds Try.pinned (OpenSpec.ofChange fnAllChangesSpec)

/-- ITS FALSE NEIGHBOUR: 'it returns false'. Refute it at one input. -/
def fnAllChangesWrong : ChangeSpec := { name := "fnAllChanges", fn := fun _ => fun
  | [d1, d2] => { results := [.lit (.bool false)], args := [d1, d2] }
  | _ => none }
def FnAllChangesWrongFalsely : Prop := fnAllChangesRow.holds Try.pinned (OpenSpec.ofChange fnAllChangesWrong)

/- THE SECOND FORM. 'bulk': how many values and letters a reading holds, each counted each time it is reached (what is shared counts as often as it is met; a slice's spare places count too). A statement '..UptoSaid' is the law's where the arguments, and the package variables that the reading takes, are together of bulk at most 1048576: NARROWER than '..Said'. Prove '..Said' where nothing that the law and all that it calls make is longer than what came in: it says more and counts as full. Else prove '..UptoSaid'. A law counts once. -/
mutual
def uptoBulk {H : Type} : DataW H → Nat
  | .lit (.string bytes) => bytes.length + 1
  | .lit _ => 1
  | .nil => 1
  | .ptr d => uptoBulk d + 1
  | .slice elems spare => uptoBulkAll elems + uptoBulkAll spare + 1
  | .agg parts => uptoBulkAll parts + 1
  | .iface _ d => uptoBulk d + 1
  | .map entries => uptoBulkEntries entries + 1
  | .held _ => 1
def uptoBulkAll {H : Type} : List (DataW H) → Nat
  | [] => 0
  | d :: r => uptoBulk d + uptoBulkAll r
def uptoBulkEntries {H : Type} : List (Lit × DataW H) → Nat
  | [] => 0
  | x :: r => uptoBulkEntry x + uptoBulkEntries r
def uptoBulkEntry {H : Type} : Lit × DataW H → Nat
  | (.string bytes, d) => bytes.length + uptoBulk d + 1
  | (_, d) => uptoBulk d + 1
 end
def uptoSmall : (H : Type) → List (DataW H) → Bool := fun _ ds => decide (uptoBulkAll ds ≤ 1048576)
def OpenSpec.upto (s : _root_.Go.ChangeSpec) : _root_.Go.OpenSpec := { _root_.Go.OpenSpec.ofChange s with cond := some uptoSmall }

/-- 'laws.FnExactPlaceOfRow', WHERE WHAT IT READS IS OF BULK AT MOST 1048576: true; the input reads as it did. -/
def fnExactPlaceOfRowUptoRow : OpenClaim := { program := "ytnildepdpkbekaa", sum := "37ea7afb2b9614066890abc45b030fe61103825cc4c0f8671a343119ec8d02b6", func := "loop.example/g00894/laws.FnExactPlaceOfRow", spec := "fnExactPlaceOfRow", apart := false, narrowed := true }
def FnExactPlaceOfRowUptoSaid : Prop := fnExactPlaceOfRowUptoRow.holds Try.pinned (OpenSpec.upto fnExactPlaceOfRowSpec)

/-- 'laws.FnExactBetweenRows', WHERE WHAT IT READS IS OF BULK AT MOST 1048576: true; the input reads as it did. -/
def fnExactBetweenRowsUptoRow : OpenClaim := { program := "ytnildepdpkbekaa", sum := "37ea7afb2b9614066890abc45b030fe61103825cc4c0f8671a343119ec8d02b6", func := "loop.example/g00894/laws.FnExactBetweenRows", spec := "fnExactBetweenRows", recurses := true, apart := false, narrowed := true }
def FnExactBetweenRowsUptoSaid : Prop := fnExactBetweenRowsUptoRow.holds Try.pinned (OpenSpec.upto fnExactBetweenRowsSpec)

/-- 'laws.FnCycles', WHERE WHAT IT READS IS OF BULK AT MOST 1048576: true; the input reads as it did. -/
def fnCyclesUptoRow : OpenClaim := { program := "ytnildepdpkbekaa", sum := "37ea7afb2b9614066890abc45b030fe61103825cc4c0f8671a343119ec8d02b6", func := "loop.example/g00894/laws.FnCycles", spec := "fnCycles", apart := false, narrowed := true }
def FnCyclesUptoSaid : Prop := fnCyclesUptoRow.holds Try.pinned (OpenSpec.upto fnCyclesSpec)

/-- 'laws.FnPairs', WHERE WHAT IT READS IS OF BULK AT MOST 1048576: true; the input reads as it did. -/
def fnPairsUptoRow : OpenClaim := { program := "ytnildepdpkbekaa", sum := "37ea7afb2b9614066890abc45b030fe61103825cc4c0f8671a343119ec8d02b6", func := "loop.example/g00894/laws.FnPairs", spec := "fnPairs", recurses := true, apart := false, narrowed := true }
def FnPairsUptoSaid : Prop := fnPairsUptoRow.holds Try.pinned (OpenSpec.upto fnPairsSpec)

/-- 'laws.FnAllChanges', WHERE WHAT IT READS IS OF BULK AT MOST 1048576: true; the input reads as it did. -/
def fnAllChangesUptoRow : OpenClaim := { program := "ytnildepdpkbekaa", sum := "37ea7afb2b9614066890abc45b030fe61103825cc4c0f8671a343119ec8d02b6", func := "loop.example/g00894/laws.FnAllChanges", spec := "fnAllChanges", recurses := true, apart := false, narrowed := true }
def FnAllChangesUptoSaid : Prop := fnAllChangesUptoRow.holds Try.pinned (OpenSpec.upto fnAllChangesSpec)

end Rows
end Go.Proofs.Ytnildepdpkbekaa
