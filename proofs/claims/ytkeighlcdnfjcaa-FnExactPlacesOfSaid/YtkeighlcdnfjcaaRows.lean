/-
  No cell of these rows narrows 'for every input' (looked for: loops, veiled, ifaces, maps, wideKeys, modest, calm, conditions, laid).
  DERIVED. THE GIVEN ROWS OF THIS SEAT. 10 by the template 'for every input the law returns true; each argument reads behind the call as it read before'; 0 by the template 'total and deterministic' (their statements: YtkeighlcdnfjcaaTotals.lean).
  GIVEN WITH THE SEED: the statements are not yours to turn. If you find one false, say at which input.
  Laid BY PROGRAM, IN A SANDBOX (cutbox-rows.mjs): the forced cells as the released guide's own fill.sh prints them over the translation 26ec5e8d2dd073c7… (all of the seat's roots in one cut). By AI agents, Wed Nov 11 2026. No macro, syntax, notation, axiom, sorry.
-/
import Derived.Test.YtkeighlcdnfjcaaChecked
import GoSem.Claim
import GoSem.ClaimJoined
import GoSem.ClaimMapViews
import Derived.JoinedTies
import Derived.KernelRfl
namespace Go.Proofs.Ytkeighlcdnfjcaa
/- THE CELL 'sum', in the pinned program and in every row, IS THE sha256 OF THE DUMP (.gsa) THAT YtkeighlcdnfjcaaProg.lean LOADS. Nothing in Lean hashes anything: it is a label: what it is worth is what the hold of that sum in a sandbox is worth. -/
noncomputable def Try.pinned : Pinned := { name := "ytkeighlcdnfjcaa", sum := "26ec5e8d2dd073c761423bedddfeed51cb7a532dff8308d6205597963f1986a8", checked := Try.checked }
namespace Rows
def none {H : Type} : Left H := { results := [], args := [] }

/-- 'laws.FnPairs': WHATEVER THE INPUT: true; the input reads as it did. -/
def fnPairsSpec : ChangeSpec := { name := "fnPairs", fn := fun _ => fun
  | [d1, d2] => { results := [.lit (.bool true)], args := [d1, d2] }
  | _ => none }
def fnPairsRow : OpenClaim := { program := "ytkeighlcdnfjcaa", sum := "26ec5e8d2dd073c761423bedddfeed51cb7a532dff8308d6205597963f1986a8", func := "loop.example/g00894/laws.FnPairs", spec := "fnPairs", recurses := true, apart := false }
def FnPairsSaid : Prop := fnPairsRow.holds Try.pinned (OpenSpec.ofChange fnPairsSpec)

/-- ITS FALSE NEIGHBOUR: 'it returns false'. Refute it at one input. -/
def fnPairsWrong : ChangeSpec := { name := "fnPairs", fn := fun _ => fun
  | [d1, d2] => { results := [.lit (.bool false)], args := [d1, d2] }
  | _ => none }
def FnPairsWrongFalsely : Prop := fnPairsRow.holds Try.pinned (OpenSpec.ofChange fnPairsWrong)

/-- 'laws.FnAllChanges': WHATEVER THE INPUT: true; the input reads as it did. -/
def fnAllChangesSpec : ChangeSpec := { name := "fnAllChanges", fn := fun _ => fun
  | [d1, d2] => { results := [.lit (.bool true)], args := [d1, d2] }
  | _ => none }
def fnAllChangesRow : OpenClaim := { program := "ytkeighlcdnfjcaa", sum := "26ec5e8d2dd073c761423bedddfeed51cb7a532dff8308d6205597963f1986a8", func := "loop.example/g00894/laws.FnAllChanges", spec := "fnAllChanges", recurses := true, apart := false }
def FnAllChangesSaid : Prop := fnAllChangesRow.holds Try.pinned (OpenSpec.ofChange fnAllChangesSpec)

/-- ITS FALSE NEIGHBOUR: 'it returns false'. Refute it at one input. -/
def fnAllChangesWrong : ChangeSpec := { name := "fnAllChanges", fn := fun _ => fun
  | [d1, d2] => { results := [.lit (.bool false)], args := [d1, d2] }
  | _ => none }
def FnAllChangesWrongFalsely : Prop := fnAllChangesRow.holds Try.pinned (OpenSpec.ofChange fnAllChangesWrong)

/-- 'laws.FnExactGoodChange': WHATEVER THE INPUT: true; the input reads as it did. -/
def fnExactGoodChangeSpec : ChangeSpec := { name := "fnExactGoodChange", fn := fun _ => fun
  | [d1, d2] => { results := [.lit (.bool true)], args := [d1, d2] }
  | _ => none }
def fnExactGoodChangeRow : OpenClaim := { program := "ytkeighlcdnfjcaa", sum := "26ec5e8d2dd073c761423bedddfeed51cb7a532dff8308d6205597963f1986a8", func := "loop.example/g00894/laws.FnExactGoodChange", spec := "fnExactGoodChange", apart := false }
def FnExactGoodChangeSaid : Prop := fnExactGoodChangeRow.holds Try.pinned (OpenSpec.ofChange fnExactGoodChangeSpec)

/-- ITS FALSE NEIGHBOUR: 'it returns false'. Refute it at one input. -/
def fnExactGoodChangeWrong : ChangeSpec := { name := "fnExactGoodChange", fn := fun _ => fun
  | [d1, d2] => { results := [.lit (.bool false)], args := [d1, d2] }
  | _ => none }
def FnExactGoodChangeWrongFalsely : Prop := fnExactGoodChangeRow.holds Try.pinned (OpenSpec.ofChange fnExactGoodChangeWrong)

/-- 'laws.FnExactChangeRow': WHATEVER THE INPUT: true; the input reads as it did. -/
def fnExactChangeRowSpec : ChangeSpec := { name := "fnExactChangeRow", fn := fun _ => fun
  | [d1, d2] => { results := [.lit (.bool true)], args := [d1, d2] }
  | _ => none }
def fnExactChangeRowRow : OpenClaim := { program := "ytkeighlcdnfjcaa", sum := "26ec5e8d2dd073c761423bedddfeed51cb7a532dff8308d6205597963f1986a8", func := "loop.example/g00894/laws.FnExactChangeRow", spec := "fnExactChangeRow", apart := false }
def FnExactChangeRowSaid : Prop := fnExactChangeRowRow.holds Try.pinned (OpenSpec.ofChange fnExactChangeRowSpec)

/-- ITS FALSE NEIGHBOUR: 'it returns false'. Refute it at one input. -/
def fnExactChangeRowWrong : ChangeSpec := { name := "fnExactChangeRow", fn := fun _ => fun
  | [d1, d2] => { results := [.lit (.bool false)], args := [d1, d2] }
  | _ => none }
def FnExactChangeRowWrongFalsely : Prop := fnExactChangeRowRow.holds Try.pinned (OpenSpec.ofChange fnExactChangeRowWrong)

/-- 'laws.FnExactApply': WHATEVER THE INPUT: true; the input reads as it did. -/
def fnExactApplySpec : ChangeSpec := { name := "fnExactApply", fn := fun _ => fun
  | [d1, d2] => { results := [.lit (.bool true)], args := [d1, d2] }
  | _ => none }
def fnExactApplyRow : OpenClaim := { program := "ytkeighlcdnfjcaa", sum := "26ec5e8d2dd073c761423bedddfeed51cb7a532dff8308d6205597963f1986a8", func := "loop.example/g00894/laws.FnExactApply", spec := "fnExactApply", apart := false }
def FnExactApplySaid : Prop := fnExactApplyRow.holds Try.pinned (OpenSpec.ofChange fnExactApplySpec)

/-- ITS FALSE NEIGHBOUR: 'it returns false'. Refute it at one input. -/
def fnExactApplyWrong : ChangeSpec := { name := "fnExactApply", fn := fun _ => fun
  | [d1, d2] => { results := [.lit (.bool false)], args := [d1, d2] }
  | _ => none }
def FnExactApplyWrongFalsely : Prop := fnExactApplyRow.holds Try.pinned (OpenSpec.ofChange fnExactApplyWrong)

/-- 'laws.FnExactAllChanges': WHATEVER THE INPUT: true; the input reads as it did. -/
def fnExactAllChangesSpec : ChangeSpec := { name := "fnExactAllChanges", fn := fun _ => fun
  | [d] => { results := [.lit (.bool true)], args := [d] }
  | _ => none }
def fnExactAllChangesRow : OpenClaim := { program := "ytkeighlcdnfjcaa", sum := "26ec5e8d2dd073c761423bedddfeed51cb7a532dff8308d6205597963f1986a8", func := "loop.example/g00894/laws.FnExactAllChanges", spec := "fnExactAllChanges", recurses := true, apart := false }
def FnExactAllChangesSaid : Prop := fnExactAllChangesRow.holds Try.pinned (OpenSpec.ofChange fnExactAllChangesSpec)

/-- ITS FALSE NEIGHBOUR: 'it returns false'. Refute it at one input. -/
def fnExactAllChangesWrong : ChangeSpec := { name := "fnExactAllChanges", fn := fun _ => fun
  | [d] => { results := [.lit (.bool false)], args := [d] }
  | _ => none }
def FnExactAllChangesWrongFalsely : Prop := fnExactAllChangesRow.holds Try.pinned (OpenSpec.ofChange fnExactAllChangesWrong)

/-- 'laws.FnExactBetweenRows': WHATEVER THE INPUT: true; the input reads as it did. -/
def fnExactBetweenRowsSpec : ChangeSpec := { name := "fnExactBetweenRows", fn := fun _ => fun
  | [d1, d2] => { results := [.lit (.bool true)], args := [d1, d2] }
  | _ => none }
def fnExactBetweenRowsRow : OpenClaim := { program := "ytkeighlcdnfjcaa", sum := "26ec5e8d2dd073c761423bedddfeed51cb7a532dff8308d6205597963f1986a8", func := "loop.example/g00894/laws.FnExactBetweenRows", spec := "fnExactBetweenRows", recurses := true, apart := false }
def FnExactBetweenRowsSaid : Prop := fnExactBetweenRowsRow.holds Try.pinned (OpenSpec.ofChange fnExactBetweenRowsSpec)

/-- ITS FALSE NEIGHBOUR: 'it returns false'. Refute it at one input. -/
def fnExactBetweenRowsWrong : ChangeSpec := { name := "fnExactBetweenRows", fn := fun _ => fun
  | [d1, d2] => { results := [.lit (.bool false)], args := [d1, d2] }
  | _ => none }
def FnExactBetweenRowsWrongFalsely : Prop := fnExactBetweenRowsRow.holds Try.pinned (OpenSpec.ofChange fnExactBetweenRowsWrong)

/-- 'laws.FnExactSwapsOf': WHATEVER THE INPUT: true; the input reads as it did. -/
def fnExactSwapsOfSpec : ChangeSpec := { name := "fnExactSwapsOf", fn := fun _ => fun
  | [d1, d2] => { results := [.lit (.bool true)], args := [d1, d2] }
  | _ => none }
def fnExactSwapsOfRow : OpenClaim := { program := "ytkeighlcdnfjcaa", sum := "26ec5e8d2dd073c761423bedddfeed51cb7a532dff8308d6205597963f1986a8", func := "loop.example/g00894/laws.FnExactSwapsOf", spec := "fnExactSwapsOf", apart := false }
def FnExactSwapsOfSaid : Prop := fnExactSwapsOfRow.holds Try.pinned (OpenSpec.ofChange fnExactSwapsOfSpec)

/-- ITS FALSE NEIGHBOUR: 'it returns false'. Refute it at one input. -/
def fnExactSwapsOfWrong : ChangeSpec := { name := "fnExactSwapsOf", fn := fun _ => fun
  | [d1, d2] => { results := [.lit (.bool false)], args := [d1, d2] }
  | _ => none }
def FnExactSwapsOfWrongFalsely : Prop := fnExactSwapsOfRow.holds Try.pinned (OpenSpec.ofChange fnExactSwapsOfWrong)

/-- 'laws.FnExactPlacesOf': WHATEVER THE INPUT: true; the input reads as it did. -/
def fnExactPlacesOfSpec : ChangeSpec := { name := "fnExactPlacesOf", fn := fun _ => fun
  | [d1, d2] => { results := [.lit (.bool true)], args := [d1, d2] }
  | _ => none }
def fnExactPlacesOfRow : OpenClaim := { program := "ytkeighlcdnfjcaa", sum := "26ec5e8d2dd073c761423bedddfeed51cb7a532dff8308d6205597963f1986a8", func := "loop.example/g00894/laws.FnExactPlacesOf", spec := "fnExactPlacesOf", apart := false }
def FnExactPlacesOfSaid : Prop := fnExactPlacesOfRow.holds Try.pinned (OpenSpec.ofChange fnExactPlacesOfSpec)

/-- ITS FALSE NEIGHBOUR: 'it returns false'. Refute it at one input. -/
def fnExactPlacesOfWrong : ChangeSpec := { name := "fnExactPlacesOf", fn := fun _ => fun
  | [d1, d2] => { results := [.lit (.bool false)], args := [d1, d2] }
  | _ => none }
def FnExactPlacesOfWrongFalsely : Prop := fnExactPlacesOfRow.holds Try.pinned (OpenSpec.ofChange fnExactPlacesOfWrong)

/-- 'laws.FnExactMirrorChange': WHATEVER THE INPUT: true; the input reads as it did. -/
def fnExactMirrorChangeSpec : ChangeSpec := { name := "fnExactMirrorChange", fn := fun _ => fun
  | [d1, d2] => { results := [.lit (.bool true)], args := [d1, d2] }
  | _ => none }
def fnExactMirrorChangeRow : OpenClaim := { program := "ytkeighlcdnfjcaa", sum := "26ec5e8d2dd073c761423bedddfeed51cb7a532dff8308d6205597963f1986a8", func := "loop.example/g00894/laws.FnExactMirrorChange", spec := "fnExactMirrorChange", recurses := true, apart := false }
def FnExactMirrorChangeSaid : Prop := fnExactMirrorChangeRow.holds Try.pinned (OpenSpec.ofChange fnExactMirrorChangeSpec)

/-- ITS FALSE NEIGHBOUR: 'it returns false'. Refute it at one input. -/
def fnExactMirrorChangeWrong : ChangeSpec := { name := "fnExactMirrorChange", fn := fun _ => fun
  | [d1, d2] => { results := [.lit (.bool false)], args := [d1, d2] }
  | _ => none }
def FnExactMirrorChangeWrongFalsely : Prop := fnExactMirrorChangeRow.holds Try.pinned (OpenSpec.ofChange fnExactMirrorChangeWrong)

/- THE SECOND FORM. 'bulk': how many values and letters a reading holds, each counted each time it is reached (what is shared counts as often as it is met; a slice's spare places count too). A statement '..UptoSaid' is the law's where the arguments, and the package variables that the reading takes, are together of bulk at most 1048576: NARROWER than '..Said'. Prove '..Said' where nothing that the law and all that it calls make is longer than what came in: it says more and counts as full. Else prove '..UptoSaid'. A law counts once. -/
mutual
def uptoBulk {H : Type} : DataW H → Nat
  | .lit (.string bytes) => bytes.length + 1
  | .lit _ => 1
  | .nil => 1
  | .ptr d => uptoBulk d + 1
  | .slice elems spare => uptoBulkAll elems + uptoBulkAll spare + 1
  | .agg parts => uptoBulkAll parts + 1
  | .iface _ d => uptoBulk d + 1
  | .map entries => uptoBulkEntries entries + 1
  | .held _ => 1
def uptoBulkAll {H : Type} : List (DataW H) → Nat
  | [] => 0
  | d :: r => uptoBulk d + uptoBulkAll r
def uptoBulkEntries {H : Type} : List (Lit × DataW H) → Nat
  | [] => 0
  | x :: r => uptoBulkEntry x + uptoBulkEntries r
def uptoBulkEntry {H : Type} : Lit × DataW H → Nat
  | (.string bytes, d) => bytes.length + uptoBulk d + 1
  | (_, d) => uptoBulk d + 1
 end
def uptoSmall : (H : Type) → List (DataW H) → Bool := fun _ ds => decide (uptoBulkAll ds ≤ 1048576)
def OpenSpec.upto (s : _root_.Go.ChangeSpec) : _root_.Go.OpenSpec := { _root_.Go.OpenSpec.ofChange s with cond := some uptoSmall }

/-- 'laws.FnPairs', WHERE WHAT IT READS IS OF BULK AT MOST 1048576: true; the input reads as it did. -/
def fnPairsUptoRow : OpenClaim := { program := "ytkeighlcdnfjcaa", sum := "26ec5e8d2dd073c761423bedddfeed51cb7a532dff8308d6205597963f1986a8", func := "loop.example/g00894/laws.FnPairs", spec := "fnPairs", recurses := true, apart := false, narrowed := true }
def FnPairsUptoSaid : Prop := fnPairsUptoRow.holds Try.pinned (OpenSpec.upto fnPairsSpec)

/-- 'laws.FnAllChanges', WHERE WHAT IT READS IS OF BULK AT MOST 1048576: true; the input reads as it did. -/
def fnAllChangesUptoRow : OpenClaim := { program := "ytkeighlcdnfjcaa", sum := "26ec5e8d2dd073c761423bedddfeed51cb7a532dff8308d6205597963f1986a8", func := "loop.example/g00894/laws.FnAllChanges", spec := "fnAllChanges", recurses := true, apart := false, narrowed := true }
def FnAllChangesUptoSaid : Prop := fnAllChangesUptoRow.holds Try.pinned (OpenSpec.upto fnAllChangesSpec)

/-- 'laws.FnExactGoodChange', WHERE WHAT IT READS IS OF BULK AT MOST 1048576: true; the input reads as it did. -/
def fnExactGoodChangeUptoRow : OpenClaim := { program := "ytkeighlcdnfjcaa", sum := "26ec5e8d2dd073c761423bedddfeed51cb7a532dff8308d6205597963f1986a8", func := "loop.example/g00894/laws.FnExactGoodChange", spec := "fnExactGoodChange", apart := false, narrowed := true }
def FnExactGoodChangeUptoSaid : Prop := fnExactGoodChangeUptoRow.holds Try.pinned (OpenSpec.upto fnExactGoodChangeSpec)

/-- 'laws.FnExactChangeRow', WHERE WHAT IT READS IS OF BULK AT MOST 1048576: true; the input reads as it did. -/
def fnExactChangeRowUptoRow : OpenClaim := { program := "ytkeighlcdnfjcaa", sum := "26ec5e8d2dd073c761423bedddfeed51cb7a532dff8308d6205597963f1986a8", func := "loop.example/g00894/laws.FnExactChangeRow", spec := "fnExactChangeRow", apart := false, narrowed := true }
def FnExactChangeRowUptoSaid : Prop := fnExactChangeRowUptoRow.holds Try.pinned (OpenSpec.upto fnExactChangeRowSpec)

/-- 'laws.FnExactApply', WHERE WHAT IT READS IS OF BULK AT MOST 1048576: true; the input reads as it did. -/
def fnExactApplyUptoRow : OpenClaim := { program := "ytkeighlcdnfjcaa", sum := "26ec5e8d2dd073c761423bedddfeed51cb7a532dff8308d6205597963f1986a8", func := "loop.example/g00894/laws.FnExactApply", spec := "fnExactApply", apart := false, narrowed := true }
def FnExactApplyUptoSaid : Prop := fnExactApplyUptoRow.holds Try.pinned (OpenSpec.upto fnExactApplySpec)

/-- 'laws.FnExactAllChanges', WHERE WHAT IT READS IS OF BULK AT MOST 1048576: true; the input reads as it did. -/
def fnExactAllChangesUptoRow : OpenClaim := { program := "ytkeighlcdnfjcaa", sum := "26ec5e8d2dd073c761423bedddfeed51cb7a532dff8308d6205597963f1986a8", func := "loop.example/g00894/laws.FnExactAllChanges", spec := "fnExactAllChanges", recurses := true, apart := false, narrowed := true }
def FnExactAllChangesUptoSaid : Prop := fnExactAllChangesUptoRow.holds Try.pinned (OpenSpec.upto fnExactAllChangesSpec)

/-- 'laws.FnExactBetweenRows', WHERE WHAT IT READS IS OF BULK AT MOST 1048576: true; the input reads as it did. -/
def fnExactBetweenRowsUptoRow : OpenClaim := { program := "ytkeighlcdnfjcaa", sum := "26ec5e8d2dd073c761423bedddfeed51cb7a532dff8308d6205597963f1986a8", func := "loop.example/g00894/laws.FnExactBetweenRows", spec := "fnExactBetweenRows", recurses := true, apart := false, narrowed := true }
def FnExactBetweenRowsUptoSaid : Prop := fnExactBetweenRowsUptoRow.holds Try.pinned (OpenSpec.upto fnExactBetweenRowsSpec)

/-- 'laws.FnExactSwapsOf', WHERE WHAT IT READS IS OF BULK AT MOST 1048576: true; the input reads as it did. -/
def fnExactSwapsOfUptoRow : OpenClaim := { program := "ytkeighlcdnfjcaa", sum := "26ec5e8d2dd073c761423bedddfeed51cb7a532dff8308d6205597963f1986a8", func := "loop.example/g00894/laws.FnExactSwapsOf", spec := "fnExactSwapsOf", apart := false, narrowed := true }
def FnExactSwapsOfUptoSaid : Prop := fnExactSwapsOfUptoRow.holds Try.pinned (OpenSpec.upto fnExactSwapsOfSpec)

/-- 'laws.FnExactPlacesOf', WHERE WHAT IT READS IS OF BULK AT MOST 1048576: true; the input reads as it did. -/
def fnExactPlacesOfUptoRow : OpenClaim := { program := "ytkeighlcdnfjcaa", sum := "26ec5e8d2dd073c761423bedddfeed51cb7a532dff8308d6205597963f1986a8", func := "loop.example/g00894/laws.FnExactPlacesOf", spec := "fnExactPlacesOf", apart := false, narrowed := true }
def FnExactPlacesOfUptoSaid : Prop := fnExactPlacesOfUptoRow.holds Try.pinned (OpenSpec.upto fnExactPlacesOfSpec)

/-- 'laws.FnExactMirrorChange', WHERE WHAT IT READS IS OF BULK AT MOST 1048576: true; the input reads as it did. -/
def fnExactMirrorChangeUptoRow : OpenClaim := { program := "ytkeighlcdnfjcaa", sum := "26ec5e8d2dd073c761423bedddfeed51cb7a532dff8308d6205597963f1986a8", func := "loop.example/g00894/laws.FnExactMirrorChange", spec := "fnExactMirrorChange", recurses := true, apart := false, narrowed := true }
def FnExactMirrorChangeUptoSaid : Prop := fnExactMirrorChangeUptoRow.holds Try.pinned (OpenSpec.upto fnExactMirrorChangeSpec)

end Rows
end Go.Proofs.Ytkeighlcdnfjcaa
