/-
  No cell of these rows narrows 'for every input' (looked for: loops, veiled, ifaces, maps, wideKeys, modest, calm, conditions, laid).
  DERIVED. THE GIVEN ROWS OF THIS SEAT. 11 by the template 'for every input the law returns true; each argument reads behind the call as it read before'; 0 by the template 'total and deterministic' (their statements: YtapcfojnljnoaaaTotals.lean).
  GIVEN WITH THE SEED: the statements are not yours to turn. If you find one false, say at which input.
  Laid BY PROGRAM, IN A SANDBOX (cutbox-rows.mjs): the forced cells as the released guide's own fill.sh prints them over the translation fa94aa5f13a46d0f… (all of the seat's roots in one cut). By AI agents, Wed Nov 11 2026. No macro, syntax, notation, axiom, sorry.
-/
import Derived.Test.YtapcfojnljnoaaaChecked
import GoSem.Claim
import GoSem.ClaimJoined
import GoSem.ClaimMapViews
import Derived.JoinedTies
import Derived.KernelRfl
namespace Go.Proofs.Ytapcfojnljnoaaa
/- THE CELL 'sum', in the pinned program and in every row, IS THE sha256 OF THE DUMP (.gsa) THAT YtapcfojnljnoaaaProg.lean LOADS. Nothing in Lean hashes anything: it is a label: what it is worth is what the hold of that sum in a sandbox is worth. -/
noncomputable def Try.pinned : Pinned := { name := "ytapcfojnljnoaaa", sum := "fa94aa5f13a46d0fcf8c585ed3196af2baa1f59cd4fbb9a933057bfc17bfaa58", checked := Try.checked }
namespace Rows
def none {H : Type} : Left H := { results := [], args := [] }

/-- 'laws.FnExactGoodRows': WHATEVER THE INPUT: true; the input reads as it did. -/
def fnExactGoodRowsSpec : ChangeSpec := { name := "fnExactGoodRows", fn := fun _ => fun
  | [d] => { results := [.lit (.bool true)], args := [d] }
  | _ => none }
def fnExactGoodRowsRow : OpenClaim := { program := "ytapcfojnljnoaaa", sum := "fa94aa5f13a46d0fcf8c585ed3196af2baa1f59cd4fbb9a933057bfc17bfaa58", func := "loop.example/g00894/laws.FnExactGoodRows", spec := "fnExactGoodRows", plainKeys := false, apart := false }
def FnExactGoodRowsSaid : Prop := fnExactGoodRowsRow.holds Try.pinned (OpenSpec.ofChange fnExactGoodRowsSpec)

/-- ITS FALSE NEIGHBOUR: 'it returns false'. Refute it at one input. -/
def fnExactGoodRowsWrong : ChangeSpec := { name := "fnExactGoodRows", fn := fun _ => fun
  | [d] => { results := [.lit (.bool false)], args := [d] }
  | _ => none }
def FnExactGoodRowsWrongFalsely : Prop := fnExactGoodRowsRow.holds Try.pinned (OpenSpec.ofChange fnExactGoodRowsWrong)

/-- 'laws.FnExactEvenOnes': WHATEVER THE INPUT: true; the input reads as it did. -/
def fnExactEvenOnesSpec : ChangeSpec := { name := "fnExactEvenOnes", fn := fun _ => fun
  | [d] => { results := [.lit (.bool true)], args := [d] }
  | _ => none }
def fnExactEvenOnesRow : OpenClaim := { program := "ytapcfojnljnoaaa", sum := "fa94aa5f13a46d0fcf8c585ed3196af2baa1f59cd4fbb9a933057bfc17bfaa58", func := "loop.example/g00894/laws.FnExactEvenOnes", spec := "fnExactEvenOnes", plainKeys := false, apart := false }
def FnExactEvenOnesSaid : Prop := fnExactEvenOnesRow.holds Try.pinned (OpenSpec.ofChange fnExactEvenOnesSpec)

/-- ITS FALSE NEIGHBOUR: 'it returns false'. Refute it at one input. -/
def fnExactEvenOnesWrong : ChangeSpec := { name := "fnExactEvenOnes", fn := fun _ => fun
  | [d] => { results := [.lit (.bool false)], args := [d] }
  | _ => none }
def FnExactEvenOnesWrongFalsely : Prop := fnExactEvenOnesRow.holds Try.pinned (OpenSpec.ofChange fnExactEvenOnesWrong)

/-- 'laws.FnExactLeftTimes': WHATEVER THE INPUT: true; the input reads as it did. -/
def fnExactLeftTimesSpec : ChangeSpec := { name := "fnExactLeftTimes", fn := fun _ => fun
  | [d1, d2] => { results := [.lit (.bool true)], args := [d1, d2] }
  | _ => none }
def fnExactLeftTimesRow : OpenClaim := { program := "ytapcfojnljnoaaa", sum := "fa94aa5f13a46d0fcf8c585ed3196af2baa1f59cd4fbb9a933057bfc17bfaa58", func := "loop.example/g00894/laws.FnExactLeftTimes", spec := "fnExactLeftTimes", plainKeys := false, apart := false }
def FnExactLeftTimesSaid : Prop := fnExactLeftTimesRow.holds Try.pinned (OpenSpec.ofChange fnExactLeftTimesSpec)

/-- ITS FALSE NEIGHBOUR: 'it returns false'. Refute it at one input. -/
def fnExactLeftTimesWrong : ChangeSpec := { name := "fnExactLeftTimes", fn := fun _ => fun
  | [d1, d2] => { results := [.lit (.bool false)], args := [d1, d2] }
  | _ => none }
def FnExactLeftTimesWrongFalsely : Prop := fnExactLeftTimesRow.holds Try.pinned (OpenSpec.ofChange fnExactLeftTimesWrong)

/-- 'laws.FnExactSortRows': WHATEVER THE INPUT: true; the input reads as it did. -/
def fnExactSortRowsSpec : ChangeSpec := { name := "fnExactSortRows", fn := fun _ => fun
  | [d] => { results := [.lit (.bool true)], args := [d] }
  | _ => none }
def fnExactSortRowsRow : OpenClaim := { program := "ytapcfojnljnoaaa", sum := "fa94aa5f13a46d0fcf8c585ed3196af2baa1f59cd4fbb9a933057bfc17bfaa58", func := "loop.example/g00894/laws.FnExactSortRows", spec := "fnExactSortRows", recurses := true, plainKeys := false, apart := false }
def FnExactSortRowsSaid : Prop := fnExactSortRowsRow.holds Try.pinned (OpenSpec.ofChange fnExactSortRowsSpec)

/-- ITS FALSE NEIGHBOUR: 'it returns false'. Refute it at one input. -/
def fnExactSortRowsWrong : ChangeSpec := { name := "fnExactSortRows", fn := fun _ => fun
  | [d] => { results := [.lit (.bool false)], args := [d] }
  | _ => none }
def FnExactSortRowsWrongFalsely : Prop := fnExactSortRowsRow.holds Try.pinned (OpenSpec.ofChange fnExactSortRowsWrong)

/-- 'laws.FnExactCloseRows': WHATEVER THE INPUT: true; the input reads as it did. -/
def fnExactCloseRowsSpec : ChangeSpec := { name := "fnExactCloseRows", fn := fun _ => fun
  | [d] => { results := [.lit (.bool true)], args := [d] }
  | _ => none }
def fnExactCloseRowsRow : OpenClaim := { program := "ytapcfojnljnoaaa", sum := "fa94aa5f13a46d0fcf8c585ed3196af2baa1f59cd4fbb9a933057bfc17bfaa58", func := "loop.example/g00894/laws.FnExactCloseRows", spec := "fnExactCloseRows", inPlace := ["internal/bytealg.Compare"], unfollowed := true, recurses := true, plainKeys := false, apart := false }
def FnExactCloseRowsSaid : Prop := fnExactCloseRowsRow.holds Try.pinned (OpenSpec.ofChange fnExactCloseRowsSpec)

/-- ITS FALSE NEIGHBOUR: 'it returns false'. Refute it at one input. -/
def fnExactCloseRowsWrong : ChangeSpec := { name := "fnExactCloseRows", fn := fun _ => fun
  | [d] => { results := [.lit (.bool false)], args := [d] }
  | _ => none }
def FnExactCloseRowsWrongFalsely : Prop := fnExactCloseRowsRow.holds Try.pinned (OpenSpec.ofChange fnExactCloseRowsWrong)

/-- 'laws.FnExactIsGroup': WHATEVER THE INPUT: true; the input reads as it did. -/
def fnExactIsGroupSpec : ChangeSpec := { name := "fnExactIsGroup", fn := fun _ => fun
  | [d] => { results := [.lit (.bool true)], args := [d] }
  | _ => none }
def fnExactIsGroupRow : OpenClaim := { program := "ytapcfojnljnoaaa", sum := "fa94aa5f13a46d0fcf8c585ed3196af2baa1f59cd4fbb9a933057bfc17bfaa58", func := "loop.example/g00894/laws.FnExactIsGroup", spec := "fnExactIsGroup", plainKeys := false, apart := false }
def FnExactIsGroupSaid : Prop := fnExactIsGroupRow.holds Try.pinned (OpenSpec.ofChange fnExactIsGroupSpec)

/-- ITS FALSE NEIGHBOUR: 'it returns false'. Refute it at one input. -/
def fnExactIsGroupWrong : ChangeSpec := { name := "fnExactIsGroup", fn := fun _ => fun
  | [d] => { results := [.lit (.bool false)], args := [d] }
  | _ => none }
def FnExactIsGroupWrongFalsely : Prop := fnExactIsGroupRow.holds Try.pinned (OpenSpec.ofChange fnExactIsGroupWrong)

/-- 'laws.FnExactCosetOf': WHATEVER THE INPUT: true; the input reads as it did. -/
def fnExactCosetOfSpec : ChangeSpec := { name := "fnExactCosetOf", fn := fun _ => fun
  | [d1, d2] => { results := [.lit (.bool true)], args := [d1, d2] }
  | _ => none }
def fnExactCosetOfRow : OpenClaim := { program := "ytapcfojnljnoaaa", sum := "fa94aa5f13a46d0fcf8c585ed3196af2baa1f59cd4fbb9a933057bfc17bfaa58", func := "loop.example/g00894/laws.FnExactCosetOf", spec := "fnExactCosetOf", inPlace := ["internal/bytealg.Compare"], unfollowed := true, recurses := true, plainKeys := false, apart := false }
def FnExactCosetOfSaid : Prop := fnExactCosetOfRow.holds Try.pinned (OpenSpec.ofChange fnExactCosetOfSpec)

/-- ITS FALSE NEIGHBOUR: 'it returns false'. Refute it at one input. -/
def fnExactCosetOfWrong : ChangeSpec := { name := "fnExactCosetOf", fn := fun _ => fun
  | [d1, d2] => { results := [.lit (.bool false)], args := [d1, d2] }
  | _ => none }
def FnExactCosetOfWrongFalsely : Prop := fnExactCosetOfRow.holds Try.pinned (OpenSpec.ofChange fnExactCosetOfWrong)

/-- 'laws.FnExactCosetsIn': WHATEVER THE INPUT: true; the input reads as it did. -/
def fnExactCosetsInSpec : ChangeSpec := { name := "fnExactCosetsIn", fn := fun _ => fun
  | [d1, d2] => { results := [.lit (.bool true)], args := [d1, d2] }
  | _ => none }
def fnExactCosetsInRow : OpenClaim := { program := "ytapcfojnljnoaaa", sum := "fa94aa5f13a46d0fcf8c585ed3196af2baa1f59cd4fbb9a933057bfc17bfaa58", func := "loop.example/g00894/laws.FnExactCosetsIn", spec := "fnExactCosetsIn", inPlace := ["internal/bytealg.Compare"], unfollowed := true, recurses := true, plainKeys := false, apart := false }
def FnExactCosetsInSaid : Prop := fnExactCosetsInRow.holds Try.pinned (OpenSpec.ofChange fnExactCosetsInSpec)

/-- ITS FALSE NEIGHBOUR: 'it returns false'. Refute it at one input. -/
def fnExactCosetsInWrong : ChangeSpec := { name := "fnExactCosetsIn", fn := fun _ => fun
  | [d1, d2] => { results := [.lit (.bool false)], args := [d1, d2] }
  | _ => none }
def FnExactCosetsInWrongFalsely : Prop := fnExactCosetsInRow.holds Try.pinned (OpenSpec.ofChange fnExactCosetsInWrong)

/-- 'laws.FnExactOrbitsOf': WHATEVER THE INPUT: true; the input reads as it did. -/
def fnExactOrbitsOfSpec : ChangeSpec := { name := "fnExactOrbitsOf", fn := fun _ => fun
  | [d1, d2] => { results := [.lit (.bool true)], args := [d1, d2] }
  | _ => none }
def fnExactOrbitsOfRow : OpenClaim := { program := "ytapcfojnljnoaaa", sum := "fa94aa5f13a46d0fcf8c585ed3196af2baa1f59cd4fbb9a933057bfc17bfaa58", func := "loop.example/g00894/laws.FnExactOrbitsOf", spec := "fnExactOrbitsOf", recurses := true, plainKeys := false, apart := false }
def FnExactOrbitsOfSaid : Prop := fnExactOrbitsOfRow.holds Try.pinned (OpenSpec.ofChange fnExactOrbitsOfSpec)

/-- ITS FALSE NEIGHBOUR: 'it returns false'. Refute it at one input. -/
def fnExactOrbitsOfWrong : ChangeSpec := { name := "fnExactOrbitsOf", fn := fun _ => fun
  | [d1, d2] => { results := [.lit (.bool false)], args := [d1, d2] }
  | _ => none }
def FnExactOrbitsOfWrongFalsely : Prop := fnExactOrbitsOfRow.holds Try.pinned (OpenSpec.ofChange fnExactOrbitsOfWrong)

/-- 'laws.FnClosed': WHATEVER THE INPUT: true; the input reads as it did. -/
def fnClosedSpec : ChangeSpec := { name := "fnClosed", fn := fun _ => fun
  | [d1, d2] => { results := [.lit (.bool true)], args := [d1, d2] }
  | _ => none }
def fnClosedRow : OpenClaim := { program := "ytapcfojnljnoaaa", sum := "fa94aa5f13a46d0fcf8c585ed3196af2baa1f59cd4fbb9a933057bfc17bfaa58", func := "loop.example/g00894/laws.FnClosed", spec := "fnClosed", inPlace := ["internal/bytealg.Compare"], unfollowed := true, recurses := true, plainKeys := false, apart := false }
def FnClosedSaid : Prop := fnClosedRow.holds Try.pinned (OpenSpec.ofChange fnClosedSpec)

/-- ITS FALSE NEIGHBOUR: 'it returns false'. Refute it at one input. -/
def fnClosedWrong : ChangeSpec := { name := "fnClosed", fn := fun _ => fun
  | [d1, d2] => { results := [.lit (.bool false)], args := [d1, d2] }
  | _ => none }
def FnClosedWrongFalsely : Prop := fnClosedRow.holds Try.pinned (OpenSpec.ofChange fnClosedWrong)

/-- 'laws.FnCosets': WHATEVER THE INPUT: true; the input reads as it did. -/
def fnCosetsSpec : ChangeSpec := { name := "fnCosets", fn := fun _ => fun
  | [d1, d2] => { results := [.lit (.bool true)], args := [d1, d2] }
  | _ => none }
def fnCosetsRow : OpenClaim := { program := "ytapcfojnljnoaaa", sum := "fa94aa5f13a46d0fcf8c585ed3196af2baa1f59cd4fbb9a933057bfc17bfaa58", func := "loop.example/g00894/laws.FnCosets", spec := "fnCosets", inPlace := ["internal/bytealg.Compare"], unfollowed := true, recurses := true, plainKeys := false, apart := false }
def FnCosetsSaid : Prop := fnCosetsRow.holds Try.pinned (OpenSpec.ofChange fnCosetsSpec)

/-- ITS FALSE NEIGHBOUR: 'it returns false'. Refute it at one input. -/
def fnCosetsWrong : ChangeSpec := { name := "fnCosets", fn := fun _ => fun
  | [d1, d2] => { results := [.lit (.bool false)], args := [d1, d2] }
  | _ => none }
def FnCosetsWrongFalsely : Prop := fnCosetsRow.holds Try.pinned (OpenSpec.ofChange fnCosetsWrong)

/- THE SECOND FORM. 'bulk': how many values and letters a reading holds, each counted each time it is reached (what is shared counts as often as it is met; a slice's spare places count too). A statement '..UptoSaid' is the law's where the arguments, and the package variables that the reading takes, are together of bulk at most 1048576: NARROWER than '..Said'. Prove '..Said' where nothing that the law and all that it calls make is longer than what came in: it says more and counts as full. Else prove '..UptoSaid'. A law counts once. -/
mutual
def uptoBulk {H : Type} : DataW H → Nat
  | .lit (.string bytes) => bytes.length + 1
  | .lit _ => 1
  | .nil => 1
  | .ptr d => uptoBulk d + 1
  | .slice elems spare => uptoBulkAll elems + uptoBulkAll spare + 1
  | .agg parts => uptoBulkAll parts + 1
  | .iface _ d => uptoBulk d + 1
  | .map entries => uptoBulkEntries entries + 1
  | .held _ => 1
def uptoBulkAll {H : Type} : List (DataW H) → Nat
  | [] => 0
  | d :: r => uptoBulk d + uptoBulkAll r
def uptoBulkEntries {H : Type} : List (Lit × DataW H) → Nat
  | [] => 0
  | x :: r => uptoBulkEntry x + uptoBulkEntries r
def uptoBulkEntry {H : Type} : Lit × DataW H → Nat
  | (.string bytes, d) => bytes.length + uptoBulk d + 1
  | (_, d) => uptoBulk d + 1
 end
def uptoSmall : (H : Type) → List (DataW H) → Bool := fun _ ds => decide (uptoBulkAll ds ≤ 1048576)
def OpenSpec.upto (s : _root_.Go.ChangeSpec) : _root_.Go.OpenSpec := { _root_.Go.OpenSpec.ofChange s with cond := some uptoSmall }

/-- 'laws.FnExactGoodRows', WHERE WHAT IT READS IS OF BULK AT MOST 1048576: true; the input reads as it did. -/
def fnExactGoodRowsUptoRow : OpenClaim := { program := "ytapcfojnljnoaaa", sum := "fa94aa5f13a46d0fcf8c585ed3196af2baa1f59cd4fbb9a933057bfc17bfaa58", func := "loop.example/g00894/laws.FnExactGoodRows", spec := "fnExactGoodRows", plainKeys := false, apart := false, narrowed := true }
def FnExactGoodRowsUptoSaid : Prop := fnExactGoodRowsUptoRow.holds Try.pinned (OpenSpec.upto fnExactGoodRowsSpec)

/-- 'laws.FnExactEvenOnes', WHERE WHAT IT READS IS OF BULK AT MOST 1048576: true; the input reads as it did. -/
def fnExactEvenOnesUptoRow : OpenClaim := { program := "ytapcfojnljnoaaa", sum := "fa94aa5f13a46d0fcf8c585ed3196af2baa1f59cd4fbb9a933057bfc17bfaa58", func := "loop.example/g00894/laws.FnExactEvenOnes", spec := "fnExactEvenOnes", plainKeys := false, apart := false, narrowed := true }
def FnExactEvenOnesUptoSaid : Prop := fnExactEvenOnesUptoRow.holds Try.pinned (OpenSpec.upto fnExactEvenOnesSpec)

/-- 'laws.FnExactLeftTimes', WHERE WHAT IT READS IS OF BULK AT MOST 1048576: true; the input reads as it did. -/
def fnExactLeftTimesUptoRow : OpenClaim := { program := "ytapcfojnljnoaaa", sum := "fa94aa5f13a46d0fcf8c585ed3196af2baa1f59cd4fbb9a933057bfc17bfaa58", func := "loop.example/g00894/laws.FnExactLeftTimes", spec := "fnExactLeftTimes", plainKeys := false, apart := false, narrowed := true }
def FnExactLeftTimesUptoSaid : Prop := fnExactLeftTimesUptoRow.holds Try.pinned (OpenSpec.upto fnExactLeftTimesSpec)

/-- 'laws.FnExactSortRows', WHERE WHAT IT READS IS OF BULK AT MOST 1048576: true; the input reads as it did. -/
def fnExactSortRowsUptoRow : OpenClaim := { program := "ytapcfojnljnoaaa", sum := "fa94aa5f13a46d0fcf8c585ed3196af2baa1f59cd4fbb9a933057bfc17bfaa58", func := "loop.example/g00894/laws.FnExactSortRows", spec := "fnExactSortRows", recurses := true, plainKeys := false, apart := false, narrowed := true }
def FnExactSortRowsUptoSaid : Prop := fnExactSortRowsUptoRow.holds Try.pinned (OpenSpec.upto fnExactSortRowsSpec)

/-- 'laws.FnExactCloseRows', WHERE WHAT IT READS IS OF BULK AT MOST 1048576: true; the input reads as it did. -/
def fnExactCloseRowsUptoRow : OpenClaim := { program := "ytapcfojnljnoaaa", sum := "fa94aa5f13a46d0fcf8c585ed3196af2baa1f59cd4fbb9a933057bfc17bfaa58", func := "loop.example/g00894/laws.FnExactCloseRows", spec := "fnExactCloseRows", inPlace := ["internal/bytealg.Compare"], unfollowed := true, recurses := true, plainKeys := false, apart := false, narrowed := true }
def FnExactCloseRowsUptoSaid : Prop := fnExactCloseRowsUptoRow.holds Try.pinned (OpenSpec.upto fnExactCloseRowsSpec)

/-- 'laws.FnExactIsGroup', WHERE WHAT IT READS IS OF BULK AT MOST 1048576: true; the input reads as it did. -/
def fnExactIsGroupUptoRow : OpenClaim := { program := "ytapcfojnljnoaaa", sum := "fa94aa5f13a46d0fcf8c585ed3196af2baa1f59cd4fbb9a933057bfc17bfaa58", func := "loop.example/g00894/laws.FnExactIsGroup", spec := "fnExactIsGroup", plainKeys := false, apart := false, narrowed := true }
def FnExactIsGroupUptoSaid : Prop := fnExactIsGroupUptoRow.holds Try.pinned (OpenSpec.upto fnExactIsGroupSpec)

/-- 'laws.FnExactCosetOf', WHERE WHAT IT READS IS OF BULK AT MOST 1048576: true; the input reads as it did. -/
def fnExactCosetOfUptoRow : OpenClaim := { program := "ytapcfojnljnoaaa", sum := "fa94aa5f13a46d0fcf8c585ed3196af2baa1f59cd4fbb9a933057bfc17bfaa58", func := "loop.example/g00894/laws.FnExactCosetOf", spec := "fnExactCosetOf", inPlace := ["internal/bytealg.Compare"], unfollowed := true, recurses := true, plainKeys := false, apart := false, narrowed := true }
def FnExactCosetOfUptoSaid : Prop := fnExactCosetOfUptoRow.holds Try.pinned (OpenSpec.upto fnExactCosetOfSpec)

/-- 'laws.FnExactCosetsIn', WHERE WHAT IT READS IS OF BULK AT MOST 1048576: true; the input reads as it did. -/
def fnExactCosetsInUptoRow : OpenClaim := { program := "ytapcfojnljnoaaa", sum := "fa94aa5f13a46d0fcf8c585ed3196af2baa1f59cd4fbb9a933057bfc17bfaa58", func := "loop.example/g00894/laws.FnExactCosetsIn", spec := "fnExactCosetsIn", inPlace := ["internal/bytealg.Compare"], unfollowed := true, recurses := true, plainKeys := false, apart := false, narrowed := true }
def FnExactCosetsInUptoSaid : Prop := fnExactCosetsInUptoRow.holds Try.pinned (OpenSpec.upto fnExactCosetsInSpec)

/-- 'laws.FnExactOrbitsOf', WHERE WHAT IT READS IS OF BULK AT MOST 1048576: true; the input reads as it did. -/
def fnExactOrbitsOfUptoRow : OpenClaim := { program := "ytapcfojnljnoaaa", sum := "fa94aa5f13a46d0fcf8c585ed3196af2baa1f59cd4fbb9a933057bfc17bfaa58", func := "loop.example/g00894/laws.FnExactOrbitsOf", spec := "fnExactOrbitsOf", recurses := true, plainKeys := false, apart := false, narrowed := true }
def FnExactOrbitsOfUptoSaid : Prop := fnExactOrbitsOfUptoRow.holds Try.pinned (OpenSpec.upto fnExactOrbitsOfSpec)

/-- 'laws.FnClosed', WHERE WHAT IT READS IS OF BULK AT MOST 1048576: true; the input reads as it did. -/
def fnClosedUptoRow : OpenClaim := { program := "ytapcfojnljnoaaa", sum := "fa94aa5f13a46d0fcf8c585ed3196af2baa1f59cd4fbb9a933057bfc17bfaa58", func := "loop.example/g00894/laws.FnClosed", spec := "fnClosed", inPlace := ["internal/bytealg.Compare"], unfollowed := true, recurses := true, plainKeys := false, apart := false, narrowed := true }
def FnClosedUptoSaid : Prop := fnClosedUptoRow.holds Try.pinned (OpenSpec.upto fnClosedSpec)

/-- 'laws.FnCosets', WHERE WHAT IT READS IS OF BULK AT MOST 1048576: true; the input reads as it did. -/
def fnCosetsUptoRow : OpenClaim := { program := "ytapcfojnljnoaaa", sum := "fa94aa5f13a46d0fcf8c585ed3196af2baa1f59cd4fbb9a933057bfc17bfaa58", func := "loop.example/g00894/laws.FnCosets", spec := "fnCosets", inPlace := ["internal/bytealg.Compare"], unfollowed := true, recurses := true, plainKeys := false, apart := false, narrowed := true }
def FnCosetsUptoSaid : Prop := fnCosetsUptoRow.holds Try.pinned (OpenSpec.upto fnCosetsSpec)

end Rows
end Go.Proofs.Ytapcfojnljnoaaa
