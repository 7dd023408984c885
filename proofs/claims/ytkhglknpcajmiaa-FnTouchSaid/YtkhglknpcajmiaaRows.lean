/-
  No cell of these rows narrows 'for every input' (looked for: loops, veiled, ifaces, maps, wideKeys, modest, calm, conditions, laid).
  DERIVED. THE GIVEN ROWS OF THIS SEAT. 13 by the template 'for every input the law returns true; each argument reads behind the call as it read before'; 0 by the template 'total and deterministic' (their statements: YtkhglknpcajmiaaTotals.lean).
  GIVEN WITH THE SEED: the statements are not yours to turn. If you find one false, say at which input.
  Laid BY PROGRAM, IN A SANDBOX (cutbox-rows.mjs): the forced cells as the released guide's own fill.sh prints them over the translation 5d8df742a478d480… (all of the seat's roots in one cut). By AI agents, Wed Nov 11 2026. No macro, syntax, notation, axiom, sorry.
-/
import Derived.Test.YtkhglknpcajmiaaChecked
import GoSem.Claim
import GoSem.ClaimJoined
import GoSem.ClaimMapViews
import Derived.JoinedTies
import Derived.KernelRfl
namespace Go.Proofs.Ytkhglknpcajmiaa
/- THE CELL 'sum', in the pinned program and in every row, IS THE sha256 OF THE DUMP (.gsa) THAT YtkhglknpcajmiaaProg.lean LOADS. Nothing in Lean hashes anything: it is a label: what it is worth is what the hold of that sum in a sandbox is worth. -/
noncomputable def Try.pinned : Pinned := { name := "ytkhglknpcajmiaa", sum := "5d8df742a478d48053b1121b49066b408b834db3bc7ad256ecdd7a9232b7245c", checked := Try.checked }
namespace Rows
def none {H : Type} : Left H := { results := [], args := [] }

/-- 'laws.FnCalls': WHATEVER THE INPUT: true; the input reads as it did. -/
def fnCallsSpec : ChangeSpec := { name := "fnCalls", fn := fun _ => fun
  | [d1, d2] => { results := [.lit (.bool true)], args := [d1, d2] }
  | _ => none }
def fnCallsRow : OpenClaim := { program := "ytkhglknpcajmiaa", sum := "5d8df742a478d48053b1121b49066b408b834db3bc7ad256ecdd7a9232b7245c", func := "loop.example/g00894/laws.FnCalls", spec := "fnCalls", recurses := true, apart := false }
def FnCallsSaid : Prop := fnCallsRow.holds Try.pinned (OpenSpec.ofChange fnCallsSpec)

/-- ITS FALSE NEIGHBOUR: 'it returns false'. Refute it at one input. -/
def fnCallsWrong : ChangeSpec := { name := "fnCalls", fn := fun _ => fun
  | [d1, d2] => { results := [.lit (.bool false)], args := [d1, d2] }
  | _ => none }
def FnCallsWrongFalsely : Prop := fnCallsRow.holds Try.pinned (OpenSpec.ofChange fnCallsWrong)

/-- 'laws.FnTouch': WHATEVER THE INPUT: true; the input reads as it did. -/
def fnTouchSpec : ChangeSpec := { name := "fnTouch", fn := fun _ => fun
  | [d1, d2] => { results := [.lit (.bool true)], args := [d1, d2] }
  | _ => none }
def fnTouchRow : OpenClaim := { program := "ytkhglknpcajmiaa", sum := "5d8df742a478d48053b1121b49066b408b834db3bc7ad256ecdd7a9232b7245c", func := "loop.example/g00894/laws.FnTouch", spec := "fnTouch", unfollowed := true, recurses := true, apart := false }
def FnTouchSaid : Prop := fnTouchRow.holds Try.pinned (OpenSpec.ofChange fnTouchSpec)

/-- ITS FALSE NEIGHBOUR: 'it returns false'. Refute it at one input. -/
def fnTouchWrong : ChangeSpec := { name := "fnTouch", fn := fun _ => fun
  | [d1, d2] => { results := [.lit (.bool false)], args := [d1, d2] }
  | _ => none }
def FnTouchWrongFalsely : Prop := fnTouchRow.holds Try.pinned (OpenSpec.ofChange fnTouchWrong)

/-- 'laws.FnTurned': WHATEVER THE INPUT: true; the input reads as it did. -/
def fnTurnedSpec : ChangeSpec := { name := "fnTurned", fn := fun _ => fun
  | [d1, d2] => { results := [.lit (.bool true)], args := [d1, d2] }
  | _ => none }
def fnTurnedRow : OpenClaim := { program := "ytkhglknpcajmiaa", sum := "5d8df742a478d48053b1121b49066b408b834db3bc7ad256ecdd7a9232b7245c", func := "loop.example/g00894/laws.FnTurned", spec := "fnTurned", unfollowed := true, recurses := true, apart := false }
def FnTurnedSaid : Prop := fnTurnedRow.holds Try.pinned (OpenSpec.ofChange fnTurnedSpec)

/-- ITS FALSE NEIGHBOUR: 'it returns false'. Refute it at one input. -/
def fnTurnedWrong : ChangeSpec := { name := "fnTurned", fn := fun _ => fun
  | [d1, d2] => { results := [.lit (.bool false)], args := [d1, d2] }
  | _ => none }
def FnTurnedWrongFalsely : Prop := fnTurnedRow.holds Try.pinned (OpenSpec.ofChange fnTurnedWrong)

/-- 'laws.FnBackwards': WHATEVER THE INPUT: true; the input reads as it did. -/
def fnBackwardsSpec : ChangeSpec := { name := "fnBackwards", fn := fun _ => fun
  | [d1, d2] => { results := [.lit (.bool true)], args := [d1, d2] }
  | _ => none }
def fnBackwardsRow : OpenClaim := { program := "ytkhglknpcajmiaa", sum := "5d8df742a478d48053b1121b49066b408b834db3bc7ad256ecdd7a9232b7245c", func := "loop.example/g00894/laws.FnBackwards", spec := "fnBackwards", unfollowed := true, recurses := true, apart := false }
def FnBackwardsSaid : Prop := fnBackwardsRow.holds Try.pinned (OpenSpec.ofChange fnBackwardsSpec)

/-- ITS FALSE NEIGHBOUR: 'it returns false'. Refute it at one input. -/
def fnBackwardsWrong : ChangeSpec := { name := "fnBackwards", fn := fun _ => fun
  | [d1, d2] => { results := [.lit (.bool false)], args := [d1, d2] }
  | _ => none }
def FnBackwardsWrongFalsely : Prop := fnBackwardsRow.holds Try.pinned (OpenSpec.ofChange fnBackwardsWrong)

/-- 'laws.FnExactGoodTouch': WHATEVER THE INPUT: true; the input reads as it did. -/
def fnExactGoodTouchSpec : ChangeSpec := { name := "fnExactGoodTouch", fn := fun _ => fun
  | [d] => { results := [.lit (.bool true)], args := [d] }
  | _ => none }
def fnExactGoodTouchRow : OpenClaim := { program := "ytkhglknpcajmiaa", sum := "5d8df742a478d48053b1121b49066b408b834db3bc7ad256ecdd7a9232b7245c", func := "loop.example/g00894/laws.FnExactGoodTouch", spec := "fnExactGoodTouch", apart := false }
def FnExactGoodTouchSaid : Prop := fnExactGoodTouchRow.holds Try.pinned (OpenSpec.ofChange fnExactGoodTouchSpec)

/-- ITS FALSE NEIGHBOUR: 'it returns false'. Refute it at one input. -/
def fnExactGoodTouchWrong : ChangeSpec := { name := "fnExactGoodTouch", fn := fun _ => fun
  | [d] => { results := [.lit (.bool false)], args := [d] }
  | _ => none }
def FnExactGoodTouchWrongFalsely : Prop := fnExactGoodTouchRow.holds Try.pinned (OpenSpec.ofChange fnExactGoodTouchWrong)

/-- 'laws.FnExactTouchHeads': WHATEVER THE INPUT: true; the input reads as it did. -/
def fnExactTouchHeadsSpec : ChangeSpec := { name := "fnExactTouchHeads", fn := fun _ => fun
  | [d1, d2, d3] => { results := [.lit (.bool true)], args := [d1, d2, d3] }
  | _ => none }
def fnExactTouchHeadsRow : OpenClaim := { program := "ytkhglknpcajmiaa", sum := "5d8df742a478d48053b1121b49066b408b834db3bc7ad256ecdd7a9232b7245c", func := "loop.example/g00894/laws.FnExactTouchHeads", spec := "fnExactTouchHeads", unfollowed := true, recurses := true, apart := false }
def FnExactTouchHeadsSaid : Prop := fnExactTouchHeadsRow.holds Try.pinned (OpenSpec.ofChange fnExactTouchHeadsSpec)

/-- ITS FALSE NEIGHBOUR: 'it returns false'. Refute it at one input. -/
def fnExactTouchHeadsWrong : ChangeSpec := { name := "fnExactTouchHeads", fn := fun _ => fun
  | [d1, d2, d3] => { results := [.lit (.bool false)], args := [d1, d2, d3] }
  | _ => none }
def FnExactTouchHeadsWrongFalsely : Prop := fnExactTouchHeadsRow.holds Try.pinned (OpenSpec.ofChange fnExactTouchHeadsWrong)

/-- 'laws.FnExactTouchEnd': WHATEVER THE INPUT: true; the input reads as it did. -/
def fnExactTouchEndSpec : ChangeSpec := { name := "fnExactTouchEnd", fn := fun _ => fun
  | [d1, d2, d3] => { results := [.lit (.bool true)], args := [d1, d2, d3] }
  | _ => none }
def fnExactTouchEndRow : OpenClaim := { program := "ytkhglknpcajmiaa", sum := "5d8df742a478d48053b1121b49066b408b834db3bc7ad256ecdd7a9232b7245c", func := "loop.example/g00894/laws.FnExactTouchEnd", spec := "fnExactTouchEnd", unfollowed := true, recurses := true, apart := false }
def FnExactTouchEndSaid : Prop := fnExactTouchEndRow.holds Try.pinned (OpenSpec.ofChange fnExactTouchEndSpec)

/-- ITS FALSE NEIGHBOUR: 'it returns false'. Refute it at one input. -/
def fnExactTouchEndWrong : ChangeSpec := { name := "fnExactTouchEnd", fn := fun _ => fun
  | [d1, d2, d3] => { results := [.lit (.bool false)], args := [d1, d2, d3] }
  | _ => none }
def FnExactTouchEndWrongFalsely : Prop := fnExactTouchEndRow.holds Try.pinned (OpenSpec.ofChange fnExactTouchEndWrong)

/-- 'laws.FnExactTouchRows': WHATEVER THE INPUT: true; the input reads as it did. -/
def fnExactTouchRowsSpec : ChangeSpec := { name := "fnExactTouchRows", fn := fun _ => fun
  | [d1, d2, d3] => { results := [.lit (.bool true)], args := [d1, d2, d3] }
  | _ => none }
def fnExactTouchRowsRow : OpenClaim := { program := "ytkhglknpcajmiaa", sum := "5d8df742a478d48053b1121b49066b408b834db3bc7ad256ecdd7a9232b7245c", func := "loop.example/g00894/laws.FnExactTouchRows", spec := "fnExactTouchRows", unfollowed := true, recurses := true, apart := false }
def FnExactTouchRowsSaid : Prop := fnExactTouchRowsRow.holds Try.pinned (OpenSpec.ofChange fnExactTouchRowsSpec)

/-- ITS FALSE NEIGHBOUR: 'it returns false'. Refute it at one input. -/
def fnExactTouchRowsWrong : ChangeSpec := { name := "fnExactTouchRows", fn := fun _ => fun
  | [d1, d2, d3] => { results := [.lit (.bool false)], args := [d1, d2, d3] }
  | _ => none }
def FnExactTouchRowsWrongFalsely : Prop := fnExactTouchRowsRow.holds Try.pinned (OpenSpec.ofChange fnExactTouchRowsWrong)

/-- 'laws.FnExactIsRound': WHATEVER THE INPUT: true; the input reads as it did. -/
def fnExactIsRoundSpec : ChangeSpec := { name := "fnExactIsRound", fn := fun _ => fun
  | [d1, d2, d3] => { results := [.lit (.bool true)], args := [d1, d2, d3] }
  | _ => none }
def fnExactIsRoundRow : OpenClaim := { program := "ytkhglknpcajmiaa", sum := "5d8df742a478d48053b1121b49066b408b834db3bc7ad256ecdd7a9232b7245c", func := "loop.example/g00894/laws.FnExactIsRound", spec := "fnExactIsRound", unfollowed := true, recurses := true, apart := false }
def FnExactIsRoundSaid : Prop := fnExactIsRoundRow.holds Try.pinned (OpenSpec.ofChange fnExactIsRoundSpec)

/-- ITS FALSE NEIGHBOUR: 'it returns false'. Refute it at one input. -/
def fnExactIsRoundWrong : ChangeSpec := { name := "fnExactIsRound", fn := fun _ => fun
  | [d1, d2, d3] => { results := [.lit (.bool false)], args := [d1, d2, d3] }
  | _ => none }
def FnExactIsRoundWrongFalsely : Prop := fnExactIsRoundRow.holds Try.pinned (OpenSpec.ofChange fnExactIsRoundWrong)

/-- 'laws.FnExactTurnTouch': WHATEVER THE INPUT: true; the input reads as it did. -/
def fnExactTurnTouchSpec : ChangeSpec := { name := "fnExactTurnTouch", fn := fun _ => fun
  | [d1, d2] => { results := [.lit (.bool true)], args := [d1, d2] }
  | _ => none }
def fnExactTurnTouchRow : OpenClaim := { program := "ytkhglknpcajmiaa", sum := "5d8df742a478d48053b1121b49066b408b834db3bc7ad256ecdd7a9232b7245c", func := "loop.example/g00894/laws.FnExactTurnTouch", spec := "fnExactTurnTouch", apart := false }
def FnExactTurnTouchSaid : Prop := fnExactTurnTouchRow.holds Try.pinned (OpenSpec.ofChange fnExactTurnTouchSpec)

/-- ITS FALSE NEIGHBOUR: 'it returns false'. Refute it at one input. -/
def fnExactTurnTouchWrong : ChangeSpec := { name := "fnExactTurnTouch", fn := fun _ => fun
  | [d1, d2] => { results := [.lit (.bool false)], args := [d1, d2] }
  | _ => none }
def FnExactTurnTouchWrongFalsely : Prop := fnExactTurnTouchRow.holds Try.pinned (OpenSpec.ofChange fnExactTurnTouchWrong)

/-- 'laws.FnExactReverseTouch': WHATEVER THE INPUT: true; the input reads as it did. -/
def fnExactReverseTouchSpec : ChangeSpec := { name := "fnExactReverseTouch", fn := fun _ => fun
  | [d] => { results := [.lit (.bool true)], args := [d] }
  | _ => none }
def fnExactReverseTouchRow : OpenClaim := { program := "ytkhglknpcajmiaa", sum := "5d8df742a478d48053b1121b49066b408b834db3bc7ad256ecdd7a9232b7245c", func := "loop.example/g00894/laws.FnExactReverseTouch", spec := "fnExactReverseTouch", apart := false }
def FnExactReverseTouchSaid : Prop := fnExactReverseTouchRow.holds Try.pinned (OpenSpec.ofChange fnExactReverseTouchSpec)

/-- ITS FALSE NEIGHBOUR: 'it returns false'. Refute it at one input. -/
def fnExactReverseTouchWrong : ChangeSpec := { name := "fnExactReverseTouch", fn := fun _ => fun
  | [d] => { results := [.lit (.bool false)], args := [d] }
  | _ => none }
def FnExactReverseTouchWrongFalsely : Prop := fnExactReverseTouchRow.holds Try.pinned (OpenSpec.ofChange fnExactReverseTouchWrong)

/-- 'laws.FnExactLeastTurn': WHATEVER THE INPUT: true; the input reads as it did. -/
def fnExactLeastTurnSpec : ChangeSpec := { name := "fnExactLeastTurn", fn := fun _ => fun
  | [d1, d2] => { results := [.lit (.bool true)], args := [d1, d2] }
  | _ => none }
def fnExactLeastTurnRow : OpenClaim := { program := "ytkhglknpcajmiaa", sum := "5d8df742a478d48053b1121b49066b408b834db3bc7ad256ecdd7a9232b7245c", func := "loop.example/g00894/laws.FnExactLeastTurn", spec := "fnExactLeastTurn", apart := false }
def FnExactLeastTurnSaid : Prop := fnExactLeastTurnRow.holds Try.pinned (OpenSpec.ofChange fnExactLeastTurnSpec)

/-- ITS FALSE NEIGHBOUR: 'it returns false'. Refute it at one input. -/
def fnExactLeastTurnWrong : ChangeSpec := { name := "fnExactLeastTurn", fn := fun _ => fun
  | [d1, d2] => { results := [.lit (.bool false)], args := [d1, d2] }
  | _ => none }
def FnExactLeastTurnWrongFalsely : Prop := fnExactLeastTurnRow.holds Try.pinned (OpenSpec.ofChange fnExactLeastTurnWrong)

/-- 'laws.FnExactCallsIn': WHATEVER THE INPUT: true; the input reads as it did. -/
def fnExactCallsInSpec : ChangeSpec := { name := "fnExactCallsIn", fn := fun _ => fun
  | [d] => { results := [.lit (.bool true)], args := [d] }
  | _ => none }
def fnExactCallsInRow : OpenClaim := { program := "ytkhglknpcajmiaa", sum := "5d8df742a478d48053b1121b49066b408b834db3bc7ad256ecdd7a9232b7245c", func := "loop.example/g00894/laws.FnExactCallsIn", spec := "fnExactCallsIn", apart := false }
def FnExactCallsInSaid : Prop := fnExactCallsInRow.holds Try.pinned (OpenSpec.ofChange fnExactCallsInSpec)

/-- ITS FALSE NEIGHBOUR: 'it returns false'. Refute it at one input. -/
def fnExactCallsInWrong : ChangeSpec := { name := "fnExactCallsIn", fn := fun _ => fun
  | [d] => { results := [.lit (.bool false)], args := [d] }
  | _ => none }
def FnExactCallsInWrongFalsely : Prop := fnExactCallsInRow.holds Try.pinned (OpenSpec.ofChange fnExactCallsInWrong)

/- THE SECOND FORM. 'bulk': how many values and letters a reading holds, each counted each time it is reached (what is shared counts as often as it is met; a slice's spare places count too). A statement '..UptoSaid' is the law's where the arguments, and the package variables that the reading takes, are together of bulk at most 1048576: NARROWER than '..Said'. Prove '..Said' where nothing that the law and all that it calls make is longer than what came in: it says more and counts as full. Else prove '..UptoSaid'. A law counts once. -/
mutual
def uptoBulk {H : Type} : DataW H → Nat
  | .lit (.string bytes) => bytes.length + 1
  | .lit _ => 1
  | .nil => 1
  | .ptr d => uptoBulk d + 1
  | .slice elems spare => uptoBulkAll elems + uptoBulkAll spare + 1
  | .agg parts => uptoBulkAll parts + 1
  | .iface _ d => uptoBulk d + 1
  | .map entries => uptoBulkEntries entries + 1
  | .held _ => 1
def uptoBulkAll {H : Type} : List (DataW H) → Nat
  | [] => 0
  | d :: r => uptoBulk d + uptoBulkAll r
def uptoBulkEntries {H : Type} : List (Lit × DataW H) → Nat
  | [] => 0
  | x :: r => uptoBulkEntry x + uptoBulkEntries r
def uptoBulkEntry {H : Type} : Lit × DataW H → Nat
  | (.string bytes, d) => bytes.length + uptoBulk d + 1
  | (_, d) => uptoBulk d + 1
 end
def uptoSmall : (H : Type) → List (DataW H) → Bool := fun _ ds => decide (uptoBulkAll ds ≤ 1048576)
def OpenSpec.upto (s : _root_.Go.ChangeSpec) : _root_.Go.OpenSpec := { _root_.Go.OpenSpec.ofChange s with cond := some uptoSmall }

/-- 'laws.FnCalls', WHERE WHAT IT READS IS OF BULK AT MOST 1048576: true; the input reads as it did. -/
def fnCallsUptoRow : OpenClaim := { program := "ytkhglknpcajmiaa", sum := "5d8df742a478d48053b1121b49066b408b834db3bc7ad256ecdd7a9232b7245c", func := "loop.example/g00894/laws.FnCalls", spec := "fnCalls", recurses := true, apart := false, narrowed := true }
def FnCallsUptoSaid : Prop := fnCallsUptoRow.holds Try.pinned (OpenSpec.upto fnCallsSpec)

/-- 'laws.FnTouch', WHERE WHAT IT READS IS OF BULK AT MOST 1048576: true; the input reads as it did. -/
def fnTouchUptoRow : OpenClaim := { program := "ytkhglknpcajmiaa", sum := "5d8df742a478d48053b1121b49066b408b834db3bc7ad256ecdd7a9232b7245c", func := "loop.example/g00894/laws.FnTouch", spec := "fnTouch", unfollowed := true, recurses := true, apart := false, narrowed := true }
def FnTouchUptoSaid : Prop := fnTouchUptoRow.holds Try.pinned (OpenSpec.upto fnTouchSpec)

/-- 'laws.FnTurned', WHERE WHAT IT READS IS OF BULK AT MOST 1048576: true; the input reads as it did. -/
def fnTurnedUptoRow : OpenClaim := { program := "ytkhglknpcajmiaa", sum := "5d8df742a478d48053b1121b49066b408b834db3bc7ad256ecdd7a9232b7245c", func := "loop.example/g00894/laws.FnTurned", spec := "fnTurned", unfollowed := true, recurses := true, apart := false, narrowed := true }
def FnTurnedUptoSaid : Prop := fnTurnedUptoRow.holds Try.pinned (OpenSpec.upto fnTurnedSpec)

/-- 'laws.FnBackwards', WHERE WHAT IT READS IS OF BULK AT MOST 1048576: true; the input reads as it did. -/
def fnBackwardsUptoRow : OpenClaim := { program := "ytkhglknpcajmiaa", sum := "5d8df742a478d48053b1121b49066b408b834db3bc7ad256ecdd7a9232b7245c", func := "loop.example/g00894/laws.FnBackwards", spec := "fnBackwards", unfollowed := true, recurses := true, apart := false, narrowed := true }
def FnBackwardsUptoSaid : Prop := fnBackwardsUptoRow.holds Try.pinned (OpenSpec.upto fnBackwardsSpec)

/-- 'laws.FnExactGoodTouch', WHERE WHAT IT READS IS OF BULK AT MOST 1048576: true; the input reads as it did. -/
def fnExactGoodTouchUptoRow : OpenClaim := { program := "ytkhglknpcajmiaa", sum := "5d8df742a478d48053b1121b49066b408b834db3bc7ad256ecdd7a9232b7245c", func := "loop.example/g00894/laws.FnExactGoodTouch", spec := "fnExactGoodTouch", apart := false, narrowed := true }
def FnExactGoodTouchUptoSaid : Prop := fnExactGoodTouchUptoRow.holds Try.pinned (OpenSpec.upto fnExactGoodTouchSpec)

/-- 'laws.FnExactTouchHeads', WHERE WHAT IT READS IS OF BULK AT MOST 1048576: true; the input reads as it did. -/
def fnExactTouchHeadsUptoRow : OpenClaim := { program := "ytkhglknpcajmiaa", sum := "5d8df742a478d48053b1121b49066b408b834db3bc7ad256ecdd7a9232b7245c", func := "loop.example/g00894/laws.FnExactTouchHeads", spec := "fnExactTouchHeads", unfollowed := true, recurses := true, apart := false, narrowed := true }
def FnExactTouchHeadsUptoSaid : Prop := fnExactTouchHeadsUptoRow.holds Try.pinned (OpenSpec.upto fnExactTouchHeadsSpec)

/-- 'laws.FnExactTouchEnd', WHERE WHAT IT READS IS OF BULK AT MOST 1048576: true; the input reads as it did. -/
def fnExactTouchEndUptoRow : OpenClaim := { program := "ytkhglknpcajmiaa", sum := "5d8df742a478d48053b1121b49066b408b834db3bc7ad256ecdd7a9232b7245c", func := "loop.example/g00894/laws.FnExactTouchEnd", spec := "fnExactTouchEnd", unfollowed := true, recurses := true, apart := false, narrowed := true }
def FnExactTouchEndUptoSaid : Prop := fnExactTouchEndUptoRow.holds Try.pinned (OpenSpec.upto fnExactTouchEndSpec)

/-- 'laws.FnExactTouchRows', WHERE WHAT IT READS IS OF BULK AT MOST 1048576: true; the input reads as it did. -/
def fnExactTouchRowsUptoRow : OpenClaim := { program := "ytkhglknpcajmiaa", sum := "5d8df742a478d48053b1121b49066b408b834db3bc7ad256ecdd7a9232b7245c", func := "loop.example/g00894/laws.FnExactTouchRows", spec := "fnExactTouchRows", unfollowed := true, recurses := true, apart := false, narrowed := true }
def FnExactTouchRowsUptoSaid : Prop := fnExactTouchRowsUptoRow.holds Try.pinned (OpenSpec.upto fnExactTouchRowsSpec)

/-- 'laws.FnExactIsRound', WHERE WHAT IT READS IS OF BULK AT MOST 1048576: true; the input reads as it did. -/
def fnExactIsRoundUptoRow : OpenClaim := { program := "ytkhglknpcajmiaa", sum := "5d8df742a478d48053b1121b49066b408b834db3bc7ad256ecdd7a9232b7245c", func := "loop.example/g00894/laws.FnExactIsRound", spec := "fnExactIsRound", unfollowed := true, recurses := true, apart := false, narrowed := true }
def FnExactIsRoundUptoSaid : Prop := fnExactIsRoundUptoRow.holds Try.pinned (OpenSpec.upto fnExactIsRoundSpec)

/-- 'laws.FnExactTurnTouch', WHERE WHAT IT READS IS OF BULK AT MOST 1048576: true; the input reads as it did. -/
def fnExactTurnTouchUptoRow : OpenClaim := { program := "ytkhglknpcajmiaa", sum := "5d8df742a478d48053b1121b49066b408b834db3bc7ad256ecdd7a9232b7245c", func := "loop.example/g00894/laws.FnExactTurnTouch", spec := "fnExactTurnTouch", apart := false, narrowed := true }
def FnExactTurnTouchUptoSaid : Prop := fnExactTurnTouchUptoRow.holds Try.pinned (OpenSpec.upto fnExactTurnTouchSpec)

/-- 'laws.FnExactReverseTouch', WHERE WHAT IT READS IS OF BULK AT MOST 1048576: true; the input reads as it did. -/
def fnExactReverseTouchUptoRow : OpenClaim := { program := "ytkhglknpcajmiaa", sum := "5d8df742a478d48053b1121b49066b408b834db3bc7ad256ecdd7a9232b7245c", func := "loop.example/g00894/laws.FnExactReverseTouch", spec := "fnExactReverseTouch", apart := false, narrowed := true }
def FnExactReverseTouchUptoSaid : Prop := fnExactReverseTouchUptoRow.holds Try.pinned (OpenSpec.upto fnExactReverseTouchSpec)

/-- 'laws.FnExactLeastTurn', WHERE WHAT IT READS IS OF BULK AT MOST 1048576: true; the input reads as it did. -/
def fnExactLeastTurnUptoRow : OpenClaim := { program := "ytkhglknpcajmiaa", sum := "5d8df742a478d48053b1121b49066b408b834db3bc7ad256ecdd7a9232b7245c", func := "loop.example/g00894/laws.FnExactLeastTurn", spec := "fnExactLeastTurn", apart := false, narrowed := true }
def FnExactLeastTurnUptoSaid : Prop := fnExactLeastTurnUptoRow.holds Try.pinned (OpenSpec.upto fnExactLeastTurnSpec)

/-- 'laws.FnExactCallsIn', WHERE WHAT IT READS IS OF BULK AT MOST 1048576: true; the input reads as it did. -/
def fnExactCallsInUptoRow : OpenClaim := { program := "ytkhglknpcajmiaa", sum := "5d8df742a478d48053b1121b49066b408b834db3bc7ad256ecdd7a9232b7245c", func := "loop.example/g00894/laws.FnExactCallsIn", spec := "fnExactCallsIn", apart := false, narrowed := true }
def FnExactCallsInUptoSaid : Prop := fnExactCallsInUptoRow.holds Try.pinned (OpenSpec.upto fnExactCallsInSpec)

end Rows
end Go.Proofs.Ytkhglknpcajmiaa
