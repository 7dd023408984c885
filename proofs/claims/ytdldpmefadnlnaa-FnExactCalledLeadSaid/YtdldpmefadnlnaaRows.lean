/-
  No cell of these rows narrows 'for every input' (looked for: loops, veiled, ifaces, maps, wideKeys, modest, calm, conditions, laid).
  DERIVED. THE GIVEN ROWS OF THIS SEAT. 9 by the template 'for every input the law returns true; each argument reads behind the call as it read before'; 0 by the template 'total and deterministic' (their statements: YtdldpmefadnlnaaTotals.lean).
  GIVEN WITH THE SEED: the statements are not yours to turn. If you find one false, say at which input.
  Laid BY PROGRAM, IN A SANDBOX (cutbox-rows.mjs): the forced cells as the released guide's own fill.sh prints them over the translation 2b49484495db8506… (all of the seat's roots in one cut). By AI agents, Wed Nov 11 2026. No macro, syntax, notation, axiom, sorry.
-/
import Derived.Test.YtdldpmefadnlnaaChecked
import GoSem.Claim
import GoSem.ClaimJoined
import GoSem.ClaimMapViews
import Derived.JoinedTies
import Derived.KernelRfl
namespace Go.Proofs.Ytdldpmefadnlnaa
/- THE CELL 'sum', in the pinned program and in every row, IS THE sha256 OF THE DUMP (.gsa) THAT YtdldpmefadnlnaaProg.lean LOADS. Nothing in Lean hashes anything: it is a label: what it is worth is what the hold of that sum in a sandbox is worth. -/
noncomputable def Try.pinned : Pinned := { name := "ytdldpmefadnlnaa", sum := "2b49484495db85063a6906a51b8f84ecaea021744d5164d1ed971bbc04d28def", checked := Try.checked }
namespace Rows
def none {H : Type} : Left H := { results := [], args := [] }

/-- 'laws.FnExactGoodCalls': WHATEVER THE INPUT: true; the input reads as it did. -/
def fnExactGoodCallsSpec : ChangeSpec := { name := "fnExactGoodCalls", fn := fun _ => fun
  | [d1, d2] => { results := [.lit (.bool true)], args := [d1, d2] }
  | _ => none }
def fnExactGoodCallsRow : OpenClaim := { program := "ytdldpmefadnlnaa", sum := "2b49484495db85063a6906a51b8f84ecaea021744d5164d1ed971bbc04d28def", func := "loop.example/g00894/laws.FnExactGoodCalls", spec := "fnExactGoodCalls", apart := false }
def FnExactGoodCallsSaid : Prop := fnExactGoodCallsRow.holds Try.pinned (OpenSpec.ofChange fnExactGoodCallsSpec)

/-- ITS FALSE NEIGHBOUR: 'it returns false'. Refute it at one input. -/
def fnExactGoodCallsWrong : ChangeSpec := { name := "fnExactGoodCalls", fn := fun _ => fun
  | [d1, d2] => { results := [.lit (.bool false)], args := [d1, d2] }
  | _ => none }
def FnExactGoodCallsWrongFalsely : Prop := fnExactGoodCallsRow.holds Try.pinned (OpenSpec.ofChange fnExactGoodCallsWrong)

/-- 'laws.FnExactCalledLead': WHATEVER THE INPUT: true; the input reads as it did. -/
def fnExactCalledLeadSpec : ChangeSpec := { name := "fnExactCalledLead", fn := fun _ => fun
  | [d1, d2, d3] => { results := [.lit (.bool true)], args := [d1, d2, d3] }
  | _ => none }
def fnExactCalledLeadRow : OpenClaim := { program := "ytdldpmefadnlnaa", sum := "2b49484495db85063a6906a51b8f84ecaea021744d5164d1ed971bbc04d28def", func := "loop.example/g00894/laws.FnExactCalledLead", spec := "fnExactCalledLead", apart := false }
def FnExactCalledLeadSaid : Prop := fnExactCalledLeadRow.holds Try.pinned (OpenSpec.ofChange fnExactCalledLeadSpec)

/-- ITS FALSE NEIGHBOUR: 'it returns false'. Refute it at one input. -/
def fnExactCalledLeadWrong : ChangeSpec := { name := "fnExactCalledLead", fn := fun _ => fun
  | [d1, d2, d3] => { results := [.lit (.bool false)], args := [d1, d2, d3] }
  | _ => none }
def FnExactCalledLeadWrongFalsely : Prop := fnExactCalledLeadRow.holds Try.pinned (OpenSpec.ofChange fnExactCalledLeadWrong)

/-- 'laws.FnExactCallHead': WHATEVER THE INPUT: true; the input reads as it did. -/
def fnExactCallHeadSpec : ChangeSpec := { name := "fnExactCallHead", fn := fun _ => fun
  | [d1, d2, d3] => { results := [.lit (.bool true)], args := [d1, d2, d3] }
  | _ => none }
def fnExactCallHeadRow : OpenClaim := { program := "ytdldpmefadnlnaa", sum := "2b49484495db85063a6906a51b8f84ecaea021744d5164d1ed971bbc04d28def", func := "loop.example/g00894/laws.FnExactCallHead", spec := "fnExactCallHead", apart := false }
def FnExactCallHeadSaid : Prop := fnExactCallHeadRow.holds Try.pinned (OpenSpec.ofChange fnExactCallHeadSpec)

/-- ITS FALSE NEIGHBOUR: 'it returns false'. Refute it at one input. -/
def fnExactCallHeadWrong : ChangeSpec := { name := "fnExactCallHead", fn := fun _ => fun
  | [d1, d2, d3] => { results := [.lit (.bool false)], args := [d1, d2, d3] }
  | _ => none }
def FnExactCallHeadWrongFalsely : Prop := fnExactCallHeadRow.holds Try.pinned (OpenSpec.ofChange fnExactCallHeadWrong)

/-- 'laws.FnExactCallRow': WHATEVER THE INPUT: true; the input reads as it did. -/
def fnExactCallRowSpec : ChangeSpec := { name := "fnExactCallRow", fn := fun _ => fun
  | [d1, d2, d3] => { results := [.lit (.bool true)], args := [d1, d2, d3] }
  | _ => none }
def fnExactCallRowRow : OpenClaim := { program := "ytdldpmefadnlnaa", sum := "2b49484495db85063a6906a51b8f84ecaea021744d5164d1ed971bbc04d28def", func := "loop.example/g00894/laws.FnExactCallRow", spec := "fnExactCallRow", apart := false }
def FnExactCallRowSaid : Prop := fnExactCallRowRow.holds Try.pinned (OpenSpec.ofChange fnExactCallRowSpec)

/-- ITS FALSE NEIGHBOUR: 'it returns false'. Refute it at one input. -/
def fnExactCallRowWrong : ChangeSpec := { name := "fnExactCallRow", fn := fun _ => fun
  | [d1, d2, d3] => { results := [.lit (.bool false)], args := [d1, d2, d3] }
  | _ => none }
def FnExactCallRowWrongFalsely : Prop := fnExactCallRowRow.holds Try.pinned (OpenSpec.ofChange fnExactCallRowWrong)

/-- 'laws.FnExactCallOrder': WHATEVER THE INPUT: true; the input reads as it did. -/
def fnExactCallOrderSpec : ChangeSpec := { name := "fnExactCallOrder", fn := fun _ => fun
  | [d1, d2, d3] => { results := [.lit (.bool true)], args := [d1, d2, d3] }
  | _ => none }
def fnExactCallOrderRow : OpenClaim := { program := "ytdldpmefadnlnaa", sum := "2b49484495db85063a6906a51b8f84ecaea021744d5164d1ed971bbc04d28def", func := "loop.example/g00894/laws.FnExactCallOrder", spec := "fnExactCallOrder", apart := false }
def FnExactCallOrderSaid : Prop := fnExactCallOrderRow.holds Try.pinned (OpenSpec.ofChange fnExactCallOrderSpec)

/-- ITS FALSE NEIGHBOUR: 'it returns false'. Refute it at one input. -/
def fnExactCallOrderWrong : ChangeSpec := { name := "fnExactCallOrder", fn := fun _ => fun
  | [d1, d2, d3] => { results := [.lit (.bool false)], args := [d1, d2, d3] }
  | _ => none }
def FnExactCallOrderWrongFalsely : Prop := fnExactCallOrderRow.holds Try.pinned (OpenSpec.ofChange fnExactCallOrderWrong)

/-- 'laws.FnExactMovedBells': WHATEVER THE INPUT: true; the input reads as it did. -/
def fnExactMovedBellsSpec : ChangeSpec := { name := "fnExactMovedBells", fn := fun _ => fun
  | [d1, d2, d3] => { results := [.lit (.bool true)], args := [d1, d2, d3] }
  | _ => none }
def fnExactMovedBellsRow : OpenClaim := { program := "ytdldpmefadnlnaa", sum := "2b49484495db85063a6906a51b8f84ecaea021744d5164d1ed971bbc04d28def", func := "loop.example/g00894/laws.FnExactMovedBells", spec := "fnExactMovedBells", apart := false }
def FnExactMovedBellsSaid : Prop := fnExactMovedBellsRow.holds Try.pinned (OpenSpec.ofChange fnExactMovedBellsSpec)

/-- ITS FALSE NEIGHBOUR: 'it returns false'. Refute it at one input. -/
def fnExactMovedBellsWrong : ChangeSpec := { name := "fnExactMovedBells", fn := fun _ => fun
  | [d1, d2, d3] => { results := [.lit (.bool false)], args := [d1, d2, d3] }
  | _ => none }
def FnExactMovedBellsWrongFalsely : Prop := fnExactMovedBellsRow.holds Try.pinned (OpenSpec.ofChange fnExactMovedBellsWrong)

/-- 'laws.FnExactCallHeads': WHATEVER THE INPUT: true; the input reads as it did. -/
def fnExactCallHeadsSpec : ChangeSpec := { name := "fnExactCallHeads", fn := fun _ => fun
  | [d1, d2] => { results := [.lit (.bool true)], args := [d1, d2] }
  | _ => none }
def fnExactCallHeadsRow : OpenClaim := { program := "ytdldpmefadnlnaa", sum := "2b49484495db85063a6906a51b8f84ecaea021744d5164d1ed971bbc04d28def", func := "loop.example/g00894/laws.FnExactCallHeads", spec := "fnExactCallHeads", apart := false }
def FnExactCallHeadsSaid : Prop := fnExactCallHeadsRow.holds Try.pinned (OpenSpec.ofChange fnExactCallHeadsSpec)

/-- ITS FALSE NEIGHBOUR: 'it returns false'. Refute it at one input. -/
def fnExactCallHeadsWrong : ChangeSpec := { name := "fnExactCallHeads", fn := fun _ => fun
  | [d1, d2] => { results := [.lit (.bool false)], args := [d1, d2] }
  | _ => none }
def FnExactCallHeadsWrongFalsely : Prop := fnExactCallHeadsRow.holds Try.pinned (OpenSpec.ofChange fnExactCallHeadsWrong)

/-- 'laws.FnExactSameLead': WHATEVER THE INPUT: true; the input reads as it did. -/
def fnExactSameLeadSpec : ChangeSpec := { name := "fnExactSameLead", fn := fun _ => fun
  | [d1, d2, d3, d4] => { results := [.lit (.bool true)], args := [d1, d2, d3, d4] }
  | _ => none }
def fnExactSameLeadRow : OpenClaim := { program := "ytdldpmefadnlnaa", sum := "2b49484495db85063a6906a51b8f84ecaea021744d5164d1ed971bbc04d28def", func := "loop.example/g00894/laws.FnExactSameLead", spec := "fnExactSameLead", apart := false }
def FnExactSameLeadSaid : Prop := fnExactSameLeadRow.holds Try.pinned (OpenSpec.ofChange fnExactSameLeadSpec)

/-- ITS FALSE NEIGHBOUR: 'it returns false'. Refute it at one input. -/
def fnExactSameLeadWrong : ChangeSpec := { name := "fnExactSameLead", fn := fun _ => fun
  | [d1, d2, d3, d4] => { results := [.lit (.bool false)], args := [d1, d2, d3, d4] }
  | _ => none }
def FnExactSameLeadWrongFalsely : Prop := fnExactSameLeadRow.holds Try.pinned (OpenSpec.ofChange fnExactSameLeadWrong)

/-- 'laws.FnCalls': WHATEVER THE INPUT: true; the input reads as it did. -/
def fnCallsSpec : ChangeSpec := { name := "fnCalls", fn := fun _ => fun
  | [d1, d2] => { results := [.lit (.bool true)], args := [d1, d2] }
  | _ => none }
def fnCallsRow : OpenClaim := { program := "ytdldpmefadnlnaa", sum := "2b49484495db85063a6906a51b8f84ecaea021744d5164d1ed971bbc04d28def", func := "loop.example/g00894/laws.FnCalls", spec := "fnCalls", recurses := true, apart := false }
def FnCallsSaid : Prop := fnCallsRow.holds Try.pinned (OpenSpec.ofChange fnCallsSpec)

/-- ITS FALSE NEIGHBOUR: 'it returns false'. Refute it at one input. -/
def fnCallsWrong : ChangeSpec := { name := "fnCalls", fn := fun _ => fun
  | [d1, d2] => { results := [.lit (.bool false)], args := [d1, d2] }
  | _ => none }
def FnCallsWrongFalsely : Prop := fnCallsRow.holds Try.pinned (OpenSpec.ofChange fnCallsWrong)

/- THE SECOND FORM. 'bulk': how many values and letters a reading holds, each counted each time it is reached (what is shared counts as often as it is met; a slice's spare places count too). A statement '..UptoSaid' is the law's where the arguments, and the package variables that the reading takes, are together of bulk at most 1048576: NARROWER than '..Said'. Prove '..Said' where nothing that the law and all that it calls make is longer than what came in: it says more and counts as full. Else prove '..UptoSaid'. A law counts once. -/
mutual
def uptoBulk {H : Type} : DataW H → Nat
  | .lit (.string bytes) => bytes.length + 1
  | .lit _ => 1
  | .nil => 1
  | .ptr d => uptoBulk d + 1
  | .slice elems spare => uptoBulkAll elems + uptoBulkAll spare + 1
  | .agg parts => uptoBulkAll parts + 1
  | .iface _ d => uptoBulk d + 1
  | .map entries => uptoBulkEntries entries + 1
  | .held _ => 1
def uptoBulkAll {H : Type} : List (DataW H) → Nat
  | [] => 0
  | d :: r => uptoBulk d + uptoBulkAll r
def uptoBulkEntries {H : Type} : List (Lit × DataW H) → Nat
  | [] => 0
  | x :: r => uptoBulkEntry x + uptoBulkEntries r
def uptoBulkEntry {H : Type} : Lit × DataW H → Nat
  | (.string bytes, d) => bytes.length + uptoBulk d + 1
  | (_, d) => uptoBulk d + 1
 end
def uptoSmall : (H : Type) → List (DataW H) → Bool := fun _ ds => decide (uptoBulkAll ds ≤ 1048576)
def OpenSpec.upto (s : _root_.Go.ChangeSpec) : _root_.Go.OpenSpec := { _root_.Go.OpenSpec.ofChange s with cond := some uptoSmall }

/-- 'laws.FnExactGoodCalls', WHERE WHAT IT READS IS OF BULK AT MOST 1048576: true; the input reads as it did. -/
def fnExactGoodCallsUptoRow : OpenClaim := { program := "ytdldpmefadnlnaa", sum := "2b49484495db85063a6906a51b8f84ecaea021744d5164d1ed971bbc04d28def", func := "loop.example/g00894/laws.FnExactGoodCalls", spec := "fnExactGoodCalls", apart := false, narrowed := true }
def FnExactGoodCallsUptoSaid : Prop := fnExactGoodCallsUptoRow.holds Try.pinned (OpenSpec.upto fnExactGoodCallsSpec)

/-- 'laws.FnExactCalledLead', WHERE WHAT IT READS IS OF BULK AT MOST 1048576: true; the input reads as it did. -/
def fnExactCalledLeadUptoRow : OpenClaim := { program := "ytdldpmefadnlnaa", sum := "2b49484495db85063a6906a51b8f84ecaea021744d5164d1ed971bbc04d28def", func := "loop.example/g00894/laws.FnExactCalledLead", spec := "fnExactCalledLead", apart := false, narrowed := true }
def FnExactCalledLeadUptoSaid : Prop := fnExactCalledLeadUptoRow.holds Try.pinned (OpenSpec.upto fnExactCalledLeadSpec)

/-- 'laws.FnExactCallHead', WHERE WHAT IT READS IS OF BULK AT MOST 1048576: true; the input reads as it did. -/
def fnExactCallHeadUptoRow : OpenClaim := { program := "ytdldpmefadnlnaa", sum := "2b49484495db85063a6906a51b8f84ecaea021744d5164d1ed971bbc04d28def", func := "loop.example/g00894/laws.FnExactCallHead", spec := "fnExactCallHead", apart := false, narrowed := true }
def FnExactCallHeadUptoSaid : Prop := fnExactCallHeadUptoRow.holds Try.pinned (OpenSpec.upto fnExactCallHeadSpec)

/-- 'laws.FnExactCallRow', WHERE WHAT IT READS IS OF BULK AT MOST 1048576: true; the input reads as it did. -/
def fnExactCallRowUptoRow : OpenClaim := { program := "ytdldpmefadnlnaa", sum := "2b49484495db85063a6906a51b8f84ecaea021744d5164d1ed971bbc04d28def", func := "loop.example/g00894/laws.FnExactCallRow", spec := "fnExactCallRow", apart := false, narrowed := true }
def FnExactCallRowUptoSaid : Prop := fnExactCallRowUptoRow.holds Try.pinned (OpenSpec.upto fnExactCallRowSpec)

/-- 'laws.FnExactCallOrder', WHERE WHAT IT READS IS OF BULK AT MOST 1048576: true; the input reads as it did. -/
def fnExactCallOrderUptoRow : OpenClaim := { program := "ytdldpmefadnlnaa", sum := "2b49484495db85063a6906a51b8f84ecaea021744d5164d1ed971bbc04d28def", func := "loop.example/g00894/laws.FnExactCallOrder", spec := "fnExactCallOrder", apart := false, narrowed := true }
def FnExactCallOrderUptoSaid : Prop := fnExactCallOrderUptoRow.holds Try.pinned (OpenSpec.upto fnExactCallOrderSpec)

/-- 'laws.FnExactMovedBells', WHERE WHAT IT READS IS OF BULK AT MOST 1048576: true; the input reads as it did. -/
def fnExactMovedBellsUptoRow : OpenClaim := { program := "ytdldpmefadnlnaa", sum := "2b49484495db85063a6906a51b8f84ecaea021744d5164d1ed971bbc04d28def", func := "loop.example/g00894/laws.FnExactMovedBells", spec := "fnExactMovedBells", apart := false, narrowed := true }
def FnExactMovedBellsUptoSaid : Prop := fnExactMovedBellsUptoRow.holds Try.pinned (OpenSpec.upto fnExactMovedBellsSpec)

/-- 'laws.FnExactCallHeads', WHERE WHAT IT READS IS OF BULK AT MOST 1048576: true; the input reads as it did. -/
def fnExactCallHeadsUptoRow : OpenClaim := { program := "ytdldpmefadnlnaa", sum := "2b49484495db85063a6906a51b8f84ecaea021744d5164d1ed971bbc04d28def", func := "loop.example/g00894/laws.FnExactCallHeads", spec := "fnExactCallHeads", apart := false, narrowed := true }
def FnExactCallHeadsUptoSaid : Prop := fnExactCallHeadsUptoRow.holds Try.pinned (OpenSpec.upto fnExactCallHeadsSpec)

/-- 'laws.FnExactSameLead', WHERE WHAT IT READS IS OF BULK AT MOST 1048576: true; the input reads as it did. -/
def fnExactSameLeadUptoRow : OpenClaim := { program := "ytdldpmefadnlnaa", sum := "2b49484495db85063a6906a51b8f84ecaea021744d5164d1ed971bbc04d28def", func := "loop.example/g00894/laws.FnExactSameLead", spec := "fnExactSameLead", apart := false, narrowed := true }
def FnExactSameLeadUptoSaid : Prop := fnExactSameLeadUptoRow.holds Try.pinned (OpenSpec.upto fnExactSameLeadSpec)

/-- 'laws.FnCalls', WHERE WHAT IT READS IS OF BULK AT MOST 1048576: true; the input reads as it did. -/
def fnCallsUptoRow : OpenClaim := { program := "ytdldpmefadnlnaa", sum := "2b49484495db85063a6906a51b8f84ecaea021744d5164d1ed971bbc04d28def", func := "loop.example/g00894/laws.FnCalls", spec := "fnCalls", recurses := true, apart := false, narrowed := true }
def FnCallsUptoSaid : Prop := fnCallsUptoRow.holds Try.pinned (OpenSpec.upto fnCallsSpec)

end Rows
end Go.Proofs.Ytdldpmefadnlnaa
