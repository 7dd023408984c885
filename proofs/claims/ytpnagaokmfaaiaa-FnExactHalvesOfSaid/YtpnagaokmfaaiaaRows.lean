/-
  No cell of these rows narrows 'for every input' (looked for: loops, veiled, ifaces, maps, wideKeys, modest, calm, conditions, laid).
  DERIVED. THE GIVEN ROWS OF THIS SEAT. 4 by the template 'for every input the law returns true; each argument reads behind the call as it read before'; 0 by the template 'total and deterministic' (their statements: YtpnagaokmfaaiaaTotals.lean).
  GIVEN WITH THE SEED: the statements are not yours to turn. If you find one false, say at which input.
  Laid BY PROGRAM, IN A SANDBOX (cutbox-rows.mjs): the forced cells as the released guide's own fill.sh prints them over the translation d05e91acae9c205f… (all of the seat's roots in one cut). By AI agents, Wed Nov 11 2026. No macro, syntax, notation, axiom, sorry.
-/
import Derived.Test.YtpnagaokmfaaiaaChecked
import GoSem.Claim
import GoSem.ClaimJoined
import GoSem.ClaimMapViews
import Derived.JoinedTies
import Derived.KernelRfl
namespace Go.Proofs.Ytpnagaokmfaaiaa
/- THE CELL 'sum', in the pinned program and in every row, IS THE sha256 OF THE DUMP (.gsa) THAT YtpnagaokmfaaiaaProg.lean LOADS. Nothing in Lean hashes anything: it is a label: what it is worth is what the hold of that sum in a sandbox is worth. -/
noncomputable def Try.pinned : Pinned := { name := "ytpnagaokmfaaiaa", sum := "d05e91acae9c205f5a5ecf30692cdc45f15d0167995b737767177c5c149260c8", checked := Try.checked }
namespace Rows
def none {H : Type} : Left H := { results := [], args := [] }

/-- 'laws.FnExactNotationText': WHATEVER THE INPUT: true; the input reads as it did. -/
def fnExactNotationTextSpec : ChangeSpec := { name := "fnExactNotationText", fn := fun _ => fun
  | [d1, d2] => { results := [.lit (.bool true)], args := [d1, d2] }
  | _ => none }
def fnExactNotationTextRow : OpenClaim := { program := "ytpnagaokmfaaiaa", sum := "d05e91acae9c205f5a5ecf30692cdc45f15d0167995b737767177c5c149260c8", func := "loop.example/g00894/laws.FnExactNotationText", spec := "fnExactNotationText", inPlace := ["internal/abi.NoEscape"], apart := false }
def FnExactNotationTextSaid : Prop := fnExactNotationTextRow.holds Try.pinned (OpenSpec.ofChange fnExactNotationTextSpec)

/-- ITS FALSE NEIGHBOUR: 'it returns false'. Refute it at one input. -/
def fnExactNotationTextWrong : ChangeSpec := { name := "fnExactNotationText", fn := fun _ => fun
  | [d1, d2] => { results := [.lit (.bool false)], args := [d1, d2] }
  | _ => none }
def FnExactNotationTextWrongFalsely : Prop := fnExactNotationTextRow.holds Try.pinned (OpenSpec.ofChange fnExactNotationTextWrong)

/-- 'laws.FnExactShortNotation': WHATEVER THE INPUT: true; the input reads as it did. -/
def fnExactShortNotationSpec : ChangeSpec := { name := "fnExactShortNotation", fn := fun _ => fun
  | [d1, d2] => { results := [.lit (.bool true)], args := [d1, d2] }
  | _ => none }
def fnExactShortNotationRow : OpenClaim := { program := "ytpnagaokmfaaiaa", sum := "d05e91acae9c205f5a5ecf30692cdc45f15d0167995b737767177c5c149260c8", func := "loop.example/g00894/laws.FnExactShortNotation", spec := "fnExactShortNotation", inPlace := ["internal/abi.NoEscape"], apart := false }
def FnExactShortNotationSaid : Prop := fnExactShortNotationRow.holds Try.pinned (OpenSpec.ofChange fnExactShortNotationSpec)

/-- ITS FALSE NEIGHBOUR: 'it returns false'. Refute it at one input. -/
def fnExactShortNotationWrong : ChangeSpec := { name := "fnExactShortNotation", fn := fun _ => fun
  | [d1, d2] => { results := [.lit (.bool false)], args := [d1, d2] }
  | _ => none }
def FnExactShortNotationWrongFalsely : Prop := fnExactShortNotationRow.holds Try.pinned (OpenSpec.ofChange fnExactShortNotationWrong)

/-- 'laws.FnExactHalvesOf': WHATEVER THE INPUT: true; the input reads as it did. -/
def fnExactHalvesOfSpec : ChangeSpec := { name := "fnExactHalvesOf", fn := fun _ => fun
  | [d1, d2] => { results := [.lit (.bool true)], args := [d1, d2] }
  | _ => none }
def fnExactHalvesOfRow : OpenClaim := { program := "ytpnagaokmfaaiaa", sum := "d05e91acae9c205f5a5ecf30692cdc45f15d0167995b737767177c5c149260c8", func := "loop.example/g00894/laws.FnExactHalvesOf", spec := "fnExactHalvesOf", apart := false }
def FnExactHalvesOfSaid : Prop := fnExactHalvesOfRow.holds Try.pinned (OpenSpec.ofChange fnExactHalvesOfSpec)

/-- ITS FALSE NEIGHBOUR: 'it returns false'. Refute it at one input. -/
def fnExactHalvesOfWrong : ChangeSpec := { name := "fnExactHalvesOf", fn := fun _ => fun
  | [d1, d2] => { results := [.lit (.bool false)], args := [d1, d2] }
  | _ => none }
def FnExactHalvesOfWrongFalsely : Prop := fnExactHalvesOfRow.holds Try.pinned (OpenSpec.ofChange fnExactHalvesOfWrong)

/-- 'laws.FnExactMirrorAll': WHATEVER THE INPUT: true; the input reads as it did. -/
def fnExactMirrorAllSpec : ChangeSpec := { name := "fnExactMirrorAll", fn := fun _ => fun
  | [d] => { results := [.lit (.bool true)], args := [d] }
  | _ => none }
def fnExactMirrorAllRow : OpenClaim := { program := "ytpnagaokmfaaiaa", sum := "d05e91acae9c205f5a5ecf30692cdc45f15d0167995b737767177c5c149260c8", func := "loop.example/g00894/laws.FnExactMirrorAll", spec := "fnExactMirrorAll", apart := false }
def FnExactMirrorAllSaid : Prop := fnExactMirrorAllRow.holds Try.pinned (OpenSpec.ofChange fnExactMirrorAllSpec)

/-- ITS FALSE NEIGHBOUR: 'it returns false'. Refute it at one input. -/
def fnExactMirrorAllWrong : ChangeSpec := { name := "fnExactMirrorAll", fn := fun _ => fun
  | [d] => { results := [.lit (.bool false)], args := [d] }
  | _ => none }
def FnExactMirrorAllWrongFalsely : Prop := fnExactMirrorAllRow.holds Try.pinned (OpenSpec.ofChange fnExactMirrorAllWrong)

/- THE SECOND FORM. 'bulk': how many values and letters a reading holds, each counted each time it is reached (what is shared counts as often as it is met; a slice's spare places count too). A statement '..UptoSaid' is the law's where the arguments, and the package variables that the reading takes, are together of bulk at most 1048576: NARROWER than '..Said'. Prove '..Said' where nothing that the law and all that it calls make is longer than what came in: it says more and counts as full. Else prove '..UptoSaid'. A law counts once. -/
mutual
def uptoBulk {H : Type} : DataW H → Nat
  | .lit (.string bytes) => bytes.length + 1
  | .lit _ => 1
  | .nil => 1
  | .ptr d => uptoBulk d + 1
  | .slice elems spare => uptoBulkAll elems + uptoBulkAll spare + 1
  | .agg parts => uptoBulkAll parts + 1
  | .iface _ d => uptoBulk d + 1
  | .map entries => uptoBulkEntries entries + 1
  | .held _ => 1
def uptoBulkAll {H : Type} : List (DataW H) → Nat
  | [] => 0
  | d :: r => uptoBulk d + uptoBulkAll r
def uptoBulkEntries {H : Type} : List (Lit × DataW H) → Nat
  | [] => 0
  | x :: r => uptoBulkEntry x + uptoBulkEntries r
def uptoBulkEntry {H : Type} : Lit × DataW H → Nat
  | (.string bytes, d) => bytes.length + uptoBulk d + 1
  | (_, d) => uptoBulk d + 1
 end
def uptoSmall : (H : Type) → List (DataW H) → Bool := fun _ ds => decide (uptoBulkAll ds ≤ 1048576)
def OpenSpec.upto (s : _root_.Go.ChangeSpec) : _root_.Go.OpenSpec := { _root_.Go.OpenSpec.ofChange s with cond := some uptoSmall }

/-- 'laws.FnExactNotationText', WHERE WHAT IT READS IS OF BULK AT MOST 1048576: true; the input reads as it did. -/
def fnExactNotationTextUptoRow : OpenClaim := { program := "ytpnagaokmfaaiaa", sum := "d05e91acae9c205f5a5ecf30692cdc45f15d0167995b737767177c5c149260c8", func := "loop.example/g00894/laws.FnExactNotationText", spec := "fnExactNotationText", inPlace := ["internal/abi.NoEscape"], apart := false, narrowed := true }
def FnExactNotationTextUptoSaid : Prop := fnExactNotationTextUptoRow.holds Try.pinned (OpenSpec.upto fnExactNotationTextSpec)

/-- 'laws.FnExactShortNotation', WHERE WHAT IT READS IS OF BULK AT MOST 1048576: true; the input reads as it did. -/
def fnExactShortNotationUptoRow : OpenClaim := { program := "ytpnagaokmfaaiaa", sum := "d05e91acae9c205f5a5ecf30692cdc45f15d0167995b737767177c5c149260c8", func := "loop.example/g00894/laws.FnExactShortNotation", spec := "fnExactShortNotation", inPlace := ["internal/abi.NoEscape"], apart := false, narrowed := true }
def FnExactShortNotationUptoSaid : Prop := fnExactShortNotationUptoRow.holds Try.pinned (OpenSpec.upto fnExactShortNotationSpec)

/-- 'laws.FnExactHalvesOf', WHERE WHAT IT READS IS OF BULK AT MOST 1048576: true; the input reads as it did. -/
def fnExactHalvesOfUptoRow : OpenClaim := { program := "ytpnagaokmfaaiaa", sum := "d05e91acae9c205f5a5ecf30692cdc45f15d0167995b737767177c5c149260c8", func := "loop.example/g00894/laws.FnExactHalvesOf", spec := "fnExactHalvesOf", apart := false, narrowed := true }
def FnExactHalvesOfUptoSaid : Prop := fnExactHalvesOfUptoRow.holds Try.pinned (OpenSpec.upto fnExactHalvesOfSpec)

/-- 'laws.FnExactMirrorAll', WHERE WHAT IT READS IS OF BULK AT MOST 1048576: true; the input reads as it did. -/
def fnExactMirrorAllUptoRow : OpenClaim := { program := "ytpnagaokmfaaiaa", sum := "d05e91acae9c205f5a5ecf30692cdc45f15d0167995b737767177c5c149260c8", func := "loop.example/g00894/laws.FnExactMirrorAll", spec := "fnExactMirrorAll", apart := false, narrowed := true }
def FnExactMirrorAllUptoSaid : Prop := fnExactMirrorAllUptoRow.holds Try.pinned (OpenSpec.upto fnExactMirrorAllSpec)

end Rows
end Go.Proofs.Ytpnagaokmfaaiaa
