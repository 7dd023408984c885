/-
  No cell of these rows narrows 'for every input' (looked for: loops, veiled, ifaces, maps, wideKeys, modest, calm, conditions, laid).
  DERIVED. THE GIVEN ROWS OF THIS SEAT. 5 by the template 'for every input the law returns true; each argument reads behind the call as it read before'; 0 by the template 'total and deterministic' (their statements: YtdflpkkcjbdpfaaTotals.lean).
  GIVEN WITH THE SEED: the statements are not yours to turn. If you find one false, say at which input.
  Laid BY PROGRAM, IN A SANDBOX (cutbox-rows.mjs): the forced cells as the released guide's own fill.sh prints them over the translation ac0c0306dd90cd0e… (all of the seat's roots in one cut). By AI agents, Wed Nov 11 2026. No macro, syntax, notation, axiom, sorry.
-/
import Derived.Test.YtdflpkkcjbdpfaaChecked
import GoSem.Claim
import GoSem.ClaimJoined
import GoSem.ClaimMapViews
import Derived.JoinedTies
import Derived.KernelRfl
namespace Go.Proofs.Ytdflpkkcjbdpfaa
/- THE CELL 'sum', in the pinned program and in every row, IS THE sha256 OF THE DUMP (.gsa) THAT YtdflpkkcjbdpfaaProg.lean LOADS. Nothing in Lean hashes anything: it is a label: what it is worth is what the hold of that sum in a sandbox is worth. -/
noncomputable def Try.pinned : Pinned := { name := "ytdflpkkcjbdpfaa", sum := "ac0c0306dd90cd0e22e2fbaac6b125ab5ad24077b00fe0f13cd6d86983fdbfcb", checked := Try.checked }
namespace Rows
def none {H : Type} : Left H := { results := [], args := [] }

/-- 'laws.FnExactPlacesOf': WHATEVER THE INPUT: true; the input reads as it did. -/
def fnExactPlacesOfSpec : ChangeSpec := { name := "fnExactPlacesOf", fn := fun _ => fun
  | [d1, d2] => { results := [.lit (.bool true)], args := [d1, d2] }
  | _ => none }
def fnExactPlacesOfRow : OpenClaim := { program := "ytdflpkkcjbdpfaa", sum := "ac0c0306dd90cd0e22e2fbaac6b125ab5ad24077b00fe0f13cd6d86983fdbfcb", func := "loop.example/g00894/laws.FnExactPlacesOf", spec := "fnExactPlacesOf", apart := false }
def FnExactPlacesOfSaid : Prop := fnExactPlacesOfRow.holds Try.pinned (OpenSpec.ofChange fnExactPlacesOfSpec)

/-- ITS FALSE NEIGHBOUR: 'it returns false'. Refute it at one input. -/
def fnExactPlacesOfWrong : ChangeSpec := { name := "fnExactPlacesOf", fn := fun _ => fun
  | [d1, d2] => { results := [.lit (.bool false)], args := [d1, d2] }
  | _ => none }
def FnExactPlacesOfWrongFalsely : Prop := fnExactPlacesOfRow.holds Try.pinned (OpenSpec.ofChange fnExactPlacesOfWrong)

/-- 'laws.FnPairs': WHATEVER THE INPUT: true; the input reads as it did. -/
def fnPairsSpec : ChangeSpec := { name := "fnPairs", fn := fun _ => fun
  | [d1, d2] => { results := [.lit (.bool true)], args := [d1, d2] }
  | _ => none }
def fnPairsRow : OpenClaim := { program := "ytdflpkkcjbdpfaa", sum := "ac0c0306dd90cd0e22e2fbaac6b125ab5ad24077b00fe0f13cd6d86983fdbfcb", func := "loop.example/g00894/laws.FnPairs", spec := "fnPairs", recurses := true, apart := false }
def FnPairsSaid : Prop := fnPairsRow.holds Try.pinned (OpenSpec.ofChange fnPairsSpec)

/-- ITS FALSE NEIGHBOUR: 'it returns false'. Refute it at one input. -/
def fnPairsWrong : ChangeSpec := { name := "fnPairs", fn := fun _ => fun
  | [d1, d2] => { results := [.lit (.bool false)], args := [d1, d2] }
  | _ => none }
def FnPairsWrongFalsely : Prop := fnPairsRow.holds Try.pinned (OpenSpec.ofChange fnPairsWrong)

/-- 'laws.FnExactNotationText': WHATEVER THE INPUT: true; the input reads as it did. -/
def fnExactNotationTextSpec : ChangeSpec := { name := "fnExactNotationText", fn := fun _ => fun
  | [d1, d2] => { results := [.lit (.bool true)], args := [d1, d2] }
  | _ => none }
def fnExactNotationTextRow : OpenClaim := { program := "ytdflpkkcjbdpfaa", sum := "ac0c0306dd90cd0e22e2fbaac6b125ab5ad24077b00fe0f13cd6d86983fdbfcb", func := "loop.example/g00894/laws.FnExactNotationText", spec := "fnExactNotationText", inPlace := ["internal/abi.NoEscape"], apart := false }
def FnExactNotationTextSaid : Prop := fnExactNotationTextRow.holds Try.pinned (OpenSpec.ofChange fnExactNotationTextSpec)

/-- ITS FALSE NEIGHBOUR: 'it returns false'. Refute it at one input. -/
def fnExactNotationTextWrong : ChangeSpec := { name := "fnExactNotationText", fn := fun _ => fun
  | [d1, d2] => { results := [.lit (.bool false)], args := [d1, d2] }
  | _ => none }
def FnExactNotationTextWrongFalsely : Prop := fnExactNotationTextRow.holds Try.pinned (OpenSpec.ofChange fnExactNotationTextWrong)

/-- 'laws.FnExactShortNotation': WHATEVER THE INPUT: true; the input reads as it did. -/
def fnExactShortNotationSpec : ChangeSpec := { name := "fnExactShortNotation", fn := fun _ => fun
  | [d1, d2] => { results := [.lit (.bool true)], args := [d1, d2] }
  | _ => none }
def fnExactShortNotationRow : OpenClaim := { program := "ytdflpkkcjbdpfaa", sum := "ac0c0306dd90cd0e22e2fbaac6b125ab5ad24077b00fe0f13cd6d86983fdbfcb", func := "loop.example/g00894/laws.FnExactShortNotation", spec := "fnExactShortNotation", inPlace := ["internal/abi.NoEscape"], apart := false }
def FnExactShortNotationSaid : Prop := fnExactShortNotationRow.holds Try.pinned (OpenSpec.ofChange fnExactShortNotationSpec)

/-- ITS FALSE NEIGHBOUR: 'it returns false'. Refute it at one input. -/
def fnExactShortNotationWrong : ChangeSpec := { name := "fnExactShortNotation", fn := fun _ => fun
  | [d1, d2] => { results := [.lit (.bool false)], args := [d1, d2] }
  | _ => none }
def FnExactShortNotationWrongFalsely : Prop := fnExactShortNotationRow.holds Try.pinned (OpenSpec.ofChange fnExactShortNotationWrong)

/-- 'laws.FnExactHalvesOf': WHATEVER THE INPUT: true; the input reads as it did. -/
def fnExactHalvesOfSpec : ChangeSpec := { name := "fnExactHalvesOf", fn := fun _ => fun
  | [d1, d2] => { results := [.lit (.bool true)], args := [d1, d2] }
  | _ => none }
def fnExactHalvesOfRow : OpenClaim := { program := "ytdflpkkcjbdpfaa", sum := "ac0c0306dd90cd0e22e2fbaac6b125ab5ad24077b00fe0f13cd6d86983fdbfcb", func := "loop.example/g00894/laws.FnExactHalvesOf", spec := "fnExactHalvesOf", apart := false }
def FnExactHalvesOfSaid : Prop := fnExactHalvesOfRow.holds Try.pinned (OpenSpec.ofChange fnExactHalvesOfSpec)

/-- ITS FALSE NEIGHBOUR: 'it returns false'. Refute it at one input. -/
def fnExactHalvesOfWrong : ChangeSpec := { name := "fnExactHalvesOf", fn := fun _ => fun
  | [d1, d2] => { results := [.lit (.bool false)], args := [d1, d2] }
  | _ => none }
def FnExactHalvesOfWrongFalsely : Prop := fnExactHalvesOfRow.holds Try.pinned (OpenSpec.ofChange fnExactHalvesOfWrong)

/- THE SECOND FORM. 'bulk': how many values and letters a reading holds, each counted each time it is reached (what is shared counts as often as it is met; a slice's spare places count too). A statement '..UptoSaid' is the law's where the arguments, and the package variables that the reading takes, are together of bulk at most 1048576: NARROWER than '..Said'. Prove '..Said' where nothing that the law and all that it calls make is longer than what came in: it says more and counts as full. Else prove '..UptoSaid'. A law counts once. -/
mutual
def uptoBulk {H : Type} : DataW H → Nat
  | .lit (.string bytes) => bytes.length + 1
  | .lit _ => 1
  | .nil => 1
  | .ptr d => uptoBulk d + 1
  | .slice elems spare => uptoBulkAll elems + uptoBulkAll spare + 1
  | .agg parts => uptoBulkAll parts + 1
  | .iface _ d => uptoBulk d + 1
  | .map entries => uptoBulkEntries entries + 1
  | .held _ => 1
def uptoBulkAll {H : Type} : List (DataW H) → Nat
  | [] => 0
  | d :: r => uptoBulk d + uptoBulkAll r
def uptoBulkEntries {H : Type} : List (Lit × DataW H) → Nat
  | [] => 0
  | x :: r => uptoBulkEntry x + uptoBulkEntries r
def uptoBulkEntry {H : Type} : Lit × DataW H → Nat
  | (.string bytes, d) => bytes.length + uptoBulk d + 1
  | (_, d) => uptoBulk d + 1
 end
def uptoSmall : (H : Type) → List (DataW H) → Bool := fun _ ds => decide (uptoBulkAll ds ≤ 1048576)
def OpenSpec.upto (s : _root_.Go.ChangeSpec) : _root_.Go.OpenSpec := { _root_.Go.OpenSpec.ofChange s with cond := some uptoSmall }

/-- 'laws.FnExactPlacesOf', WHERE WHAT IT READS IS OF BULK AT MOST 1048576: true; the input reads as it did. -/
def fnExactPlacesOfUptoRow : OpenClaim := { program := "ytdflpkkcjbdpfaa", sum := "ac0c0306dd90cd0e22e2fbaac6b125ab5ad24077b00fe0f13cd6d86983fdbfcb", func := "loop.example/g00894/laws.FnExactPlacesOf", spec := "fnExactPlacesOf", apart := false, narrowed := true }
def FnExactPlacesOfUptoSaid : Prop := fnExactPlacesOfUptoRow.holds Try.pinned (OpenSpec.upto fnExactPlacesOfSpec)

/-- 'laws.FnPairs', WHERE WHAT IT READS IS OF BULK AT MOST 1048576: true; the input reads as it did. -/
def fnPairsUptoRow : OpenClaim := { program := "ytdflpkkcjbdpfaa", sum := "ac0c0306dd90cd0e22e2fbaac6b125ab5ad24077b00fe0f13cd6d86983fdbfcb", func := "loop.example/g00894/laws.FnPairs", spec := "fnPairs", recurses := true, apart := false, narrowed := true }
def FnPairsUptoSaid : Prop := fnPairsUptoRow.holds Try.pinned (OpenSpec.upto fnPairsSpec)

/-- 'laws.FnExactNotationText', WHERE WHAT IT READS IS OF BULK AT MOST 1048576: true; the input reads as it did. -/
def fnExactNotationTextUptoRow : OpenClaim := { program := "ytdflpkkcjbdpfaa", sum := "ac0c0306dd90cd0e22e2fbaac6b125ab5ad24077b00fe0f13cd6d86983fdbfcb", func := "loop.example/g00894/laws.FnExactNotationText", spec := "fnExactNotationText", inPlace := ["internal/abi.NoEscape"], apart := false, narrowed := true }
def FnExactNotationTextUptoSaid : Prop := fnExactNotationTextUptoRow.holds Try.pinned (OpenSpec.upto fnExactNotationTextSpec)

/-- 'laws.FnExactShortNotation', WHERE WHAT IT READS IS OF BULK AT MOST 1048576: true; the input reads as it did. -/
def fnExactShortNotationUptoRow : OpenClaim := { program := "ytdflpkkcjbdpfaa", sum := "ac0c0306dd90cd0e22e2fbaac6b125ab5ad24077b00fe0f13cd6d86983fdbfcb", func := "loop.example/g00894/laws.FnExactShortNotation", spec := "fnExactShortNotation", inPlace := ["internal/abi.NoEscape"], apart := false, narrowed := true }
def FnExactShortNotationUptoSaid : Prop := fnExactShortNotationUptoRow.holds Try.pinned (OpenSpec.upto fnExactShortNotationSpec)

/-- 'laws.FnExactHalvesOf', WHERE WHAT IT READS IS OF BULK AT MOST 1048576: true; the input reads as it did. -/
def fnExactHalvesOfUptoRow : OpenClaim := { program := "ytdflpkkcjbdpfaa", sum := "ac0c0306dd90cd0e22e2fbaac6b125ab5ad24077b00fe0f13cd6d86983fdbfcb", func := "loop.example/g00894/laws.FnExactHalvesOf", spec := "fnExactHalvesOf", apart := false, narrowed := true }
def FnExactHalvesOfUptoSaid : Prop := fnExactHalvesOfUptoRow.holds Try.pinned (OpenSpec.upto fnExactHalvesOfSpec)

end Rows
end Go.Proofs.Ytdflpkkcjbdpfaa
