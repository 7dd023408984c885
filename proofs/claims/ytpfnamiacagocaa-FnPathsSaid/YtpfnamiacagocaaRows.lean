/-
  No cell of these rows narrows 'for every input' (looked for: loops, veiled, ifaces, maps, wideKeys, modest, calm, conditions, laid).
  DERIVED. THE GIVEN ROWS OF THIS SEAT. 10 by the template 'for every input the law returns true; each argument reads behind the call as it read before'; 0 by the template 'total and deterministic' (their statements: YtpfnamiacagocaaTotals.lean).
  GIVEN WITH THE SEED: the statements are not yours to turn. If you find one false, say at which input.
  Laid BY PROGRAM, IN A SANDBOX (cutbox-rows.mjs): the forced cells as the released guide's own fill.sh prints them over the translation 9740180656f9ee88… (all of the seat's roots in one cut). By AI agents, Wed Nov 11 2026. No macro, syntax, notation, axiom, sorry.
-/
import Derived.Test.YtpfnamiacagocaaChecked
import GoSem.Claim
import GoSem.ClaimJoined
import GoSem.ClaimMapViews
import Derived.JoinedTies
import Derived.KernelRfl
namespace Go.Proofs.Ytpfnamiacagocaa
/- THE CELL 'sum', in the pinned program and in every row, IS THE sha256 OF THE DUMP (.gsa) THAT YtpfnamiacagocaaProg.lean LOADS. Nothing in Lean hashes anything: it is a label: what it is worth is what the hold of that sum in a sandbox is worth. -/
noncomputable def Try.pinned : Pinned := { name := "ytpfnamiacagocaa", sum := "9740180656f9ee88464a21e874b5c6921e01b3655d80ec1ccc6bf9f454965332", checked := Try.checked }
namespace Rows
def none {H : Type} : Left H := { results := [], args := [] }

/-- 'laws.FnPaths': WHATEVER THE INPUT: true; the input reads as it did. -/
def fnPathsSpec : ChangeSpec := { name := "fnPaths", fn := fun _ => fun
  | [d1, d2] => { results := [.lit (.bool true)], args := [d1, d2] }
  | _ => none }
def fnPathsRow : OpenClaim := { program := "ytpfnamiacagocaa", sum := "9740180656f9ee88464a21e874b5c6921e01b3655d80ec1ccc6bf9f454965332", func := "loop.example/g00894/laws.FnPaths", spec := "fnPaths", inPlace := ["internal/bytealg.IndexByte"], unfollowed := true, recurses := true, apart := false }
def FnPathsSaid : Prop := fnPathsRow.holds Try.pinned (OpenSpec.ofChange fnPathsSpec)

/-- ITS FALSE NEIGHBOUR: 'it returns false'. Refute it at one input. -/
def fnPathsWrong : ChangeSpec := { name := "fnPaths", fn := fun _ => fun
  | [d1, d2] => { results := [.lit (.bool false)], args := [d1, d2] }
  | _ => none }
def FnPathsWrongFalsely : Prop := fnPathsRow.holds Try.pinned (OpenSpec.ofChange fnPathsWrong)

/-- 'laws.FnPlaceBells': WHATEVER THE INPUT: true; the input reads as it did. -/
def fnPlaceBellsSpec : ChangeSpec := { name := "fnPlaceBells", fn := fun _ => fun
  | [d1, d2] => { results := [.lit (.bool true)], args := [d1, d2] }
  | _ => none }
def fnPlaceBellsRow : OpenClaim := { program := "ytpfnamiacagocaa", sum := "9740180656f9ee88464a21e874b5c6921e01b3655d80ec1ccc6bf9f454965332", func := "loop.example/g00894/laws.FnPlaceBells", spec := "fnPlaceBells", inPlace := ["internal/bytealg.IndexByte"], unfollowed := true, recurses := true, apart := false }
def FnPlaceBellsSaid : Prop := fnPlaceBellsRow.holds Try.pinned (OpenSpec.ofChange fnPlaceBellsSpec)

/-- ITS FALSE NEIGHBOUR: 'it returns false'. Refute it at one input. -/
def fnPlaceBellsWrong : ChangeSpec := { name := "fnPlaceBells", fn := fun _ => fun
  | [d1, d2] => { results := [.lit (.bool false)], args := [d1, d2] }
  | _ => none }
def FnPlaceBellsWrongFalsely : Prop := fnPlaceBellsRow.holds Try.pinned (OpenSpec.ofChange fnPlaceBellsWrong)

/-- 'laws.FnExactPathOf': WHATEVER THE INPUT: true; the input reads as it did. -/
def fnExactPathOfSpec : ChangeSpec := { name := "fnExactPathOf", fn := fun _ => fun
  | [d1, d2] => { results := [.lit (.bool true)], args := [d1, d2] }
  | _ => none }
def fnExactPathOfRow : OpenClaim := { program := "ytpfnamiacagocaa", sum := "9740180656f9ee88464a21e874b5c6921e01b3655d80ec1ccc6bf9f454965332", func := "loop.example/g00894/laws.FnExactPathOf", spec := "fnExactPathOf", inPlace := ["internal/bytealg.IndexByte"], unfollowed := true, recurses := true, apart := false }
def FnExactPathOfSaid : Prop := fnExactPathOfRow.holds Try.pinned (OpenSpec.ofChange fnExactPathOfSpec)

/-- ITS FALSE NEIGHBOUR: 'it returns false'. Refute it at one input. -/
def fnExactPathOfWrong : ChangeSpec := { name := "fnExactPathOf", fn := fun _ => fun
  | [d1, d2] => { results := [.lit (.bool false)], args := [d1, d2] }
  | _ => none }
def FnExactPathOfWrongFalsely : Prop := fnExactPathOfRow.holds Try.pinned (OpenSpec.ofChange fnExactPathOfWrong)

/-- 'laws.FnExactPathsOf': WHATEVER THE INPUT: true; the input reads as it did. -/
def fnExactPathsOfSpec : ChangeSpec := { name := "fnExactPathsOf", fn := fun _ => fun
  | [d] => { results := [.lit (.bool true)], args := [d] }
  | _ => none }
def fnExactPathsOfRow : OpenClaim := { program := "ytpfnamiacagocaa", sum := "9740180656f9ee88464a21e874b5c6921e01b3655d80ec1ccc6bf9f454965332", func := "loop.example/g00894/laws.FnExactPathsOf", spec := "fnExactPathsOf", inPlace := ["internal/bytealg.IndexByte"], unfollowed := true, recurses := true, apart := false }
def FnExactPathsOfSaid : Prop := fnExactPathsOfRow.holds Try.pinned (OpenSpec.ofChange fnExactPathsOfSpec)

/-- ITS FALSE NEIGHBOUR: 'it returns false'. Refute it at one input. -/
def fnExactPathsOfWrong : ChangeSpec := { name := "fnExactPathsOf", fn := fun _ => fun
  | [d] => { results := [.lit (.bool false)], args := [d] }
  | _ => none }
def FnExactPathsOfWrongFalsely : Prop := fnExactPathsOfRow.holds Try.pinned (OpenSpec.ofChange fnExactPathsOfWrong)

/-- 'laws.FnExactRowsOf': WHATEVER THE INPUT: true; the input reads as it did. -/
def fnExactRowsOfSpec : ChangeSpec := { name := "fnExactRowsOf", fn := fun _ => fun
  | [d] => { results := [.lit (.bool true)], args := [d] }
  | _ => none }
def fnExactRowsOfRow : OpenClaim := { program := "ytpfnamiacagocaa", sum := "9740180656f9ee88464a21e874b5c6921e01b3655d80ec1ccc6bf9f454965332", func := "loop.example/g00894/laws.FnExactRowsOf", spec := "fnExactRowsOf", apart := false }
def FnExactRowsOfSaid : Prop := fnExactRowsOfRow.holds Try.pinned (OpenSpec.ofChange fnExactRowsOfSpec)

/-- ITS FALSE NEIGHBOUR: 'it returns false'. Refute it at one input. -/
def fnExactRowsOfWrong : ChangeSpec := { name := "fnExactRowsOf", fn := fun _ => fun
  | [d] => { results := [.lit (.bool false)], args := [d] }
  | _ => none }
def FnExactRowsOfWrongFalsely : Prop := fnExactRowsOfRow.holds Try.pinned (OpenSpec.ofChange fnExactRowsOfWrong)

/-- 'laws.FnExactPlaceBells': WHATEVER THE INPUT: true; the input reads as it did. -/
def fnExactPlaceBellsSpec : ChangeSpec := { name := "fnExactPlaceBells", fn := fun _ => fun
  | [d1, d2] => { results := [.lit (.bool true)], args := [d1, d2] }
  | _ => none }
def fnExactPlaceBellsRow : OpenClaim := { program := "ytpfnamiacagocaa", sum := "9740180656f9ee88464a21e874b5c6921e01b3655d80ec1ccc6bf9f454965332", func := "loop.example/g00894/laws.FnExactPlaceBells", spec := "fnExactPlaceBells", apart := false }
def FnExactPlaceBellsSaid : Prop := fnExactPlaceBellsRow.holds Try.pinned (OpenSpec.ofChange fnExactPlaceBellsSpec)

/-- ITS FALSE NEIGHBOUR: 'it returns false'. Refute it at one input. -/
def fnExactPlaceBellsWrong : ChangeSpec := { name := "fnExactPlaceBells", fn := fun _ => fun
  | [d1, d2] => { results := [.lit (.bool false)], args := [d1, d2] }
  | _ => none }
def FnExactPlaceBellsWrongFalsely : Prop := fnExactPlaceBellsRow.holds Try.pinned (OpenSpec.ofChange fnExactPlaceBellsWrong)

/-- 'laws.FnExactCoursePath': WHATEVER THE INPUT: true; the input reads as it did. -/
def fnExactCoursePathSpec : ChangeSpec := { name := "fnExactCoursePath", fn := fun _ => fun
  | [d1, d2] => { results := [.lit (.bool true)], args := [d1, d2] }
  | _ => none }
def fnExactCoursePathRow : OpenClaim := { program := "ytpfnamiacagocaa", sum := "9740180656f9ee88464a21e874b5c6921e01b3655d80ec1ccc6bf9f454965332", func := "loop.example/g00894/laws.FnExactCoursePath", spec := "fnExactCoursePath", inPlace := ["internal/bytealg.IndexByte"], unfollowed := true, recurses := true, apart := false }
def FnExactCoursePathSaid : Prop := fnExactCoursePathRow.holds Try.pinned (OpenSpec.ofChange fnExactCoursePathSpec)

/-- ITS FALSE NEIGHBOUR: 'it returns false'. Refute it at one input. -/
def fnExactCoursePathWrong : ChangeSpec := { name := "fnExactCoursePath", fn := fun _ => fun
  | [d1, d2] => { results := [.lit (.bool false)], args := [d1, d2] }
  | _ => none }
def FnExactCoursePathWrongFalsely : Prop := fnExactCoursePathRow.holds Try.pinned (OpenSpec.ofChange fnExactCoursePathWrong)

/-- 'laws.FnExactDodgesIn': WHATEVER THE INPUT: true; the input reads as it did. -/
def fnExactDodgesInSpec : ChangeSpec := { name := "fnExactDodgesIn", fn := fun _ => fun
  | [d] => { results := [.lit (.bool true)], args := [d] }
  | _ => none }
def fnExactDodgesInRow : OpenClaim := { program := "ytpfnamiacagocaa", sum := "9740180656f9ee88464a21e874b5c6921e01b3655d80ec1ccc6bf9f454965332", func := "loop.example/g00894/laws.FnExactDodgesIn", spec := "fnExactDodgesIn", unfollowed := true, recurses := true, apart := false }
def FnExactDodgesInSaid : Prop := fnExactDodgesInRow.holds Try.pinned (OpenSpec.ofChange fnExactDodgesInSpec)

/-- ITS FALSE NEIGHBOUR: 'it returns false'. Refute it at one input. -/
def fnExactDodgesInWrong : ChangeSpec := { name := "fnExactDodgesIn", fn := fun _ => fun
  | [d] => { results := [.lit (.bool false)], args := [d] }
  | _ => none }
def FnExactDodgesInWrongFalsely : Prop := fnExactDodgesInRow.holds Try.pinned (OpenSpec.ofChange fnExactDodgesInWrong)

/-- 'laws.FnExactPointsIn': WHATEVER THE INPUT: true; the input reads as it did. -/
def fnExactPointsInSpec : ChangeSpec := { name := "fnExactPointsIn", fn := fun _ => fun
  | [d] => { results := [.lit (.bool true)], args := [d] }
  | _ => none }
def fnExactPointsInRow : OpenClaim := { program := "ytpfnamiacagocaa", sum := "9740180656f9ee88464a21e874b5c6921e01b3655d80ec1ccc6bf9f454965332", func := "loop.example/g00894/laws.FnExactPointsIn", spec := "fnExactPointsIn", unfollowed := true, recurses := true, apart := false }
def FnExactPointsInSaid : Prop := fnExactPointsInRow.holds Try.pinned (OpenSpec.ofChange fnExactPointsInSpec)

/-- ITS FALSE NEIGHBOUR: 'it returns false'. Refute it at one input. -/
def fnExactPointsInWrong : ChangeSpec := { name := "fnExactPointsIn", fn := fun _ => fun
  | [d] => { results := [.lit (.bool false)], args := [d] }
  | _ => none }
def FnExactPointsInWrongFalsely : Prop := fnExactPointsInRow.holds Try.pinned (OpenSpec.ofChange fnExactPointsInWrong)

/-- 'laws.FnExactWorkText': WHATEVER THE INPUT: true; the input reads as it did. -/
def fnExactWorkTextSpec : ChangeSpec := { name := "fnExactWorkText", fn := fun _ => fun
  | [d1, d2] => { results := [.lit (.bool true)], args := [d1, d2] }
  | _ => none }
def fnExactWorkTextRow : OpenClaim := { program := "ytpfnamiacagocaa", sum := "9740180656f9ee88464a21e874b5c6921e01b3655d80ec1ccc6bf9f454965332", func := "loop.example/g00894/laws.FnExactWorkText", spec := "fnExactWorkText", inPlace := ["internal/bytealg.IndexByte"], unfollowed := true, recurses := true, apart := false }
def FnExactWorkTextSaid : Prop := fnExactWorkTextRow.holds Try.pinned (OpenSpec.ofChange fnExactWorkTextSpec)

/-- ITS FALSE NEIGHBOUR: 'it returns false'. Refute it at one input. -/
def fnExactWorkTextWrong : ChangeSpec := { name := "fnExactWorkText", fn := fun _ => fun
  | [d1, d2] => { results := [.lit (.bool false)], args := [d1, d2] }
  | _ => none }
def FnExactWorkTextWrongFalsely : Prop := fnExactWorkTextRow.holds Try.pinned (OpenSpec.ofChange fnExactWorkTextWrong)

/- THE SECOND FORM. 'bulk': how many values and letters a reading holds, each counted each time it is reached (what is shared counts as often as it is met; a slice's spare places count too). A statement '..UptoSaid' is the law's where the arguments, and the package variables that the reading takes, are together of bulk at most 1048576: NARROWER than '..Said'. Prove '..Said' where nothing that the law and all that it calls make is longer than what came in: it says more and counts as full. Else prove '..UptoSaid'. A law counts once. -/
mutual
def uptoBulk {H : Type} : DataW H → Nat
  | .lit (.string bytes) => bytes.length + 1
  | .lit _ => 1
  | .nil => 1
  | .ptr d => uptoBulk d + 1
  | .slice elems spare => uptoBulkAll elems + uptoBulkAll spare + 1
  | .agg parts => uptoBulkAll parts + 1
  | .iface _ d => uptoBulk d + 1
  | .map entries => uptoBulkEntries entries + 1
  | .held _ => 1
def uptoBulkAll {H : Type} : List (DataW H) → Nat
  | [] => 0
  | d :: r => uptoBulk d + uptoBulkAll r
def uptoBulkEntries {H : Type} : List (Lit × DataW H) → Nat
  | [] => 0
  | x :: r => uptoBulkEntry x + uptoBulkEntries r
def uptoBulkEntry {H : Type} : Lit × DataW H → Nat
  | (.string bytes, d) => bytes.length + uptoBulk d + 1
  | (_, d) => uptoBulk d + 1
 end
def uptoSmall : (H : Type) → List (DataW H) → Bool := fun _ ds => decide (uptoBulkAll ds ≤ 1048576)
def OpenSpec.upto (s : _root_.Go.ChangeSpec) : _root_.Go.OpenSpec := { _root_.Go.OpenSpec.ofChange s with cond := some uptoSmall }

/-- 'laws.FnPaths', WHERE WHAT IT READS IS OF BULK AT MOST 1048576: true; the input reads as it did. -/
def fnPathsUptoRow : OpenClaim := { program := "ytpfnamiacagocaa", sum := "9740180656f9ee88464a21e874b5c6921e01b3655d80ec1ccc6bf9f454965332", func := "loop.example/g00894/laws.FnPaths", spec := "fnPaths", inPlace := ["internal/bytealg.IndexByte"], unfollowed := true, recurses := true, apart := false, narrowed := true }
def FnPathsUptoSaid : Prop := fnPathsUptoRow.holds Try.pinned (OpenSpec.upto fnPathsSpec)

/-- 'laws.FnPlaceBells', WHERE WHAT IT READS IS OF BULK AT MOST 1048576: true; the input reads as it did. -/
def fnPlaceBellsUptoRow : OpenClaim := { program := "ytpfnamiacagocaa", sum := "9740180656f9ee88464a21e874b5c6921e01b3655d80ec1ccc6bf9f454965332", func := "loop.example/g00894/laws.FnPlaceBells", spec := "fnPlaceBells", inPlace := ["internal/bytealg.IndexByte"], unfollowed := true, recurses := true, apart := false, narrowed := true }
def FnPlaceBellsUptoSaid : Prop := fnPlaceBellsUptoRow.holds Try.pinned (OpenSpec.upto fnPlaceBellsSpec)

/-- 'laws.FnExactPathOf', WHERE WHAT IT READS IS OF BULK AT MOST 1048576: true; the input reads as it did. -/
def fnExactPathOfUptoRow : OpenClaim := { program := "ytpfnamiacagocaa", sum := "9740180656f9ee88464a21e874b5c6921e01b3655d80ec1ccc6bf9f454965332", func := "loop.example/g00894/laws.FnExactPathOf", spec := "fnExactPathOf", inPlace := ["internal/bytealg.IndexByte"], unfollowed := true, recurses := true, apart := false, narrowed := true }
def FnExactPathOfUptoSaid : Prop := fnExactPathOfUptoRow.holds Try.pinned (OpenSpec.upto fnExactPathOfSpec)

/-- 'laws.FnExactPathsOf', WHERE WHAT IT READS IS OF BULK AT MOST 1048576: true; the input reads as it did. -/
def fnExactPathsOfUptoRow : OpenClaim := { program := "ytpfnamiacagocaa", sum := "9740180656f9ee88464a21e874b5c6921e01b3655d80ec1ccc6bf9f454965332", func := "loop.example/g00894/laws.FnExactPathsOf", spec := "fnExactPathsOf", inPlace := ["internal/bytealg.IndexByte"], unfollowed := true, recurses := true, apart := false, narrowed := true }
def FnExactPathsOfUptoSaid : Prop := fnExactPathsOfUptoRow.holds Try.pinned (OpenSpec.upto fnExactPathsOfSpec)

/-- 'laws.FnExactRowsOf', WHERE WHAT IT READS IS OF BULK AT MOST 1048576: true; the input reads as it did. -/
def fnExactRowsOfUptoRow : OpenClaim := { program := "ytpfnamiacagocaa", sum := "9740180656f9ee88464a21e874b5c6921e01b3655d80ec1ccc6bf9f454965332", func := "loop.example/g00894/laws.FnExactRowsOf", spec := "fnExactRowsOf", apart := false, narrowed := true }
def FnExactRowsOfUptoSaid : Prop := fnExactRowsOfUptoRow.holds Try.pinned (OpenSpec.upto fnExactRowsOfSpec)

/-- 'laws.FnExactPlaceBells', WHERE WHAT IT READS IS OF BULK AT MOST 1048576: true; the input reads as it did. -/
def fnExactPlaceBellsUptoRow : OpenClaim := { program := "ytpfnamiacagocaa", sum := "9740180656f9ee88464a21e874b5c6921e01b3655d80ec1ccc6bf9f454965332", func := "loop.example/g00894/laws.FnExactPlaceBells", spec := "fnExactPlaceBells", apart := false, narrowed := true }
def FnExactPlaceBellsUptoSaid : Prop := fnExactPlaceBellsUptoRow.holds Try.pinned (OpenSpec.upto fnExactPlaceBellsSpec)

/-- 'laws.FnExactCoursePath', WHERE WHAT IT READS IS OF BULK AT MOST 1048576: true; the input reads as it did. -/
def fnExactCoursePathUptoRow : OpenClaim := { program := "ytpfnamiacagocaa", sum := "9740180656f9ee88464a21e874b5c6921e01b3655d80ec1ccc6bf9f454965332", func := "loop.example/g00894/laws.FnExactCoursePath", spec := "fnExactCoursePath", inPlace := ["internal/bytealg.IndexByte"], unfollowed := true, recurses := true, apart := false, narrowed := true }
def FnExactCoursePathUptoSaid : Prop := fnExactCoursePathUptoRow.holds Try.pinned (OpenSpec.upto fnExactCoursePathSpec)

/-- 'laws.FnExactDodgesIn', WHERE WHAT IT READS IS OF BULK AT MOST 1048576: true; the input reads as it did. -/
def fnExactDodgesInUptoRow : OpenClaim := { program := "ytpfnamiacagocaa", sum := "9740180656f9ee88464a21e874b5c6921e01b3655d80ec1ccc6bf9f454965332", func := "loop.example/g00894/laws.FnExactDodgesIn", spec := "fnExactDodgesIn", unfollowed := true, recurses := true, apart := false, narrowed := true }
def FnExactDodgesInUptoSaid : Prop := fnExactDodgesInUptoRow.holds Try.pinned (OpenSpec.upto fnExactDodgesInSpec)

/-- 'laws.FnExactPointsIn', WHERE WHAT IT READS IS OF BULK AT MOST 1048576: true; the input reads as it did. -/
def fnExactPointsInUptoRow : OpenClaim := { program := "ytpfnamiacagocaa", sum := "9740180656f9ee88464a21e874b5c6921e01b3655d80ec1ccc6bf9f454965332", func := "loop.example/g00894/laws.FnExactPointsIn", spec := "fnExactPointsIn", unfollowed := true, recurses := true, apart := false, narrowed := true }
def FnExactPointsInUptoSaid : Prop := fnExactPointsInUptoRow.holds Try.pinned (OpenSpec.upto fnExactPointsInSpec)

/-- 'laws.FnExactWorkText', WHERE WHAT IT READS IS OF BULK AT MOST 1048576: true; the input reads as it did. -/
def fnExactWorkTextUptoRow : OpenClaim := { program := "ytpfnamiacagocaa", sum := "9740180656f9ee88464a21e874b5c6921e01b3655d80ec1ccc6bf9f454965332", func := "loop.example/g00894/laws.FnExactWorkText", spec := "fnExactWorkText", inPlace := ["internal/bytealg.IndexByte"], unfollowed := true, recurses := true, apart := false, narrowed := true }
def FnExactWorkTextUptoSaid : Prop := fnExactWorkTextUptoRow.holds Try.pinned (OpenSpec.upto fnExactWorkTextSpec)

end Rows
end Go.Proofs.Ytpfnamiacagocaa
