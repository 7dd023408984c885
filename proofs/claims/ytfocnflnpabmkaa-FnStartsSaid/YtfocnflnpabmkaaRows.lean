/-
  No cell of these rows narrows 'for every input' (looked for: loops, veiled, ifaces, maps, wideKeys, modest, calm, conditions, laid).
  DERIVED. THE GIVEN ROWS OF THIS SEAT. 13 by the template 'for every input the law returns true; each argument reads behind the call as it read before'; 0 by the template 'total and deterministic' (their statements: YtfocnflnpabmkaaTotals.lean).
  GIVEN WITH THE SEED: the statements are not yours to turn. If you find one false, say at which input.
  Laid BY PROGRAM, IN A SANDBOX (cutbox-rows.mjs): the forced cells as the released guide's own fill.sh prints them over the translation 8ba11e06d58df367… (all of the seat's roots in one cut). By AI agents, Wed Nov 11 2026. No macro, syntax, notation, axiom, sorry.
-/
import Derived.Test.YtfocnflnpabmkaaChecked
import GoSem.Claim
import GoSem.ClaimJoined
import GoSem.ClaimMapViews
import Derived.JoinedTies
import Derived.KernelRfl
namespace Go.Proofs.Ytfocnflnpabmkaa
/- THE CELL 'sum', in the pinned program and in every row, IS THE sha256 OF THE DUMP (.gsa) THAT YtfocnflnpabmkaaProg.lean LOADS. Nothing in Lean hashes anything: it is a label: what it is worth is what the hold of that sum in a sandbox is worth. -/
noncomputable def Try.pinned : Pinned := { name := "ytfocnflnpabmkaa", sum := "8ba11e06d58df3676cef4cc823a361063e18962efc7426436044cdfdc96fa2c0", checked := Try.checked }
namespace Rows
def none {H : Type} : Left H := { results := [], args := [] }

/-- 'laws.FnStarts': WHATEVER THE INPUT: true; the input reads as it did. -/
def fnStartsSpec : ChangeSpec := { name := "fnStarts", fn := fun _ => fun
  | [d1, d2] => { results := [.lit (.bool true)], args := [d1, d2] }
  | _ => none }
def fnStartsRow : OpenClaim := { program := "ytfocnflnpabmkaa", sum := "8ba11e06d58df3676cef4cc823a361063e18962efc7426436044cdfdc96fa2c0", func := "loop.example/g00894/laws.FnStarts", spec := "fnStarts", recurses := true, apart := false }
def FnStartsSaid : Prop := fnStartsRow.holds Try.pinned (OpenSpec.ofChange fnStartsSpec)

/-- ITS FALSE NEIGHBOUR: 'it returns false'. Refute it at one input. -/
def fnStartsWrong : ChangeSpec := { name := "fnStarts", fn := fun _ => fun
  | [d1, d2] => { results := [.lit (.bool false)], args := [d1, d2] }
  | _ => none }
def FnStartsWrongFalsely : Prop := fnStartsRow.holds Try.pinned (OpenSpec.ofChange fnStartsWrong)

/-- 'laws.FnStill': WHATEVER THE INPUT: true; the input reads as it did. -/
def fnStillSpec : ChangeSpec := { name := "fnStill", fn := fun _ => fun
  | [d1, d2] => { results := [.lit (.bool true)], args := [d1, d2] }
  | _ => none }
def fnStillRow : OpenClaim := { program := "ytfocnflnpabmkaa", sum := "8ba11e06d58df3676cef4cc823a361063e18962efc7426436044cdfdc96fa2c0", func := "loop.example/g00894/laws.FnStill", spec := "fnStill", unfollowed := true, recurses := true, apart := false }
def FnStillSaid : Prop := fnStillRow.holds Try.pinned (OpenSpec.ofChange fnStillSpec)

/-- ITS FALSE NEIGHBOUR: 'it returns false'. Refute it at one input. -/
def fnStillWrong : ChangeSpec := { name := "fnStill", fn := fun _ => fun
  | [d1, d2] => { results := [.lit (.bool false)], args := [d1, d2] }
  | _ => none }
def FnStillWrongFalsely : Prop := fnStillRow.holds Try.pinned (OpenSpec.ofChange fnStillWrong)

/-- 'laws.FnExactGoodMethod': WHATEVER THE INPUT: true; the input reads as it did. -/
def fnExactGoodMethodSpec : ChangeSpec := { name := "fnExactGoodMethod", fn := fun _ => fun
  | [d] => { results := [.lit (.bool true)], args := [d] }
  | _ => none }
def fnExactGoodMethodRow : OpenClaim := { program := "ytfocnflnpabmkaa", sum := "8ba11e06d58df3676cef4cc823a361063e18962efc7426436044cdfdc96fa2c0", func := "loop.example/g00894/laws.FnExactGoodMethod", spec := "fnExactGoodMethod", apart := false }
def FnExactGoodMethodSaid : Prop := fnExactGoodMethodRow.holds Try.pinned (OpenSpec.ofChange fnExactGoodMethodSpec)

/-- ITS FALSE NEIGHBOUR: 'it returns false'. Refute it at one input. -/
def fnExactGoodMethodWrong : ChangeSpec := { name := "fnExactGoodMethod", fn := fun _ => fun
  | [d] => { results := [.lit (.bool false)], args := [d] }
  | _ => none }
def FnExactGoodMethodWrongFalsely : Prop := fnExactGoodMethodRow.holds Try.pinned (OpenSpec.ofChange fnExactGoodMethodWrong)

/-- 'laws.FnExactLeadHead': WHATEVER THE INPUT: true; the input reads as it did. -/
def fnExactLeadHeadSpec : ChangeSpec := { name := "fnExactLeadHead", fn := fun _ => fun
  | [d] => { results := [.lit (.bool true)], args := [d] }
  | _ => none }
def fnExactLeadHeadRow : OpenClaim := { program := "ytfocnflnpabmkaa", sum := "8ba11e06d58df3676cef4cc823a361063e18962efc7426436044cdfdc96fa2c0", func := "loop.example/g00894/laws.FnExactLeadHead", spec := "fnExactLeadHead", apart := false }
def FnExactLeadHeadSaid : Prop := fnExactLeadHeadRow.holds Try.pinned (OpenSpec.ofChange fnExactLeadHeadSpec)

/-- ITS FALSE NEIGHBOUR: 'it returns false'. Refute it at one input. -/
def fnExactLeadHeadWrong : ChangeSpec := { name := "fnExactLeadHead", fn := fun _ => fun
  | [d] => { results := [.lit (.bool false)], args := [d] }
  | _ => none }
def FnExactLeadHeadWrongFalsely : Prop := fnExactLeadHeadRow.holds Try.pinned (OpenSpec.ofChange fnExactLeadHeadWrong)

/-- 'laws.FnExactLeadsIn': WHATEVER THE INPUT: true; the input reads as it did. -/
def fnExactLeadsInSpec : ChangeSpec := { name := "fnExactLeadsIn", fn := fun _ => fun
  | [d] => { results := [.lit (.bool true)], args := [d] }
  | _ => none }
def fnExactLeadsInRow : OpenClaim := { program := "ytfocnflnpabmkaa", sum := "8ba11e06d58df3676cef4cc823a361063e18962efc7426436044cdfdc96fa2c0", func := "loop.example/g00894/laws.FnExactLeadsIn", spec := "fnExactLeadsIn", apart := false }
def FnExactLeadsInSaid : Prop := fnExactLeadsInRow.holds Try.pinned (OpenSpec.ofChange fnExactLeadsInSpec)

/-- ITS FALSE NEIGHBOUR: 'it returns false'. Refute it at one input. -/
def fnExactLeadsInWrong : ChangeSpec := { name := "fnExactLeadsIn", fn := fun _ => fun
  | [d] => { results := [.lit (.bool false)], args := [d] }
  | _ => none }
def FnExactLeadsInWrongFalsely : Prop := fnExactLeadsInRow.holds Try.pinned (OpenSpec.ofChange fnExactLeadsInWrong)

/-- 'laws.FnExactIsPalindrome': WHATEVER THE INPUT: true; the input reads as it did. -/
def fnExactIsPalindromeSpec : ChangeSpec := { name := "fnExactIsPalindrome", fn := fun _ => fun
  | [d] => { results := [.lit (.bool true)], args := [d] }
  | _ => none }
def fnExactIsPalindromeRow : OpenClaim := { program := "ytfocnflnpabmkaa", sum := "8ba11e06d58df3676cef4cc823a361063e18962efc7426436044cdfdc96fa2c0", func := "loop.example/g00894/laws.FnExactIsPalindrome", spec := "fnExactIsPalindrome", apart := false }
def FnExactIsPalindromeSaid : Prop := fnExactIsPalindromeRow.holds Try.pinned (OpenSpec.ofChange fnExactIsPalindromeSpec)

/-- ITS FALSE NEIGHBOUR: 'it returns false'. Refute it at one input. -/
def fnExactIsPalindromeWrong : ChangeSpec := { name := "fnExactIsPalindrome", fn := fun _ => fun
  | [d] => { results := [.lit (.bool false)], args := [d] }
  | _ => none }
def FnExactIsPalindromeWrongFalsely : Prop := fnExactIsPalindromeRow.holds Try.pinned (OpenSpec.ofChange fnExactIsPalindromeWrong)

/-- 'laws.FnExactSameMethod': WHATEVER THE INPUT: true; the input reads as it did. -/
def fnExactSameMethodSpec : ChangeSpec := { name := "fnExactSameMethod", fn := fun _ => fun
  | [d1, d2] => { results := [.lit (.bool true)], args := [d1, d2] }
  | _ => none }
def fnExactSameMethodRow : OpenClaim := { program := "ytfocnflnpabmkaa", sum := "8ba11e06d58df3676cef4cc823a361063e18962efc7426436044cdfdc96fa2c0", func := "loop.example/g00894/laws.FnExactSameMethod", spec := "fnExactSameMethod", apart := false }
def FnExactSameMethodSaid : Prop := fnExactSameMethodRow.holds Try.pinned (OpenSpec.ofChange fnExactSameMethodSpec)

/-- ITS FALSE NEIGHBOUR: 'it returns false'. Refute it at one input. -/
def fnExactSameMethodWrong : ChangeSpec := { name := "fnExactSameMethod", fn := fun _ => fun
  | [d1, d2] => { results := [.lit (.bool false)], args := [d1, d2] }
  | _ => none }
def FnExactSameMethodWrongFalsely : Prop := fnExactSameMethodRow.holds Try.pinned (OpenSpec.ofChange fnExactSameMethodWrong)

/-- 'laws.FnExactLeadRows': WHATEVER THE INPUT: true; the input reads as it did. -/
def fnExactLeadRowsSpec : ChangeSpec := { name := "fnExactLeadRows", fn := fun _ => fun
  | [d1, d2] => { results := [.lit (.bool true)], args := [d1, d2] }
  | _ => none }
def fnExactLeadRowsRow : OpenClaim := { program := "ytfocnflnpabmkaa", sum := "8ba11e06d58df3676cef4cc823a361063e18962efc7426436044cdfdc96fa2c0", func := "loop.example/g00894/laws.FnExactLeadRows", spec := "fnExactLeadRows", apart := false }
def FnExactLeadRowsSaid : Prop := fnExactLeadRowsRow.holds Try.pinned (OpenSpec.ofChange fnExactLeadRowsSpec)

/-- ITS FALSE NEIGHBOUR: 'it returns false'. Refute it at one input. -/
def fnExactLeadRowsWrong : ChangeSpec := { name := "fnExactLeadRows", fn := fun _ => fun
  | [d1, d2] => { results := [.lit (.bool false)], args := [d1, d2] }
  | _ => none }
def FnExactLeadRowsWrongFalsely : Prop := fnExactLeadRowsRow.holds Try.pinned (OpenSpec.ofChange fnExactLeadRowsWrong)

/-- 'laws.FnExactCourseRows': WHATEVER THE INPUT: true; the input reads as it did. -/
def fnExactCourseRowsSpec : ChangeSpec := { name := "fnExactCourseRows", fn := fun _ => fun
  | [d] => { results := [.lit (.bool true)], args := [d] }
  | _ => none }
def fnExactCourseRowsRow : OpenClaim := { program := "ytfocnflnpabmkaa", sum := "8ba11e06d58df3676cef4cc823a361063e18962efc7426436044cdfdc96fa2c0", func := "loop.example/g00894/laws.FnExactCourseRows", spec := "fnExactCourseRows", apart := false }
def FnExactCourseRowsSaid : Prop := fnExactCourseRowsRow.holds Try.pinned (OpenSpec.ofChange fnExactCourseRowsSpec)

/-- ITS FALSE NEIGHBOUR: 'it returns false'. Refute it at one input. -/
def fnExactCourseRowsWrong : ChangeSpec := { name := "fnExactCourseRows", fn := fun _ => fun
  | [d] => { results := [.lit (.bool false)], args := [d] }
  | _ => none }
def FnExactCourseRowsWrongFalsely : Prop := fnExactCourseRowsRow.holds Try.pinned (OpenSpec.ofChange fnExactCourseRowsWrong)

/-- 'laws.FnExactHuntBells': WHATEVER THE INPUT: true; the input reads as it did. -/
def fnExactHuntBellsSpec : ChangeSpec := { name := "fnExactHuntBells", fn := fun _ => fun
  | [d] => { results := [.lit (.bool true)], args := [d] }
  | _ => none }
def fnExactHuntBellsRow : OpenClaim := { program := "ytfocnflnpabmkaa", sum := "8ba11e06d58df3676cef4cc823a361063e18962efc7426436044cdfdc96fa2c0", func := "loop.example/g00894/laws.FnExactHuntBells", spec := "fnExactHuntBells", apart := false }
def FnExactHuntBellsSaid : Prop := fnExactHuntBellsRow.holds Try.pinned (OpenSpec.ofChange fnExactHuntBellsSpec)

/-- ITS FALSE NEIGHBOUR: 'it returns false'. Refute it at one input. -/
def fnExactHuntBellsWrong : ChangeSpec := { name := "fnExactHuntBells", fn := fun _ => fun
  | [d] => { results := [.lit (.bool false)], args := [d] }
  | _ => none }
def FnExactHuntBellsWrongFalsely : Prop := fnExactHuntBellsRow.holds Try.pinned (OpenSpec.ofChange fnExactHuntBellsWrong)

/-- 'laws.FnExactStillBells': WHATEVER THE INPUT: true; the input reads as it did. -/
def fnExactStillBellsSpec : ChangeSpec := { name := "fnExactStillBells", fn := fun _ => fun
  | [d] => { results := [.lit (.bool true)], args := [d] }
  | _ => none }
def fnExactStillBellsRow : OpenClaim := { program := "ytfocnflnpabmkaa", sum := "8ba11e06d58df3676cef4cc823a361063e18962efc7426436044cdfdc96fa2c0", func := "loop.example/g00894/laws.FnExactStillBells", spec := "fnExactStillBells", unfollowed := true, recurses := true, apart := false }
def FnExactStillBellsSaid : Prop := fnExactStillBellsRow.holds Try.pinned (OpenSpec.ofChange fnExactStillBellsSpec)

/-- ITS FALSE NEIGHBOUR: 'it returns false'. Refute it at one input. -/
def fnExactStillBellsWrong : ChangeSpec := { name := "fnExactStillBells", fn := fun _ => fun
  | [d] => { results := [.lit (.bool false)], args := [d] }
  | _ => none }
def FnExactStillBellsWrongFalsely : Prop := fnExactStillBellsRow.holds Try.pinned (OpenSpec.ofChange fnExactStillBellsWrong)

/-- 'laws.FnExactTurnMethod': WHATEVER THE INPUT: true; the input reads as it did. -/
def fnExactTurnMethodSpec : ChangeSpec := { name := "fnExactTurnMethod", fn := fun _ => fun
  | [d] => { results := [.lit (.bool true)], args := [d] }
  | _ => none }
def fnExactTurnMethodRow : OpenClaim := { program := "ytfocnflnpabmkaa", sum := "8ba11e06d58df3676cef4cc823a361063e18962efc7426436044cdfdc96fa2c0", func := "loop.example/g00894/laws.FnExactTurnMethod", spec := "fnExactTurnMethod", apart := false }
def FnExactTurnMethodSaid : Prop := fnExactTurnMethodRow.holds Try.pinned (OpenSpec.ofChange fnExactTurnMethodSpec)

/-- ITS FALSE NEIGHBOUR: 'it returns false'. Refute it at one input. -/
def fnExactTurnMethodWrong : ChangeSpec := { name := "fnExactTurnMethod", fn := fun _ => fun
  | [d] => { results := [.lit (.bool false)], args := [d] }
  | _ => none }
def FnExactTurnMethodWrongFalsely : Prop := fnExactTurnMethodRow.holds Try.pinned (OpenSpec.ofChange fnExactTurnMethodWrong)

/-- 'laws.FnExactStartAt': WHATEVER THE INPUT: true; the input reads as it did. -/
def fnExactStartAtSpec : ChangeSpec := { name := "fnExactStartAt", fn := fun _ => fun
  | [d1, d2] => { results := [.lit (.bool true)], args := [d1, d2] }
  | _ => none }
def fnExactStartAtRow : OpenClaim := { program := "ytfocnflnpabmkaa", sum := "8ba11e06d58df3676cef4cc823a361063e18962efc7426436044cdfdc96fa2c0", func := "loop.example/g00894/laws.FnExactStartAt", spec := "fnExactStartAt", apart := false }
def FnExactStartAtSaid : Prop := fnExactStartAtRow.holds Try.pinned (OpenSpec.ofChange fnExactStartAtSpec)

/-- ITS FALSE NEIGHBOUR: 'it returns false'. Refute it at one input. -/
def fnExactStartAtWrong : ChangeSpec := { name := "fnExactStartAt", fn := fun _ => fun
  | [d1, d2] => { results := [.lit (.bool false)], args := [d1, d2] }
  | _ => none }
def FnExactStartAtWrongFalsely : Prop := fnExactStartAtRow.holds Try.pinned (OpenSpec.ofChange fnExactStartAtWrong)

/- THE SECOND FORM. 'bulk': how many values and letters a reading holds, each counted each time it is reached (what is shared counts as often as it is met; a slice's spare places count too). A statement '..UptoSaid' is the law's where the arguments, and the package variables that the reading takes, are together of bulk at most 1048576: NARROWER than '..Said'. Prove '..Said' where nothing that the law and all that it calls make is longer than what came in: it says more and counts as full. Else prove '..UptoSaid'. A law counts once. -/
mutual
def uptoBulk {H : Type} : DataW H → Nat
  | .lit (.string bytes) => bytes.length + 1
  | .lit _ => 1
  | .nil => 1
  | .ptr d => uptoBulk d + 1
  | .slice elems spare => uptoBulkAll elems + uptoBulkAll spare + 1
  | .agg parts => uptoBulkAll parts + 1
  | .iface _ d => uptoBulk d + 1
  | .map entries => uptoBulkEntries entries + 1
  | .held _ => 1
def uptoBulkAll {H : Type} : List (DataW H) → Nat
  | [] => 0
  | d :: r => uptoBulk d + uptoBulkAll r
def uptoBulkEntries {H : Type} : List (Lit × DataW H) → Nat
  | [] => 0
  | x :: r => uptoBulkEntry x + uptoBulkEntries r
def uptoBulkEntry {H : Type} : Lit × DataW H → Nat
  | (.string bytes, d) => bytes.length + uptoBulk d + 1
  | (_, d) => uptoBulk d + 1
 end
def uptoSmall : (H : Type) → List (DataW H) → Bool := fun _ ds => decide (uptoBulkAll ds ≤ 1048576)
def OpenSpec.upto (s : _root_.Go.ChangeSpec) : _root_.Go.OpenSpec := { _root_.Go.OpenSpec.ofChange s with cond := some uptoSmall }

/-- 'laws.FnStarts', WHERE WHAT IT READS IS OF BULK AT MOST 1048576: true; the input reads as it did. -/
def fnStartsUptoRow : OpenClaim := { program := "ytfocnflnpabmkaa", sum := "8ba11e06d58df3676cef4cc823a361063e18962efc7426436044cdfdc96fa2c0", func := "loop.example/g00894/laws.FnStarts", spec := "fnStarts", recurses := true, apart := false, narrowed := true }
def FnStartsUptoSaid : Prop := fnStartsUptoRow.holds Try.pinned (OpenSpec.upto fnStartsSpec)

/-- 'laws.FnStill', WHERE WHAT IT READS IS OF BULK AT MOST 1048576: true; the input reads as it did. -/
def fnStillUptoRow : OpenClaim := { program := "ytfocnflnpabmkaa", sum := "8ba11e06d58df3676cef4cc823a361063e18962efc7426436044cdfdc96fa2c0", func := "loop.example/g00894/laws.FnStill", spec := "fnStill", unfollowed := true, recurses := true, apart := false, narrowed := true }
def FnStillUptoSaid : Prop := fnStillUptoRow.holds Try.pinned (OpenSpec.upto fnStillSpec)

/-- 'laws.FnExactGoodMethod', WHERE WHAT IT READS IS OF BULK AT MOST 1048576: true; the input reads as it did. -/
def fnExactGoodMethodUptoRow : OpenClaim := { program := "ytfocnflnpabmkaa", sum := "8ba11e06d58df3676cef4cc823a361063e18962efc7426436044cdfdc96fa2c0", func := "loop.example/g00894/laws.FnExactGoodMethod", spec := "fnExactGoodMethod", apart := false, narrowed := true }
def FnExactGoodMethodUptoSaid : Prop := fnExactGoodMethodUptoRow.holds Try.pinned (OpenSpec.upto fnExactGoodMethodSpec)

/-- 'laws.FnExactLeadHead', WHERE WHAT IT READS IS OF BULK AT MOST 1048576: true; the input reads as it did. -/
def fnExactLeadHeadUptoRow : OpenClaim := { program := "ytfocnflnpabmkaa", sum := "8ba11e06d58df3676cef4cc823a361063e18962efc7426436044cdfdc96fa2c0", func := "loop.example/g00894/laws.FnExactLeadHead", spec := "fnExactLeadHead", apart := false, narrowed := true }
def FnExactLeadHeadUptoSaid : Prop := fnExactLeadHeadUptoRow.holds Try.pinned (OpenSpec.upto fnExactLeadHeadSpec)

/-- 'laws.FnExactLeadsIn', WHERE WHAT IT READS IS OF BULK AT MOST 1048576: true; the input reads as it did. -/
def fnExactLeadsInUptoRow : OpenClaim := { program := "ytfocnflnpabmkaa", sum := "8ba11e06d58df3676cef4cc823a361063e18962efc7426436044cdfdc96fa2c0", func := "loop.example/g00894/laws.FnExactLeadsIn", spec := "fnExactLeadsIn", apart := false, narrowed := true }
def FnExactLeadsInUptoSaid : Prop := fnExactLeadsInUptoRow.holds Try.pinned (OpenSpec.upto fnExactLeadsInSpec)

/-- 'laws.FnExactIsPalindrome', WHERE WHAT IT READS IS OF BULK AT MOST 1048576: true; the input reads as it did. -/
def fnExactIsPalindromeUptoRow : OpenClaim := { program := "ytfocnflnpabmkaa", sum := "8ba11e06d58df3676cef4cc823a361063e18962efc7426436044cdfdc96fa2c0", func := "loop.example/g00894/laws.FnExactIsPalindrome", spec := "fnExactIsPalindrome", apart := false, narrowed := true }
def FnExactIsPalindromeUptoSaid : Prop := fnExactIsPalindromeUptoRow.holds Try.pinned (OpenSpec.upto fnExactIsPalindromeSpec)

/-- 'laws.FnExactSameMethod', WHERE WHAT IT READS IS OF BULK AT MOST 1048576: true; the input reads as it did. -/
def fnExactSameMethodUptoRow : OpenClaim := { program := "ytfocnflnpabmkaa", sum := "8ba11e06d58df3676cef4cc823a361063e18962efc7426436044cdfdc96fa2c0", func := "loop.example/g00894/laws.FnExactSameMethod", spec := "fnExactSameMethod", apart := false, narrowed := true }
def FnExactSameMethodUptoSaid : Prop := fnExactSameMethodUptoRow.holds Try.pinned (OpenSpec.upto fnExactSameMethodSpec)

/-- 'laws.FnExactLeadRows', WHERE WHAT IT READS IS OF BULK AT MOST 1048576: true; the input reads as it did. -/
def fnExactLeadRowsUptoRow : OpenClaim := { program := "ytfocnflnpabmkaa", sum := "8ba11e06d58df3676cef4cc823a361063e18962efc7426436044cdfdc96fa2c0", func := "loop.example/g00894/laws.FnExactLeadRows", spec := "fnExactLeadRows", apart := false, narrowed := true }
def FnExactLeadRowsUptoSaid : Prop := fnExactLeadRowsUptoRow.holds Try.pinned (OpenSpec.upto fnExactLeadRowsSpec)

/-- 'laws.FnExactCourseRows', WHERE WHAT IT READS IS OF BULK AT MOST 1048576: true; the input reads as it did. -/
def fnExactCourseRowsUptoRow : OpenClaim := { program := "ytfocnflnpabmkaa", sum := "8ba11e06d58df3676cef4cc823a361063e18962efc7426436044cdfdc96fa2c0", func := "loop.example/g00894/laws.FnExactCourseRows", spec := "fnExactCourseRows", apart := false, narrowed := true }
def FnExactCourseRowsUptoSaid : Prop := fnExactCourseRowsUptoRow.holds Try.pinned (OpenSpec.upto fnExactCourseRowsSpec)

/-- 'laws.FnExactHuntBells', WHERE WHAT IT READS IS OF BULK AT MOST 1048576: true; the input reads as it did. -/
def fnExactHuntBellsUptoRow : OpenClaim := { program := "ytfocnflnpabmkaa", sum := "8ba11e06d58df3676cef4cc823a361063e18962efc7426436044cdfdc96fa2c0", func := "loop.example/g00894/laws.FnExactHuntBells", spec := "fnExactHuntBells", apart := false, narrowed := true }
def FnExactHuntBellsUptoSaid : Prop := fnExactHuntBellsUptoRow.holds Try.pinned (OpenSpec.upto fnExactHuntBellsSpec)

/-- 'laws.FnExactStillBells', WHERE WHAT IT READS IS OF BULK AT MOST 1048576: true; the input reads as it did. -/
def fnExactStillBellsUptoRow : OpenClaim := { program := "ytfocnflnpabmkaa", sum := "8ba11e06d58df3676cef4cc823a361063e18962efc7426436044cdfdc96fa2c0", func := "loop.example/g00894/laws.FnExactStillBells", spec := "fnExactStillBells", unfollowed := true, recurses := true, apart := false, narrowed := true }
def FnExactStillBellsUptoSaid : Prop := fnExactStillBellsUptoRow.holds Try.pinned (OpenSpec.upto fnExactStillBellsSpec)

/-- 'laws.FnExactTurnMethod', WHERE WHAT IT READS IS OF BULK AT MOST 1048576: true; the input reads as it did. -/
def fnExactTurnMethodUptoRow : OpenClaim := { program := "ytfocnflnpabmkaa", sum := "8ba11e06d58df3676cef4cc823a361063e18962efc7426436044cdfdc96fa2c0", func := "loop.example/g00894/laws.FnExactTurnMethod", spec := "fnExactTurnMethod", apart := false, narrowed := true }
def FnExactTurnMethodUptoSaid : Prop := fnExactTurnMethodUptoRow.holds Try.pinned (OpenSpec.upto fnExactTurnMethodSpec)

/-- 'laws.FnExactStartAt', WHERE WHAT IT READS IS OF BULK AT MOST 1048576: true; the input reads as it did. -/
def fnExactStartAtUptoRow : OpenClaim := { program := "ytfocnflnpabmkaa", sum := "8ba11e06d58df3676cef4cc823a361063e18962efc7426436044cdfdc96fa2c0", func := "loop.example/g00894/laws.FnExactStartAt", spec := "fnExactStartAt", apart := false, narrowed := true }
def FnExactStartAtUptoSaid : Prop := fnExactStartAtUptoRow.holds Try.pinned (OpenSpec.upto fnExactStartAtSpec)

end Rows
end Go.Proofs.Ytfocnflnpabmkaa
