/- The program's change of a row. -/
import Derived.Test.YtpnagaokmfaaiaaB10
import Derived.Test.YtpnagaokmfaaiaaQ4
namespace Go.Proofs.Ytpnagaokmfaaiaa
open Go.RowKit

/-- bytes as elements -/
def byts (l : List Nat) : List Value := l.map fun (b : Nat) => .int .u8 b
theorem byts_len (l : List Nat) : (byts l).length = l.length := by simp [byts]
theorem byts_snoc (l : List Nat) (b : Nat) : byts l ++ [.int .u8 b] = byts (l ++ [b]) := by simp [byts]
theorem strOf_txt (l : List Nat) : strOf l.length (fun i => l.getD i 0) = txt l := by
  unfold strOf txt
  congr 2
  apply List.ext_getElem
  · simp
  · intro k h1 h2
    have hk : k < l.length := by simpa using h2
    simp [List.getD_eq_getElem?_getD, hk]

/-- the text of what was found: "-" where no place is made -/
def dashOf : Option (List Nat) → Option (List Nat)
  | none => none
  | some [] => some [45]
  | some (b :: t) => some (b :: t)
theorem chText_ne {n : Nat} {f : Nat → Nat} (h : ¬ to8 f = to8 (rdf n)) : chText n f = dashOf (ctx n f n 0) := by
  unfold chText
  rw [if_neg h]
  cases ctx n f n 0 with
  | none => rfl
  | some t => cases t <;> rfl
/-- the ending of changeText -/
def chEnd (r : Option (List Nat)) : Value := match r with
  | none => .tuple #[.string ⟨#[]⟩, .bool false]
  | some l => .tuple #[.string (txt l), .bool true]

end Go.Proofs.Ytpnagaokmfaaiaa
