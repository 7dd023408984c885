/- SwapsOf and PlacesOf, and the laws on them. -/
import Derived.Test.YtpnagaokmfaaiaaB9
namespace Go.Proofs.Ytpnagaokmfaaiaa
open Go.RowKit

/-- new numbers, and a word -/
def NumsAny (xs : List Nat) (b : Bool) (w : World) (e : Ending) (w' : World) : Prop :=
  ∃ v, e = .returned (.tuple #[v, .bool b]) ∧ New w.heap.size w' 3 v (nums xs) ∧ Below w.heap.size w w'

/-- what SwapsOf gives, for whatever arguments -/
def anySwapsOf (n : Int) (s : ByteArray) : List Nat := if goodC n s = true then swapsOf n.toNat (lets s) else []
theorem anySwapsOf_len (n : Int) (s : ByteArray) : (anySwapsOf n s).length ≤ 8 := by
  unfold anySwapsOf
  split
  · rename_i h
    obtain ⟨m, rfl, hg⟩ := goodC_stage h
    have := chs_roads m (goodL_three hg) (goodL_eight hg) _ (mem_chs hg)
    exact this.2.2.2.2
  · simp

/-- what PlacesOf gives, for whatever arguments -/
def anyPlacesOf (n : Int) (s : ByteArray) : List Nat := if goodC n s = true then placesOf n.toNat (lets s) else []
theorem anyPlacesOf_len (n : Int) (s : ByteArray) : (anyPlacesOf n s).length ≤ 8 := by
  unfold anyPlacesOf
  split
  · rename_i h
    obtain ⟨m, rfl, hg⟩ := goodC_stage h
    have := chs_roads m (goodL_three hg) (goodL_eight hg) _ (mem_chs hg)
    exact this.2.2.2.1
  · simp

end Go.Proofs.Ytpnagaokmfaaiaa
