/- The law on powers. -/
import Derived.Test.YtnildepdpkbekaaA26
namespace Go.Proofs.Ytnildepdpkbekaa
open Go.RowKit
set_option linter.unusedSimpArgs false

open Classical in
noncomputable def pwB (s : ByteArray) (k : Int) : Bool := decide (goodB s = true ∧ -1000 ≤ k ∧ k ≤ 1000)
noncomputable def pwS (s : ByteArray) (k : Int) : ByteArray := if pwB s k = true then strOf s.size (powZ s.size (dg s) k) else ⟨#[]⟩
noncomputable def evV (s : ByteArray) : Bool := if goodB s = true then evenB (invB (dg s) s.size) else false
theorem iIsEven_fn (s : ByteArray) (hs : s.size ≤ maxLen) (w : World) :
    Calls Try.prog 18 #[.string s] w fun e w' => e = .returned (.tuple #[.bool (evV s), .bool (goodB s)]) ∧ Below w.heap.size w w' := by
  unfold evV
  cases h : goodB s
  · exact iIsEven_no s hs h w
  · have e := strOf_of_isStr (isStr_dg s)
    have := iIsEven_yes s.size (dg s) (goodB_row h) w
    rw [← e] at this
    exact this
theorem powZ_nat (n : Nat) (f : Nat → Nat) (k : Nat) : powZ n f k = powR n f k := by
  unfold powZ
  rw [if_neg (by omega)]
  simp
theorem powZ_neg1 {n : Nat} {f : Nat → Nat} (hf : IsRow n f) : powZ n f (-1) = invF n f := by
  unfold powZ
  rw [if_pos (by omega)]
  exact pow_one (isRow_inv hf)

end Go.Proofs.Ytnildepdpkbekaa
