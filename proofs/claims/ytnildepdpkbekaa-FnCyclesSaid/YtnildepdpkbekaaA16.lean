/- PowerOf, and the law on it. -/
import Derived.Test.YtnildepdpkbekaaA15
namespace Go.Proofs.Ytnildepdpkbekaa
open Go.RowKit
set_option linter.unusedSimpArgs false

/-- the exponent that the program uses -/
theorem expo {m : Nat} (k : Int) (hm : 1 ≤ m) (hm2 : m ≤ 840) : ∃ r : Nat, (wrap64 (k.tmod m + m)).tmod m = r ∧ (r : Int) = k % m ∧ r < m := by
  have hm0 : (0 : Int) < m := by omega
  have h1 : -(m : Int) < k.tmod m := Int.lt_tmod_of_pos k hm0
  have h2 : 0 ≤ k.tmod m + m := by omega
  have h3 : (k.tmod m + m).tmod m = (k.tmod m + m) % m := Int.tmod_eq_emod_of_nonneg h2
  have h4 : (k.tmod m + m) % m = k % m := by
    rw [Int.add_emod_right, Int.tmod_eq_emod]
    split
    · simp
    · rw [Int.sub_emod]
      simp
  have h5 := Int.emod_nonneg k (show (m : Int) ≠ 0 by omega)
  have h6 := Int.emod_lt_of_pos k hm0
  have h7 : k.tmod m < m := Int.tmod_lt_of_pos k hm0
  refine ⟨(k % m).toNat, by rw [IntWalk.wrap64_in _ (by omega), h3, h4]; omega, by omega, by omega⟩

/-- powers, negative ones too -/
def powZ (n : Nat) (f : Nat → Nat) (k : Int) : Nat → Nat := if k < 0 then powR n (invF n f) (-k).toNat else powR n f k.toNat
theorem powZ_expo {n : Nat} {f : Nat → Nat} (h : IsRow n f) {m : Nat} (hm : IsOrd n f m) (k : Int) (r : Nat) (hr : (r : Int) = k % m) : powR n f r = powZ n f k := by
  have hmp := hm.pos
  unfold powZ
  split
  · rename_i hk
    refine (pow_neg h hm.back (-k).toNat r ⟨(-(k / m)).toNat, ?_⟩).symm
    have e := Int.mul_ediv_add_emod k m
    have hneg : k / m < 0 := Int.ediv_neg_of_neg_of_pos hk (by omega)
    have : ((m * (-(k / (m : Int))).toNat : Nat) : Int) = -((m : Int) * (k / m)) := by
      rw [Int.natCast_mul, Int.toNat_of_nonneg (by omega), Int.mul_neg]
    omega
  · rename_i hk
    obtain ⟨q, rfl⟩ := Int.eq_ofNat_of_zero_le (show 0 ≤ k by omega)
    have : r = q % m := by omega
    rw [this, pow_mod h hm.back]
    simp
theorem isRow_powZ {n : Nat} {f : Nat → Nat} (h : IsRow n f) (k : Int) : IsRow n (powZ n f k) := by
  unfold powZ; split
  · exact isRow_pow (isRow_inv h) _
  · exact isRow_pow h _

end Go.Proofs.Ytnildepdpkbekaa
