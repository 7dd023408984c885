/- The law on GoodRow; products in the model and in the program. -/
import Derived.Test.YtnildepdpkbekaaA6
namespace Go.Proofs.Ytnildepdpkbekaa
open Go.RowKit

set_option maxRecDepth 100000 in
set_option maxHeartbeats 1000000 in
theorem l1At_any (n : Nat) (f : Nat → Nat) (s : ByteArray) (hs : IsStr n f s) (p : Int) (h1 : 1 ≤ p) (h2 : p ≤ n) (hn : n ≤ 8) (h48 : 48 ≤ f (p.toNat - 1)) (w : World) :
    Calls Try.prog 50 #[.string s, .int .i64 p] w fun e w' => e = .returned (.int .i64 ((f (p.toNat - 1) : Int) - 48)) ∧ w = w' := by
  obtain ⟨hsz, hat⟩ := hs
  obtain ⟨k, hk0⟩ : ∃ k : Nat, p = (k : Int) + 1 := ⟨(p - 1).toNat, by omega⟩
  subst hk0
  have e1 : ((k : Int) + 1).toNat - 1 = k := by omega
  rw [e1] at h48 ⊢
  clear e1
  have hk : k < s.size := by omega
  have hb : (f k : Int) < 256 := by have := hat k hk; have := UInt8.toNat_lt s[k]; omega
  have h48' : (48 : Int) ≤ f k := by omega
  clear hsz
  go_enter Try.func50, Try.ntmps50
  go_wp2
  go_ret
  exact ⟨rfl, rfl⟩
end Go.Proofs.Ytnildepdpkbekaa
