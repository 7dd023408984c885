/- The law on GoodRow; products in the model and in the program. -/
import Derived.Test.YtkjdldidgijloaaA6
namespace Go.Proofs.Ytkjdldidgijloaa
open Go.RowKit

set_option maxRecDepth 100000 in
set_option maxHeartbeats 1000000 in
theorem sGoodRow_any (s : ByteArray) (hs : s.size ≤ maxLen) (w : World) :
    Calls Try.prog 21 #[.string s] w fun e w' => e = .returned (.bool (goodB s)) ∧ Below w.heap.size w w' := by
  go_enter Try.func21, Try.ntmps21
  go_wp2_with fail
  refine (l1Row_any s hs _).mono ?_
  rintro e w1 ⟨rfl, hb⟩
  go_wp2
  go_ret
  exact ⟨rfl, hb⟩

set_option maxRecDepth 100000 in
set_option maxHeartbeats 1000000 in
theorem lawGoodRow (s : ByteArray) (w : World) (hs : s.size ≤ maxLen) :
    Calls Try.prog 6 #[.string s] w fun e w' => e = .returned (.bool true) ∧ Below w.heap.size w w' := by
  by_cases hbig : 1048576 < s.size
  · have hbig' : (1048576 : Int) < s.size := by omega
    go_enter Try.func6, Try.ntmps6
    go_wp2
    go_ret
    exact ⟨rfl, Below.refl _ _⟩
  · have hbig' : (s.size : Int) ≤ 1048576 := by omega
    go_enter Try.func6, Try.ntmps6
    go_wp2_with fail
    refine (sGoodRow_any s hs _).mono ?_
    rintro e w1 ⟨rfl, hb1⟩
    go_wp2_with fail
    refine (iGoodRow_any s hs _).mono ?_
    rintro e w2 ⟨rfl, hb2⟩
    go_wp2
    go_ret
    exact ⟨rfl, hb1.trans (hb2.mono hb1.size)⟩

set_option maxRecDepth 100000 in
set_option maxHeartbeats 1000000 in
theorem l1At_any (n : Nat) (f : Nat → Nat) (s : ByteArray) (hs : IsStr n f s) (p : Int) (h1 : 1 ≤ p) (h2 : p ≤ n) (hn : n ≤ 8) (h48 : 48 ≤ f (p.toNat - 1)) (w : World) :
    Calls Try.prog 73 #[.string s, .int .i64 p] w fun e w' => e = .returned (.int .i64 ((f (p.toNat - 1) : Int) - 48)) ∧ w = w' := by
  obtain ⟨hsz, hat⟩ := hs
  obtain ⟨k, hk0⟩ : ∃ k : Nat, p = (k : Int) + 1 := ⟨(p - 1).toNat, by omega⟩
  subst hk0
  have e1 : ((k : Int) + 1).toNat - 1 = k := by omega
  rw [e1] at h48 ⊢
  clear e1
  have hk : k < s.size := by omega
  have hb : (f k : Int) < 256 := by have := hat k hk; have := UInt8.toNat_lt s[k]; omega
  have h48' : (48 : Int) ≤ f k := by omega
  clear hsz
  go_enter Try.func73, Try.ntmps73
  go_wp2
  go_ret
  exact ⟨rfl, rfl⟩
end Go.Proofs.Ytkjdldidgijloaa
