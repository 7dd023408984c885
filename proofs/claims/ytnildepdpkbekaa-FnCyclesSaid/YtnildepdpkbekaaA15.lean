/- OrderOf, and the law on it. -/
import Derived.Test.YtnildepdpkbekaaA14
namespace Go.Proofs.Ytnildepdpkbekaa
open Go.RowKit
set_option linter.unusedSimpArgs false

theorem mx_row {n : Nat} (f : Nat → Nat) (h8 : n ≤ 8) : (strOf n f).size ≤ maxLen := by rw [strOf_size]; unfold maxLen; omega

set_option maxRecDepth 100000 in
set_option maxHeartbeats 1000000 in
theorem iOrderOf_no (s : ByteArray) (hs : s.size ≤ maxLen) (hb : goodB s = false) (w : World) :
    Calls Try.prog 17 #[.string s] w fun e w' => e = .returned (.tuple #[.int .i64 0, .bool false]) ∧ Below w.heap.size w w' := by
  have H := Lib.hid hb
  clear hb
  go_enter Try.func17, Try.ntmps17
  go_wp2_with fail
  refine (digitsOf_no s hs H.out _).mono ?_
  rintro e w1 ⟨rfl, hb1⟩
  go_wp2_with (refine wpList_store_row rfl 56 _ _ rfl _ _ rfl rfl 56 _ (heap_at _ _ _ (by simp)) (by kernel_rfl) rfl (by kernel_rfl) ?_; rw [setRow_at _ _ _ _ _ (by simp)])
  go_ret2
  exact ⟨rfl, hb1.alloc hb1.size _⟩

theorem digitsOf_row (n : Nat) (f : Nat → Nat) (hf : IsRow n f) (w : World) :
    Calls Try.prog 41 #[.string (strOf n f)] w fun e w' => e = .returned (.tuple #[.agg (dig8 f), .bool true]) ∧ Below w.heap.size w w' := by
  have := digitsOf_yes (strOf n f) (mx_row f hf.eight) (by rw [strOf_size, dg_strOf hf]; exact hf) w
  rw [dg_strOf hf] at this
  exact this

set_option maxRecDepth 100000 in
set_option maxHeartbeats 1000000 in
theorem iOrderOf_yes (n : Nat) (f : Nat → Nat) (hf : IsRow n f) (m : Nat) (hm : IsOrd n f m) (w : World) :
    Calls Try.prog 17 #[.string (strOf n f)] w fun e w' => e = .returned (.tuple #[.int .i64 m, .bool true]) ∧ Below w.heap.size w w' := by
  have HF := Lib.hid hf
  have HM := Lib.hid hm
  clear hf hm
  go_enter Try.func17, Try.ntmps17
  go_wp2_with fail
  refine (digitsOf_row n f HF.out _).mono ?_
  rintro e w1 ⟨rfl, hb1⟩
  go_wp2_with (first | (refine wpList_store_row rfl 56 _ _ rfl _ _ rfl rfl 56 _ (heap_at _ _ _ (by simp)) (by kernel_rfl) rfl (by kernel_rfl) ?_; rw [setRow_at _ _ _ _ _ (by simp)]) | (refine wpList_load_row rfl 56 _ rfl _ rfl 56 _ _ _ (heap_at _ _ _ (by simp)) Try.underlying56 rfl (by kernel_rfl) ?_))
  refine (order_any n f HF.out m HM.out _).mono ?_
  rintro e w2 ⟨rfl, hb2⟩
  go_wp2
  go_ret2
  exact ⟨rfl, (hb1.alloc hb1.size _).trans (hb2.mono (by have := hb1.size; simp; omega))⟩

end Go.Proofs.Ytnildepdpkbekaa
