/- OrderOf, and the law on it. -/
import Derived.Test.YtkjdldidgijloaaA14
namespace Go.Proofs.Ytkjdldidgijloaa
open Go.RowKit
set_option linter.unusedSimpArgs false

theorem mx_row {n : Nat} (f : Nat → Nat) (h8 : n ≤ 8) : (strOf n f).size ≤ maxLen := by rw [strOf_size]; unfold maxLen; omega

set_option maxRecDepth 100000 in
set_option maxHeartbeats 1000000 in
theorem sOrderOf_no (s : ByteArray) (hs : s.size ≤ maxLen) (hb : goodB s = false) (w : World) :
    Calls Try.prog 32 #[.string s] w fun e w' => e = .returned (.tuple #[.int .i64 0, .bool false]) ∧ Below w.heap.size w w' := by
  have H := Lib.hid hb
  clear hb
  go_enter Try.func32, Try.ntmps32
  go_wp2_with fail
  refine (l1Row_any s hs _).mono ?_
  rintro e w1 ⟨rfl, hb1⟩
  rw [H.out]
  go_wp2
  go_ret2
  exact ⟨rfl, hb1⟩

set_option maxRecDepth 100000 in
set_option maxHeartbeats 1000000 in
theorem sOrderOf_yes (n : Nat) (f : Nat → Nat) (hf : IsRow n f) (m : Nat) (hm : IsOrd n f m) (w : World) :
    Calls Try.prog 32 #[.string (strOf n f)] w fun e w' => e = .returned (.tuple #[.int .i64 m, .bool true]) ∧ Below w.heap.size w w' := by
  have H := Lib.hid (goodB_strOf hf)
  have HF := Lib.hid hf
  have HM := Lib.hid hm
  clear hf hm
  go_enter Try.func32, Try.ntmps32
  go_wp2_with fail
  refine (l1Row_any _ (mx_row f HF.out.eight) _).mono ?_
  rintro e w1 ⟨rfl, hb1⟩
  rw [H.out]
  go_wp2_with fail
  refine (l1Order_any n f HF.out m HM.out _).mono ?_
  rintro e w2 ⟨rfl, rfl⟩
  go_wp2
  go_ret2
  exact ⟨rfl, hb1⟩

set_option maxRecDepth 100000 in
set_option maxHeartbeats 1000000 in
theorem iOrderOf_no (s : ByteArray) (hs : s.size ≤ maxLen) (hb : goodB s = false) (w : World) :
    Calls Try.prog 31 #[.string s] w fun e w' => e = .returned (.tuple #[.int .i64 0, .bool false]) ∧ Below w.heap.size w w' := by
  have H := Lib.hid hb
  clear hb
  go_enter Try.func31, Try.ntmps31
  go_wp2_with fail
  refine (digitsOf_no s hs H.out _).mono ?_
  rintro e w1 ⟨rfl, hb1⟩
  go_wp2_with (refine wpList_store_row rfl 60 _ _ rfl _ _ rfl rfl 60 _ (heap_at _ _ _ (by simp)) (by kernel_rfl) rfl (by kernel_rfl) ?_; rw [setRow_at _ _ _ _ _ (by simp)])
  go_ret2
  exact ⟨rfl, hb1.alloc hb1.size _⟩

theorem digitsOf_row (n : Nat) (f : Nat → Nat) (hf : IsRow n f) (w : World) :
    Calls Try.prog 53 #[.string (strOf n f)] w fun e w' => e = .returned (.tuple #[.agg (dig8 f), .bool true]) ∧ Below w.heap.size w w' := by
  have := digitsOf_yes (strOf n f) (mx_row f hf.eight) (by rw [strOf_size, dg_strOf hf]; exact hf) w
  rw [dg_strOf hf] at this
  exact this

set_option maxRecDepth 100000 in
set_option maxHeartbeats 1000000 in
theorem iOrderOf_yes (n : Nat) (f : Nat → Nat) (hf : IsRow n f) (m : Nat) (hm : IsOrd n f m) (w : World) :
    Calls Try.prog 31 #[.string (strOf n f)] w fun e w' => e = .returned (.tuple #[.int .i64 m, .bool true]) ∧ Below w.heap.size w w' := by
  have HF := Lib.hid hf
  have HM := Lib.hid hm
  clear hf hm
  go_enter Try.func31, Try.ntmps31
  go_wp2_with fail
  refine (digitsOf_row n f HF.out _).mono ?_
  rintro e w1 ⟨rfl, hb1⟩
  go_wp2_with (first | (refine wpList_store_row rfl 60 _ _ rfl _ _ rfl rfl 60 _ (heap_at _ _ _ (by simp)) (by kernel_rfl) rfl (by kernel_rfl) ?_; rw [setRow_at _ _ _ _ _ (by simp)]) | (refine wpList_load_row rfl 60 _ rfl _ rfl 60 _ _ _ (heap_at _ _ _ (by simp)) Try.underlying60 rfl (by kernel_rfl) ?_))
  refine (order_any n f HF.out m HM.out _).mono ?_
  rintro e w2 ⟨rfl, hb2⟩
  go_wp2
  go_ret2
  exact ⟨rfl, (hb1.alloc hb1.size _).trans (hb2.mono (by have := hb1.size; simp; omega))⟩

set_option maxRecDepth 100000 in
set_option maxHeartbeats 1000000 in
theorem lawOrderOf (s : ByteArray) (w : World) (hs : s.size ≤ maxLen) :
    Calls Try.prog 11 #[.string s] w fun e w' => e = .returned (.bool true) ∧ Below w.heap.size w w' := by
  by_cases hbig : 1048576 < s.size
  · have hbig' : (1048576 : Int) < s.size := by omega
    go_enter Try.func11, Try.ntmps11
    go_wp2
    go_ret
    exact ⟨rfl, Below.refl _ _⟩
  · have hbig' : (s.size : Int) ≤ 1048576 := by omega
    cases hb : goodB s
    · have H := Lib.hid hb
      clear hb
      go_enter Try.func11, Try.ntmps11
      go_wp2_with fail
      refine (sOrderOf_no s hs H.out _).mono ?_
      rintro e w1 ⟨rfl, hb1⟩
      go_wp2_with fail
      refine (iOrderOf_no s hs H.out _).mono ?_
      rintro e w2 ⟨rfl, hb2⟩
      go_wp2
      go_ret
      exact ⟨rfl, hb1.trans (hb2.mono hb1.size)⟩
    · obtain ⟨n, f, hf, rfl⟩ := str_of_good hb
      obtain ⟨m, hm⟩ := ord_exists hf
      have HF := Lib.hid hf
      have HM := Lib.hid hm
      clear hf hm hb
      go_enter Try.func11, Try.ntmps11
      go_wp2_with fail
      refine (sOrderOf_yes n f HF.out m HM.out _).mono ?_
      rintro e w1 ⟨rfl, hb1⟩
      go_wp2_with fail
      refine (iOrderOf_yes n f HF.out m HM.out _).mono ?_
      rintro e w2 ⟨rfl, hb2⟩
      go_wp2
      go_ret
      exact ⟨rfl, hb1.trans (hb2.mono hb1.size)⟩
end Go.Proofs.Ytkjdldidgijloaa
