/- IsEven, and the law on it. -/
import Derived.Test.YtnildepdpkbekaaA17
namespace Go.Proofs.Ytnildepdpkbekaa
open Go.RowKit
set_option linter.unusedSimpArgs false

set_option maxRecDepth 100000 in
set_option maxHeartbeats 1000000 in
theorem iIsEven_no (s : ByteArray) (hs : s.size ≤ maxLen) (hb : goodB s = false) (w : World) :
    Calls Try.prog 18 #[.string s] w fun e w' => e = .returned (.tuple #[.bool false, .bool false]) ∧ Below w.heap.size w w' := by
  have H := Lib.hid hb
  clear hb
  go_enter Try.func18, Try.ntmps18
  go_wp2_with fail
  refine (digitsOf_no s hs H.out _).mono ?_
  rintro e w1 ⟨rfl, hb1⟩
  go_wp2_with (refine wpList_store_row rfl 56 _ _ rfl _ _ rfl rfl 56 _ (heap_at _ _ _ (by simp)) (by kernel_rfl) rfl (by kernel_rfl) ?_; rw [setRow_at _ _ _ _ _ (by simp)])
  go_ret2
  exact ⟨rfl, hb1.alloc hb1.size _⟩

theorem even_int (c : Nat) : ((c : Int) % 2 == 0) = evenB c := by
  unfold evenB
  rw [Bool.eq_iff_iff]; simp; omega

set_option maxRecDepth 100000 in
set_option maxHeartbeats 1000000 in
theorem iIsEven_yes (n : Nat) (f : Nat → Nat) (hf : IsRow n f) (w : World) :
    Calls Try.prog 18 #[.string (strOf n f)] w fun e w' => e = .returned (.tuple #[.bool (evenB (invB f n)), .bool true]) ∧ Below w.heap.size w w' := by
  have h8 := hf.eight
  have hss := strOf_size n f
  rw [← inv_same, ← even_int]
  have HF := Lib.hid hf
  clear hf
  go_enter Try.func18, Try.ntmps18
  go_wp2_with fail
  refine (digitsOf_row n f HF.out _).mono ?_
  rintro e w1 ⟨rfl, hb1⟩
  have hD := Lib.hid (RowAt.new w1 56 (dig8 f))
  have hbel := Lib.hid (hb1.alloc hb1.size (.cells (dig8 f) 56))
  clear hb1
  go_wp2_with (refine wpList_store_row rfl 56 _ _ rfl _ _ rfl rfl 56 _ (heap_at _ _ _ (by simp)) (by kernel_rfl) rfl (by kernel_rfl) ?_; rw [setRow_at _ _ _ _ _ (by simp)])
  go_loopg [6, 7, 17] n (fun q c _ i wr => ∃ k : Nat, k ≤ n ∧ q + k = n ∧ i = .int .i64 k ∧ c = .int .i64 (invA f n k) ∧ RowAt wr w1.heap.size 56 (dig8 f) ∧ Below w.heap.size w wr)
  case atStart => exact ⟨0, Nat.zero_le _, rfl, rfl, rfl, hD.out, hbel.out⟩
  case round =>
    obtain ⟨k, hk, hq, rfl, rfl, hD1, hB1⟩ := hrel
    have HQ := Lib.hid hq
    have HD := Lib.hid hD1
    have HB := Lib.hid hB1
    clear hq hD1 hB1 hD hbel
    have hle : invA f n k ≤ 64 := Nat.le_trans (invA_le f n k) (Nat.mul_le_mul (show k ≤ 8 by omega) h8)
    by_cases hlt : k < n
    · go_wp2_with (refine wpList_load_row rfl 56 _ rfl _ rfl 56 _ _ _ (HD.out) Try.underlying56 rfl (by kernel_rfl) ?_)
      refine (smallerAfter_any n f (isDig_of HF.out) k (n - (k + 1)) (by omega) _).mono ?_
      rintro e w2 ⟨rfl, hb2⟩
      have hD2 := Lib.hid (HD.out.kept hb2)
      have hB2 := Lib.hid (HB.out.trans (hb2.mono HB.out.size))
      have hc7 : cntLt f (f k) (k + 1) (n - (k + 1)) ≤ 8 := by have := cntLt_le f (f k) (k + 1) (n - (k + 1)); omega
      clear hb2
      go_wp2
      go_roundg (n - (k + 1))
      case measure => have := HQ.out; omega
      case rel => exact ⟨k + 1, by omega, by have := HQ.out; omega, by go_num, by rw [show invA f n (k + 1) = invA f n k + cntLt f (f k) (k + 1) (n - (k + 1)) from rfl]; go_num, hD2.out, hB2.out⟩
    · obtain rfl : k = n := by omega
      go_wp2
      go_ret2
      exact ⟨rfl, HB.out⟩

end Go.Proofs.Ytnildepdpkbekaa
