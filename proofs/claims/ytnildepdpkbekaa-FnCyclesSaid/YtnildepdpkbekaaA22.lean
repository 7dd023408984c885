/- PlaceOfRow, and the law on it. -/
import Derived.Test.YtnildepdpkbekaaA21
import Derived.Test.YtnildepdpkbekaaP7
namespace Go.Proofs.Ytnildepdpkbekaa
open Go.RowKit
set_option linter.unusedSimpArgs false

set_option maxRecDepth 100000 in
set_option maxHeartbeats 1000000 in
theorem l1Place_any (n : Nat) (f : Nat → Nat) (hf : IsRow n f) (w : World) :
    Calls Try.prog 40 #[.string (strOf n f)] w fun e w' => e = .returned (.int .i64 (placeB f n n)) ∧ Below w.heap.size w w' := by
  have hsz := strOf_size n f
  have hat := strOf_get n f (fun i _ => hf.byte i)
  have h8 := hf.eight
  clear hf
  generalize strOf n f = s at *
  go_enter Try.func40, Try.ntmps40
  go_wp2
  go_loopg [3, 4, 5, 6] n (fun q b i _ _ wr => ∃ k : Nat, k ≤ n ∧ q + k = n ∧ i = .int .i64 k ∧ b = .int .i64 (placeB f n k) ∧ Below w.heap.size w wr)
  case atStart => exact ⟨0, Nat.zero_le _, rfl, rfl, rfl, Below.refl _ _⟩
  case round =>
    obtain ⟨k, hk, hq, rfl, rfl, hb⟩ := hrel
    have HQ := Lib.hid hq
    clear hq
    have hB := placeB_le f h8 k hk
    by_cases hlt : k < n
    · obtain ⟨L, hL⟩ : ∃ L, k + 1 + L = n := ⟨n - (k + 1), by omega⟩
      have HL := Lib.hid hL
      have hLn : L ≤ n - (k + 1) := by omega
      have hB1 := placeB_le f h8 (k + 1) (by omega)
      have e : (placeB f n k : Int) * ((n : Int) - k) + (cntLt f (f k) (k + 1) L : Int) = ((placeB f n (k + 1) : Nat) : Int) := by
        show _ = ((placeB f n k * (n - k) + lessAt f n k : Nat) : Int)
        rw [show lessAt f n k = cntLt f (f k) (k + 1) L from by unfold lessAt; rw [show n - (k + 1) = L by omega]]
        rw [Int.natCast_add, Int.natCast_mul, show ((n - k : Nat) : Int) = (n : Int) - k from by omega]
      have e0 : 0 ≤ (placeB f n k : Int) * ((n : Int) - k) := by
        rw [show (n : Int) - k = ((n - k : Nat) : Int) from by omega]; exact Int.natCast_nonneg _
      have E := Lib.hid e
      have E0 := Lib.hid e0
      clear e hL e0
      go_wp2
      go_loopg [5, 6] L (fun q c i wr => ∃ j : Nat, j ≤ L ∧ q + j = L ∧ i = .int .i64 ((k : Int) + 1 + j) ∧ c = .int .i64 (cntLt f (f k) (k + 1) j) ∧ Below w.heap.size w wr)
      case atStart => exact ⟨0, Nat.zero_le _, rfl, by simp, rfl, hb⟩
      case round =>
        clear hb
        obtain ⟨j, hj, hq, rfl, rfl, hb⟩ := hrel
        have HQ2 := Lib.hid hq
        clear hq
        by_cases hjk : j < L
        · have hjn : (k : Int) + 1 + j < n := by have := HL.out; omega
          have hjt : ((k : Int) + 1 + j).toNat = k + 1 + j := by omega
          have hc7 := cntLt_le f (f k) (k + 1) j
          by_cases hgt : f (k + 1 + j) < f k
          · go_wp2
            go_quiet (fail)
            go_wp2
            go_roundg (L - (j + 1))
            case measure => have := HQ2.out; omega
            case rel => exact ⟨j + 1, by omega, by have := HQ2.out; omega, by go_num, by rw [show cntLt f (f k) (k + 1) (j + 1) = cntLt f (f k) (k + 1) j + 1 from by simp [cntLt, hgt]]; go_num, below_drewN hb _⟩
          · go_wp2
            go_quiet (fail)
            go_wp2
            go_roundg (L - (j + 1))
            case measure => have := HQ2.out; omega
            case rel => exact ⟨j + 1, by omega, by have := HQ2.out; omega, by go_num, by rw [show cntLt f (f k) (k + 1) (j + 1) = cntLt f (f k) (k + 1) j from by simp [cntLt, hgt]], below_drewN hb _⟩
        · obtain rfl : j = L := by omega
          have hend : (n : Int) ≤ (k : Int) + 1 + j := by have := HL.out; omega
          have hc7 := cntLt_le f (f k) (k + 1) j
          have hs0 := E0.out
          have hs1 : (placeB f n k : Int) * ((n : Int) - k) + (cntLt f (f k) (k + 1) j : Int) ≤ 2580480 := by have := E.out; omega
          go_wp2
          go_roundg (n - (k + 1))
          case measure => have := HQ.out; omega
          case rel => exact ⟨k + 1, by omega, by have := HQ.out; omega, by go_num, by rw [E.out], hb⟩
    · obtain rfl : k = n := by omega
      go_wp2
      go_ret
      exact ⟨rfl, hb⟩

set_option maxRecDepth 100000 in
set_option maxHeartbeats 1000000 in
theorem sPlaceOfRow_no (s : ByteArray) (hs : s.size ≤ maxLen) (hb : goodB s = false) (w : World) :
    Calls Try.prog 8 #[.string s] w fun e w' => e = .returned (.tuple #[.int .i64 0, .bool false]) ∧ Below w.heap.size w w' := by
  have H := Lib.hid hb
  clear hb
  go_enter Try.func8, Try.ntmps8
  go_wp2_with fail
  refine (l1Row_any s hs _).mono ?_
  rintro e w1 ⟨rfl, hb1⟩
  rw [H.out]
  go_wp2
  go_ret2
  exact ⟨rfl, hb1⟩

set_option maxRecDepth 100000 in
set_option maxHeartbeats 1000000 in
theorem sPlaceOfRow_yes (n : Nat) (f : Nat → Nat) (hf : IsRow n f) (w : World) :
    Calls Try.prog 8 #[.string (strOf n f)] w fun e w' => e = .returned (.tuple #[.int .i64 (placeB f n n), .bool true]) ∧ Below w.heap.size w w' := by
  have H := Lib.hid (goodB_strOf hf)
  have HF := Lib.hid hf
  clear hf
  go_enter Try.func8, Try.ntmps8
  go_wp2_with fail
  refine (l1Row_any _ (mx_row f HF.out.eight) _).mono ?_
  rintro e w1 ⟨rfl, hb1⟩
  rw [H.out]
  go_wp2_with fail
  refine (l1Place_any n f HF.out _).mono ?_
  rintro e w2 ⟨rfl, hb2⟩
  go_wp2
  go_ret2
  exact ⟨rfl, hb1.trans (hb2.mono hb1.size)⟩

set_option maxRecDepth 100000 in
set_option maxHeartbeats 1000000 in
theorem iPlaceOfRow_no (s : ByteArray) (hs : s.size ≤ maxLen) (hb : goodB s = false) (w : World) :
    Calls Try.prog 9 #[.string s] w fun e w' => e = .returned (.tuple #[.int .i64 0, .bool false]) ∧ Below w.heap.size w w' := by
  have H := Lib.hid hb
  clear hb
  go_enter Try.func9, Try.ntmps9
  go_wp2_with fail
  refine (digitsOf_no s hs H.out _).mono ?_
  rintro e w1 ⟨rfl, hb1⟩
  go_wp2_with (refine wpList_store_row rfl 56 _ _ rfl _ _ rfl rfl 56 _ (heap_at _ _ _ (by simp)) (by kernel_rfl) rfl (by kernel_rfl) ?_; rw [setRow_at _ _ _ _ _ (by simp)])
  go_ret2
  exact ⟨rfl, hb1.alloc hb1.size _⟩


set_option maxRecDepth 100000 in
set_option maxHeartbeats 1000000 in
theorem rank_any (n : Nat) (f : Nat → Nat) (hf : IsRow n f) (w : World) :
    Calls Try.prog 42 #[.agg (dig8 f)] w fun e w' => e = .returned (.int .i64 (placeB f n n)) ∧ Below w.heap.size w w' := by
  have h8 := hf.eight
  rw [place_end]
  have HF := Lib.hid hf
  clear hf
  have hD := Lib.hid (RowAt.new w 56 (dig8 f))
  have hbel := Lib.hid ((Below.refl _ w).alloc (Nat.le_refl _) (.cells (dig8 f) 56))
  go_enter Try.func42, Try.ntmps42
  go_wp2_with (first | (refine wpList_load_row rfl 56 _ rfl _ rfl 56 _ _ _ (hD.out) Try.underlying56 rfl (by kernel_rfl) ?_) | fail)
  refine (stage_any n f (isDig_of HF.out) _).mono ?_
  rintro e w1 ⟨rfl, hb1⟩
  have hD1 := Lib.hid (hD.out.kept hb1)
  have hbel1 := Lib.hid (hbel.out.trans (hb1.mono hbel.out.size))
  clear hb1 hD hbel
  go_wp2
  go_loopg [3, 9] n (fun q c i wr => ∃ k : Nat, k ≤ n ∧ q + k = n ∧ i = .int .i64 k ∧ c = .int .i64 (placeA f n k) ∧ RowAt wr w.heap.size 56 (dig8 f) ∧ Below w.heap.size w wr)
  case atStart => exact ⟨0, Nat.zero_le _, rfl, rfl, rfl, hD1.out, hbel1.out⟩
  case round =>
    clear hD1 hbel1
    obtain ⟨k, hk, hq, rfl, rfl, hD1, hB1⟩ := hrel
    have HQ := Lib.hid hq
    have HD := Lib.hid hD1
    have HB := Lib.hid hB1
    clear hq hD1 hB1
    have hle : placeA f n k ≤ 2580480 := by have := placeA_le f h8 k; omega
    by_cases hlt : k < n
    · have hm1 := lessAt_mul_le f h8 k
      have hm0 : 0 ≤ (lessAt f n k : Int) * (fact (n - (k + 1)) : Int) := by rw [← Int.natCast_mul]; exact Int.natCast_nonneg _
      have hm2 : (lessAt f n k : Int) * (fact (n - (k + 1)) : Int) ≤ 322560 := by rw [← Int.natCast_mul]; omega
      go_wp2_with (refine wpList_load_row rfl 56 _ rfl _ rfl 56 _ _ _ (HD.out) Try.underlying56 rfl (by kernel_rfl) ?_)
      refine (smallerAfter_any n f (isDig_of HF.out) k (n - (k + 1)) (by omega) _).mono ?_
      rintro e w2 ⟨rfl, hb2⟩
      have hD2 := Lib.hid (HD.out.kept hb2)
      have hB2 := Lib.hid (HB.out.trans (hb2.mono HB.out.size))
      clear hb2
      go_wp2_with fail
      rw [show (n : Int) - 1 - k = ((n - (k + 1) : Nat) : Int) from by omega]
      refine (factorial_any _ (by omega) _).mono ?_
      rintro e w' ⟨rfl, rfl⟩
      rw [show cntLt f (f k) (k + 1) (n - (k + 1)) = lessAt f n k from rfl]
      go_wp2
      go_roundg (n - (k + 1))
      case measure => have := HQ.out; omega
      case rel => exact ⟨k + 1, by omega, by have := HQ.out; omega, by go_num, by rw [show placeA f n (k + 1) = placeA f n k + lessAt f n k * fact (n - (k + 1)) from rfl, Int.natCast_add, Int.natCast_mul], hD2.out, hB2.out⟩
    · obtain rfl : k = n := by omega
      go_wp2
      go_ret
      exact ⟨rfl, HB.out⟩

set_option maxRecDepth 100000 in
set_option maxHeartbeats 1000000 in
theorem iPlaceOfRow_yes (n : Nat) (f : Nat → Nat) (hf : IsRow n f) (w : World) :
    Calls Try.prog 9 #[.string (strOf n f)] w fun e w' => e = .returned (.tuple #[.int .i64 (placeB f n n), .bool true]) ∧ Below w.heap.size w w' := by
  have HF := Lib.hid hf
  have HR := Lib.hid (rank_any n f hf)
  clear hf
  go_enter Try.func9, Try.ntmps9
  go_wp2_with fail
  refine (digitsOf_row n f HF.out _).mono ?_
  rintro e w1 ⟨rfl, hb1⟩
  have hD := Lib.hid (RowAt.new w1 56 (dig8 f))
  have hbel := Lib.hid (hb1.alloc hb1.size (.cells (dig8 f) 56))
  clear hb1
  go_wp2_with (first | (refine wpList_store_row rfl 56 _ _ rfl _ _ rfl rfl 56 _ (heap_at _ _ _ (by simp)) (by kernel_rfl) rfl (by kernel_rfl) ?_; rw [setRow_at _ _ _ _ _ (by simp)]) | (refine wpList_load_row rfl 56 _ rfl _ rfl 56 _ _ _ (hD.out) Try.underlying56 rfl (by kernel_rfl) ?_) | fail)
  refine (HR.out _).mono ?_
  rintro e w2 ⟨rfl, hb2⟩
  have HB2 := Lib.hid (hbel.out.trans (hb2.mono hbel.out.size))
  clear hb2
  go_wp2
  go_ret2
  exact ⟨rfl, HB2.out⟩

set_option maxRecDepth 100000 in
set_option maxHeartbeats 1000000 in
theorem lawPlaceOfRow (s : ByteArray) (w : World) (hs : s.size ≤ maxLen) :
    Calls Try.prog 3 #[.string s] w fun e w' => e = .returned (.bool true) ∧ Below w.heap.size w w' := by
  by_cases hbig : 1048576 < s.size
  · have hbig' : (1048576 : Int) < s.size := by omega
    go_enter Try.func3, Try.ntmps3
    go_wp2
    go_ret
    exact ⟨rfl, Below.refl _ _⟩
  · have hbig' : (s.size : Int) ≤ 1048576 := by omega
    cases hb : goodB s
    · have H := Lib.hid hb
      clear hb
      go_enter Try.func3, Try.ntmps3
      go_wp2_with fail
      refine (sPlaceOfRow_no s hs H.out _).mono ?_
      rintro e w1 ⟨rfl, hb1⟩
      go_wp2_with fail
      refine (iPlaceOfRow_no s hs H.out _).mono ?_
      rintro e w2 ⟨rfl, hb2⟩
      go_wp2
      go_ret
      exact ⟨rfl, hb1.trans (hb2.mono hb1.size)⟩
    · obtain ⟨n, f, hf, rfl⟩ := str_of_good hb
      have HF := Lib.hid hf
      clear hf hb
      go_enter Try.func3, Try.ntmps3
      go_wp2_with fail
      refine (sPlaceOfRow_yes n f HF.out _).mono ?_
      rintro e w1 ⟨rfl, hb1⟩
      go_wp2_with fail
      refine (iPlaceOfRow_yes n f HF.out _).mono ?_
      rintro e w2 ⟨rfl, hb2⟩
      go_wp2
      go_ret
      exact ⟨rfl, hb1.trans (hb2.mono hb1.size)⟩
end Go.Proofs.Ytnildepdpkbekaa
