/- Inversions: the program's count and the model's. -/
import Derived.Test.YtnildepdpkbekaaA16
import Derived.Test.YtnildepdpkbekaaP4
namespace Go.Proofs.Ytnildepdpkbekaa
open Go.RowKit
set_option linter.unusedSimpArgs false

set_option maxRecDepth 100000 in
set_option maxHeartbeats 1000000 in
theorem slice_part (b i n L : Nat) (hi : i + 1 + L = n) (h8 : n ≤ 8) : ∃ ad : Addr, (∀ W, (Instr.sliceAt 56 (.pointer (some ⟨b, 0, none⟩)) (some (.int .i64 ((i : Int) + 1))) (some (.int .i64 n)) none).run Try.prog W = .ok (.slice (some ad) L (8 - (i + 1))) W) ∧ ∀ t, t < L → ad.add t = ⟨b, i + 1 + t, none⟩ := by
  refine ⟨if 8 = i + 1 then ⟨b, 0, none⟩ else (⟨b, 0, none⟩ : Addr).add (i + 1), fun W => ?_, fun t ht => ?_⟩
  · have hA : Try.prog.arrayLen 56 = 8 := by kernel_rfl
    rw [run_sliceAt_array_lh W _ _ Try.underlying56 .i64 .i64 _ _ (by omega) (by omega) (by rw [hA]; omega)]
    have hs : (sizeOf (Try.prog.elem 56)).run Try.prog W = .ok 1 W := by kernel_rfl
    rw [hs, hA]
    simp [Result.andThen, slicedAt, show ((i : Int) + 1).toNat = i + 1 from by omega]
    omega
  · rw [if_neg (by omega)]
    simp [Addr.add]

set_option maxRecDepth 100000 in
set_option maxHeartbeats 1000000 in
theorem smallerAfter_any (n : Nat) (f : Nat → Nat) (hf : IsDig n f) (i : Nat) (L : Nat) (hLn : i + 1 + L = n) (w : World) :
    Calls Try.prog 53 #[.agg (dig8 f), .int .i64 i] w fun e w' => e = .returned (.int .i64 (cntLt f (f i) (i + 1) L)) ∧ Below w.heap.size w w' := by
  have h8 : n ≤ 8 := hf.1
  have h8' : (n : Int) ≤ 8 := by omega
  have hi' : (i : Int) + 1 ≤ n := by omega
  have HL := Lib.hid hLn
  have hL8 : L ≤ 7 := by omega
  have hi8 : i < 8 := by omega
  clear hLn
  have HF := Lib.hid hf
  clear hf
  go_enter Try.func53, Try.ntmps53
  go_wp2_with (refine wpList_load_row rfl 56 _ rfl _ rfl 56 _ _ _ (heap_alloc_new _ _) Try.underlying56 rfl (by kernel_rfl) ?_)
  refine (stage_any n f HF.out _).mono ?_
  rintro e w1 ⟨rfl, hb1⟩
  have hA := Lib.hid ((RowAt.new w 56 (dig8 f)).kept hb1)
  have hbel := Lib.hid (((Below.refl _ w).alloc (Nat.le_refl _) (.cells (dig8 f) 56)).trans (hb1.mono (by simp)))
  clear hb1
  obtain ⟨ad, hsl, hadd⟩ := slice_part w.heap.size i n L HL.out h8
  have HADD := Lib.hid hadd
  clear hadd
  go_wp2
  go_loopg [5, 7, 14] L (fun q c _ t wr => ∃ k : Nat, k ≤ L ∧ q + k = L ∧ t = .int .i64 k ∧ c = .int .i64 (cntLt f (f i) (i + 1) k) ∧ w1 = wr)
  case atStart => exact ⟨0, Nat.zero_le _, rfl, rfl, rfl, rfl⟩
  case round =>
    obtain ⟨k, hk, hq, rfl, rfl, rfl⟩ := hrel
    have HQ := Lib.hid hq
    have hc7 : cntLt f (f i) (i + 1) k ≤ 7 := by have := cntLt_le f (f i) (i + 1) k; omega
    clear hq hsl
    by_cases hlt : k < L
    · have hak := HADD.out k hlt
      have c1 := hA.out.cell (i + 1 + k) (dig8_get f _ (by have := HL.out; omega))
      have c2 := hA.out.cell i (dig8_get f i hi8)
      generalize hcn : cntLt f (f i) (i + 1) k = c at *
      have HC := Lib.hid hcn
      clear hcn
      by_cases hless : f (i + 1 + k) < f i
      all_goals
        go_wp2
        go_roundg (L - (k + 1))
        case measure => have := HQ.out; omega
        case rel => exact ⟨k + 1, by omega, by have := HQ.out; omega, by go_num, by simp [cntLt, HC.out, hless], rfl⟩
    · obtain rfl : k = L := by omega
      go_wp2
      go_ret
      exact ⟨rfl, hbel.out⟩

end Go.Proofs.Ytnildepdpkbekaa
