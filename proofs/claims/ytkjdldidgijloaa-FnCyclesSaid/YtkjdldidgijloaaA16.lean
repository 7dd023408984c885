/- PowerOf, and the law on it. -/
import Derived.Test.YtkjdldidgijloaaA15
namespace Go.Proofs.Ytkjdldidgijloaa
open Go.RowKit
set_option linter.unusedSimpArgs false

/-- the exponent that the program uses -/
theorem expo {m : Nat} (k : Int) (hm : 1 ≤ m) (hm2 : m ≤ 840) : ∃ r : Nat, (wrap64 (k.tmod m + m)).tmod m = r ∧ (r : Int) = k % m ∧ r < m := by
  have hm0 : (0 : Int) < m := by omega
  have h1 : -(m : Int) < k.tmod m := Int.lt_tmod_of_pos k hm0
  have h2 : 0 ≤ k.tmod m + m := by omega
  have h3 : (k.tmod m + m).tmod m = (k.tmod m + m) % m := Int.tmod_eq_emod_of_nonneg h2
  have h4 : (k.tmod m + m) % m = k % m := by
    rw [Int.add_emod_right, Int.tmod_eq_emod]
    split
    · simp
    · rw [Int.sub_emod]
      simp
  have h5 := Int.emod_nonneg k (show (m : Int) ≠ 0 by omega)
  have h6 := Int.emod_lt_of_pos k hm0
  have h7 : k.tmod m < m := Int.tmod_lt_of_pos k hm0
  refine ⟨(k % m).toNat, by rw [IntWalk.wrap64_in _ (by omega), h3, h4]; omega, by omega, by omega⟩

/-- powers, negative ones too -/
def powZ (n : Nat) (f : Nat → Nat) (k : Int) : Nat → Nat := if k < 0 then powR n (invF n f) (-k).toNat else powR n f k.toNat
theorem powZ_expo {n : Nat} {f : Nat → Nat} (h : IsRow n f) {m : Nat} (hm : IsOrd n f m) (k : Int) (r : Nat) (hr : (r : Int) = k % m) : powR n f r = powZ n f k := by
  have hmp := hm.pos
  unfold powZ
  split
  · rename_i hk
    refine (pow_neg h hm.back (-k).toNat r ⟨(-(k / m)).toNat, ?_⟩).symm
    have e := Int.mul_ediv_add_emod k m
    have hneg : k / m < 0 := Int.ediv_neg_of_neg_of_pos hk (by omega)
    have : ((m * (-(k / (m : Int))).toNat : Nat) : Int) = -((m : Int) * (k / m)) := by
      rw [Int.natCast_mul, Int.toNat_of_nonneg (by omega), Int.mul_neg]
    omega
  · rename_i hk
    obtain ⟨q, rfl⟩ := Int.eq_ofNat_of_zero_le (show 0 ≤ k by omega)
    have : r = q % m := by omega
    rw [this, pow_mod h hm.back]
    simp
theorem isRow_powZ {n : Nat} {f : Nat → Nat} (h : IsRow n f) (k : Int) : IsRow n (powZ n f k) := by
  unfold powZ; split
  · exact isRow_pow (isRow_inv h) _
  · exact isRow_pow h _

set_option maxRecDepth 100000 in
set_option maxHeartbeats 1000000 in
theorem l1Power_pos (n : Nat) (f : Nat → Nat) (hf : IsRow n f) (k : Nat) (hk : k ≤ 1000) (w : World) :
    Calls Try.prog 69 #[.string (strOf n f), .int .i64 k] w fun e w' => e = .returned (.string (strOf n (powR n f k))) ∧ Below w.heap.size w w' := by
  have h8 := hf.eight
  have hss := strOf_size n f
  have HF := Lib.hid hf
  clear hf
  go_enter Try.func69, Try.ntmps69
  go_wp2_with (first | (go_at_call 66; refine (l1Rounds_any n h8 _).mono ?_; rintro e w' ⟨rfl, rfl⟩))
  rw [← strOf_rdf]
  go_loopg [1, 5] k (fun q i x wr => ∃ j : Nat, j ≤ k ∧ q + j = k ∧ i = .int .i64 q ∧ x = .string (strOf n (powR n f j)) ∧ w = wr)
  case atStart => exact ⟨0, Nat.zero_le _, rfl, rfl, rfl, rfl⟩
  case round =>
    obtain ⟨j, h1, hq, rfl, rfl, rfl⟩ := hrel
    have HQ := Lib.hid hq
    clear hq
    by_cases hlt : j < k
    · obtain ⟨g', hg'⟩ : ∃ g', gk = g' + 1 := ⟨gk - 1, by have := HQ.out; omega⟩
      subst hg'
      have hg2 : g' < 1000 := by have := HQ.out; omega
      go_wp2_with fail
      refine (l1Times_any n (powR n f j) f _ _ (isStr_row (isRow_pow HF.out j)) (isStr_row HF.out) h8 (fun i hi => ⟨HF.out.lo i hi, HF.out.hi i hi⟩) _).mono ?_
      rintro e w' ⟨rfl, rfl⟩
      rw [strOf_mul]
      go_wp2
      go_roundg g'
      case measure => omega
      case rel => exact ⟨j + 1, by omega, by have := HQ.out; omega, by go_num, rfl, rfl⟩
    · obtain rfl : j = k := by omega
      obtain rfl : gk = 0 := by have := HQ.out; omega
      go_wp2
      go_ret
      exact ⟨rfl, Below.refl _ _⟩

set_option maxRecDepth 100000 in
set_option maxHeartbeats 1000000 in
theorem l1Power_neg (n : Nat) (f : Nat → Nat) (hf : IsRow n f) (k : Nat) (hk0 : 0 < k) (hk : k ≤ 1000) (w : World) :
    Calls Try.prog 69 #[.string (strOf n f), .int .i64 (-(k : Int))] w fun e w' => e = .returned (.string (strOf n (powR n (invF n f) k))) ∧ Below w.heap.size w w' := by
  have h8 := hf.eight
  have hss := strOf_size n (invF n f)
  have hneg : (-(k : Int)) < 0 := by omega
  have HF := Lib.hid hf
  have HI := Lib.hid (isRow_inv hf)
  clear hf
  go_enter Try.func69, Try.ntmps69
  go_wp2_with fail
  refine (l1Turn_any n f _ (isStr_row HF.out) HF.out _).mono ?_
  rintro e w1 ⟨rfl, hb⟩
  have HB := Lib.hid hb
  clear hb
  go_wp2_with (first | (go_at_call 66; refine (l1Rounds_any n h8 _).mono ?_; rintro e w' ⟨rfl, rfl⟩))
  rw [← strOf_rdf]
  go_loopg [1, 5] k (fun q i x wr => ∃ j : Nat, j ≤ k ∧ q + j = k ∧ i = .int .i64 q ∧ x = .string (strOf n (powR n (invF n f) j)) ∧ w1 = wr)
  case atStart => exact ⟨0, Nat.zero_le _, rfl, by simp, rfl, rfl⟩
  case round =>
    obtain ⟨j, h1, hq, rfl, rfl, rfl⟩ := hrel
    have HQ := Lib.hid hq
    clear hq
    by_cases hlt : j < k
    · obtain ⟨g', hg'⟩ : ∃ g', gk = g' + 1 := ⟨gk - 1, by have := HQ.out; omega⟩
      subst hg'
      have hg2 : g' < 1000 := by have := HQ.out; omega
      go_wp2_with fail
      refine (l1Times_any n (powR n (invF n f) j) (invF n f) _ _ (isStr_row (isRow_pow HI.out j)) (isStr_row HI.out) h8 (fun i hi => ⟨HI.out.lo i hi, HI.out.hi i hi⟩) _).mono ?_
      rintro e w' ⟨rfl, rfl⟩
      rw [strOf_mul]
      go_wp2
      go_roundg g'
      case measure => omega
      case rel => exact ⟨j + 1, by omega, by have := HQ.out; omega, by go_num, rfl, rfl⟩
    · obtain rfl : j = k := by omega
      obtain rfl : gk = 0 := by have := HQ.out; omega
      go_wp2
      go_ret
      exact ⟨rfl, HB.out⟩
theorem l1Power_any (n : Nat) (f : Nat → Nat) (hf : IsRow n f) (k : Int) (h1 : -1000 ≤ k) (h2 : k ≤ 1000) (w : World) :
    Calls Try.prog 69 #[.string (strOf n f), .int .i64 k] w fun e w' => e = .returned (.string (strOf n (powZ n f k))) ∧ Below w.heap.size w w' := by
  unfold powZ
  split
  · obtain ⟨q, rfl⟩ : ∃ q : Nat, k = -(q : Int) := ⟨(-k).toNat, by omega⟩
    rw [show (-(-(q : Int))).toNat = q from by omega]
    exact l1Power_neg n f hf q (by omega) (by omega) w
  · obtain ⟨q, rfl⟩ := Int.eq_ofNat_of_zero_le (show 0 ≤ k by omega)
    exact l1Power_pos n f hf q (by omega) w

set_option maxRecDepth 100000 in
set_option maxHeartbeats 1000000 in
theorem sPowerOf_no (s : ByteArray) (hs : s.size ≤ maxLen) (k : Int) (h : ¬ (goodB s = true ∧ -1000 ≤ k ∧ k ≤ 1000)) (w : World) :
    Calls Try.prog 35 #[.string s, .int .i64 k] w fun e w' => e = .returned (.tuple #[.string ⟨#[]⟩, .bool false]) ∧ Below w.heap.size w w' := by
  cases hb : goodB s
  · have H := Lib.hid hb
    clear hb h
    go_enter Try.func35, Try.ntmps35
    go_wp2_with fail
    refine (l1Row_any s hs _).mono ?_
    rintro e w1 ⟨rfl, hb1⟩
    rw [H.out]
    go_wp2
    go_ret2
    exact ⟨rfl, hb1⟩
  · have H := Lib.hid hb
    have hd : (decide (-1000 ≤ k) && decide (k ≤ 1000)) = false := by simp [hb] at h; simp; omega
    clear hb h
    go_enter Try.func35, Try.ntmps35
    go_wp2_with fail
    refine (l1Row_any s hs _).mono ?_
    rintro e w1 ⟨rfl, hb1⟩
    rw [H.out]
    go_wp2_with (first | (go_at_call 65; refine (l1In_any _ _ _ _).mono ?_; rintro e w' ⟨rfl, rfl⟩))
    go_ret2
    exact ⟨rfl, hb1⟩

set_option maxRecDepth 100000 in
set_option maxHeartbeats 1000000 in
theorem sPowerOf_yes (n : Nat) (f : Nat → Nat) (hf : IsRow n f) (k : Int) (h1 : -1000 ≤ k) (h2 : k ≤ 1000) (w : World) :
    Calls Try.prog 35 #[.string (strOf n f), .int .i64 k] w fun e w' => e = .returned (.tuple #[.string (strOf n (powZ n f k)), .bool true]) ∧ Below w.heap.size w w' := by
  have H := Lib.hid (goodB_strOf hf)
  have HF := Lib.hid hf
  clear hf
  go_enter Try.func35, Try.ntmps35
  go_wp2_with fail
  refine (l1Row_any _ (mx_row f HF.out.eight) _).mono ?_
  rintro e w1 ⟨rfl, hb1⟩
  rw [H.out]
  go_wp2_with (first | (go_at_call 65; refine (l1In_any _ _ _ _).mono ?_; rintro e w' ⟨rfl, rfl⟩))
  refine (l1Power_any n f HF.out k h1 h2 _).mono ?_
  rintro e w2 ⟨rfl, hb2⟩
  go_wp2
  go_ret2
  exact ⟨rfl, hb1.trans (hb2.mono hb1.size)⟩

set_option maxRecDepth 100000 in
set_option maxHeartbeats 1000000 in
theorem iPowerOf_no (s : ByteArray) (hs : s.size ≤ maxLen) (k : Int) (h : ¬ (goodB s = true ∧ -1000 ≤ k ∧ k ≤ 1000)) (w : World) :
    Calls Try.prog 24 #[.string s, .int .i64 k] w fun e w' => e = .returned (.tuple #[.string ⟨#[]⟩, .bool false]) ∧ Below w.heap.size w w' := by
  have hcase : goodB s = false ∨ (goodB s = true ∧ k < -1000) ∨ (goodB s = true ∧ ¬ k < -1000 ∧ 1000 < k) := by
    cases h0 : goodB s
    · exact .inl rfl
    · simp [h0] at h
      by_cases h1 : k < -1000
      · exact .inr (.inl ⟨rfl, h1⟩)
      · exact .inr (.inr ⟨rfl, h1, by omega⟩)
  clear h
  rcases hcase with h1 | ⟨h1, h2⟩ | ⟨h1, h2, h3⟩
  all_goals
    have H := Lib.hid h1
    clear h1
    go_enter Try.func24, Try.ntmps24
    go_wp2_with fail
    refine (digitsOf_any s hs _).mono ?_
    rintro e w1 ⟨rfl, hb1⟩
    rw [H.out]
    go_wp2_with (refine wpList_store_row rfl 60 _ _ rfl _ _ rfl rfl 60 _ (heap_at _ _ _ (by simp)) (by kernel_rfl) rfl (by kernel_rfl) ?_; rw [setRow_at _ _ _ _ _ (by simp)])
    go_ret2
    exact ⟨rfl, hb1.alloc hb1.size _⟩

set_option maxRecDepth 100000 in
set_option maxHeartbeats 1000000 in
theorem iPowerOf_yes (n : Nat) (f : Nat → Nat) (hf : IsRow n f) (k : Int) (h1 : -1000 ≤ k) (h2 : k ≤ 1000) (w : World) :
    Calls Try.prog 24 #[.string (strOf n f), .int .i64 k] w fun e w' => e = .returned (.tuple #[.string (strOf n (powZ n f k)), .bool true]) ∧ Below w.heap.size w w' := by
  obtain ⟨m, hm⟩ := ord_exists hf
  have h840 := hm.le
  have hmp := hm.pos
  have h8 := hf.eight
  have hss := strOf_size n f
  obtain ⟨r, hr1, hr2, hr3⟩ := expo k hm.pos hm.le
  have hz := powZ_expo hf hm k r hr2
  rw [← hz]
  have HF := Lib.hid hf
  have HM := Lib.hid hm
  have HR1 := Lib.hid hr1
  clear hf hm hr1 hr2 hz
  go_enter Try.func24, Try.ntmps24
  go_wp2_with fail
  refine (digitsOf_row n f HF.out _).mono ?_
  rintro e w1 ⟨rfl, hb1⟩
  have hD := Lib.hid (RowAt.new w1 60 (dig8 f))
  have hbel := Lib.hid (hb1.alloc hb1.size (.cells (dig8 f) 60))
  clear hb1
  go_wp2_with (first | (refine wpList_store_row rfl 60 _ _ rfl _ _ rfl rfl 60 _ (heap_at _ _ _ (by simp)) (by kernel_rfl) rfl (by kernel_rfl) ?_; rw [setRow_at _ _ _ _ _ (by simp)]) | (refine wpList_load_row rfl 60 _ rfl _ rfl 60 _ _ _ (hD.out) Try.underlying60 rfl (by kernel_rfl) ?_))
  refine (order_any n f HF.out m HM.out _).mono ?_
  rintro e w2 ⟨rfl, hb2⟩
  have hD2 := Lib.hid (hD.out.kept hb2)
  have hbel2 := Lib.hid (hbel.out.trans (hb2.mono hbel.out.size))
  clear hb2 hD hbel
  go_wp2_with fail
  refine (roundsDigits_any n h8 _).mono ?_
  rintro e w3 ⟨rfl, hb3⟩
  have hD3 := Lib.hid ((hD2.out.kept hb3).push (.cells (dig8 (powR n f 0)) 60))
  have hbel3 := Lib.hid ((hbel2.out.trans (hb3.mono hbel2.out.size)).alloc (Nat.le_trans hbel2.out.size hb3.size) (.cells (dig8 (powR n f 0)) 60))
  have hlt3 : w1.heap.size < w3.heap.size := Nat.lt_of_lt_of_le hD2.out.lt hb3.size
  have hle3 := Nat.le_trans hbel2.out.size hb3.size
  clear hb3 hD2 hbel2
  go_wp2_with (first | (refine wpList_store_row rfl 60 _ _ rfl _ _ rfl rfl 60 _ (heap_at _ _ _ (by simp)) (by kernel_rfl) rfl (by kernel_rfl) ?_; rw [setRow_at _ _ _ _ _ (by simp)]) | fail)
  rw [HR1.out]
  have hrle : r < 840 := by omega
  go_loopg [37] r (fun q i wr => ∃ j : Nat, j ≤ r ∧ q + j = r ∧ i = .int .i64 j ∧ RowAt wr w1.heap.size 60 (dig8 f) ∧ RowAt wr w3.heap.size 60 (dig8 (powR n f j)) ∧ Below w.heap.size w wr)
  case atStart => exact ⟨0, Nat.zero_le _, rfl, rfl, hD3.out, heap_at _ _ _ rfl, hbel3.out⟩
  case round =>
    obtain ⟨j, h1j, hq, rfl, hD, hP, hbel⟩ := hrel
    have HQ := Lib.hid hq
    have HD := Lib.hid hD
    have HP := Lib.hid hP
    have HB := Lib.hid hbel
    clear hq hD hP hbel hD3 hbel3
    by_cases hlt : j < r
    · go_wp2_with (first | (refine wpList_load_row rfl 60 _ rfl _ rfl 60 _ _ _ (HP.out) Try.underlying60 rfl (by kernel_rfl) ?_) | (refine wpList_load_row rfl 60 _ rfl _ rfl 60 _ _ _ (HD.out) Try.underlying60 rfl (by kernel_rfl) ?_))
      refine (times_any n (powR n f j) f (isDig_of (isRow_pow HF.out j)) (fun i hi => ⟨HF.out.lo i hi, HF.out.hi i hi⟩) _).mono ?_
      rintro e w5 ⟨rfl, hb5⟩
      have hP5 := Lib.hid (HP.out.kept hb5)
      have hD5 := Lib.hid (HD.out.kept hb5)
      have hB5 := Lib.hid (HB.out.trans (hb5.mono HB.out.size))
      clear hb5
      go_wp2_with (refine wpList_store_row rfl 60 _ _ rfl _ _ rfl rfl 60 _ (hP5.out) (by kernel_rfl) rfl (by kernel_rfl) ?_)
      go_roundg (r - (j + 1))
      case measure => have := HQ.out; omega
      case rel => exact ⟨j + 1, by omega, by have := HQ.out; omega, by go_num, hD5.out.rowOther _ (by omega), hP5.out.row _, below_setRow hB5.out hle3 _⟩
    · obtain rfl : j = r := by omega
      go_wp2_with (refine wpList_load_row rfl 60 _ rfl _ rfl 60 _ _ _ (HP.out) Try.underlying60 rfl (by kernel_rfl) ?_)
      refine (row_any n _ (isDig_of (isRow_pow HF.out j)) _).mono ?_
      rintro e w6 ⟨rfl, hb6⟩
      go_wp2
      go_ret2
      exact ⟨rfl, HB.out.trans (hb6.mono HB.out.size)⟩

set_option maxRecDepth 100000 in
set_option maxHeartbeats 1000000 in
theorem lawPowerOf (s : ByteArray) (k : Int) (w : World) (hs : s.size ≤ maxLen) :
    Calls Try.prog 10 #[.string s, .int .i64 k] w fun e w' => e = .returned (.bool true) ∧ Below w.heap.size w w' := by
  by_cases hbig : 1048576 < s.size
  · have hbig' : (1048576 : Int) < s.size := by omega
    go_enter Try.func10, Try.ntmps10
    go_wp2
    go_ret
    exact ⟨rfl, Below.refl _ _⟩
  · have hbig' : (s.size : Int) ≤ 1048576 := by omega
    by_cases hb : goodB s = true ∧ -1000 ≤ k ∧ k ≤ 1000
    · obtain ⟨hg, h1, h2⟩ := hb
      obtain ⟨n, f, hf, rfl⟩ := str_of_good hg
      have HF := Lib.hid hf
      clear hf hg
      go_enter Try.func10, Try.ntmps10
      go_wp2_with fail
      refine (sPowerOf_yes n f HF.out k h1 h2 _).mono ?_
      rintro e w1 ⟨rfl, hb1⟩
      go_wp2_with fail
      refine (iPowerOf_yes n f HF.out k h1 h2 _).mono ?_
      rintro e w2 ⟨rfl, hb2⟩
      go_wp2
      go_ret
      exact ⟨rfl, hb1.trans (hb2.mono hb1.size)⟩
    · have H := Lib.hid hb
      clear hb
      go_enter Try.func10, Try.ntmps10
      go_wp2_with fail
      refine (sPowerOf_no s hs k H.out _).mono ?_
      rintro e w1 ⟨rfl, hb1⟩
      go_wp2_with fail
      refine (iPowerOf_no s hs k H.out _).mono ?_
      rintro e w2 ⟨rfl, hb2⟩
      go_wp2
      go_ret
      exact ⟨rfl, hb1.trans (hb2.mono hb1.size)⟩
end Go.Proofs.Ytkjdldidgijloaa
