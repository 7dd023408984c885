/- Orders, in the model and in the program. -/
import Derived.Test.YtnildepdpkbekaaA13
import Derived.Test.YtnildepdpkbekaaP3
import Derived.Stop.BytesEq
namespace Go.Proofs.Ytnildepdpkbekaa
open Go.RowKit

theorem IsRow.byte {n : Nat} {f : Nat → Nat} (h : IsRow n f) (i : Nat) : f i < 256 := by
  by_cases hi : i < n
  · have := h.hi i hi; have := h.eight; omega
  · rw [h.zero i (by omega)]; omega
theorem isStr_row {n : Nat} {f : Nat → Nat} (h : IsRow n f) : IsStr n f (strOf n f) := isStr_strOf n f (fun i _ => h.byte i)
theorem dg_strOf {n : Nat} {f : Nat → Nat} (h : IsRow n f) : dg (strOf n f) = f := by
  funext i
  unfold dg
  split
  · rename_i hi; exact (isStr_row h).2 i hi
  · rename_i hi; rw [strOf_size] at hi; rw [h.zero i (by omega)]
theorem goodB_strOf {n : Nat} {f : Nat → Nat} (h : IsRow n f) : goodB (strOf n f) = true := goodB_yes (by rw [strOf_size, dg_strOf h]; exact h)
theorem str_of_good {s : ByteArray} (h : goodB s = true) : ∃ n f, IsRow n f ∧ s = strOf n f := ⟨s.size, dg s, goodB_row h, strOf_of_isStr (isStr_dg s)⟩
theorem strOf_inj {n : Nat} {f g : Nat → Nat} (hf : IsRow n f) (hg : IsRow n g) (e : strOf n f = strOf n g) : f = g := by
  rw [← dg_strOf hf, ← dg_strOf hg, e]
theorem str_same {n : Nat} {f g : Nat → Nat} (e : f = g) : ((strOf n f).toList == (strOf n g).toList) = true := by rw [e]; simp
theorem str_other {n : Nat} {f g : Nat → Nat} (hf : IsRow n f) (hg : IsRow n g) (e : f ≠ g) : ((strOf n f).toList == (strOf n g).toList) = false := by
  rw [← beq_toListBytes]
  show ((strOf n f).data == (strOf n g).data) = false
  refine beq_eq_false_iff_ne.2 fun q => e (strOf_inj hf hg ?_)
  cases h1 : strOf n f; cases h2 : strOf n g
  rw [h1, h2] at q
  exact congrArg _ q
theorem strOf_mul {n : Nat} (f g : Nat → Nat) : strOf n (mulF f g) = strOf n (mulR n f g) := strOf_congr fun i hi => by simp [mulR, cutF, hi]

theorem heap_at (W : World) (o : Obj) (n : Nat) (hn : n = W.heap.size) : (W.alloc o).heap[n]? = some o := by subst hn; exact heap_alloc_new W o
theorem setRow_at (W : World) (c c' : Array Value) (t : TypeId) (n : Nat) (hn : n = W.heap.size) : (W.alloc (.cells c t)).setRow n c' = W.alloc (.cells c' t) := by subst hn; exact World.setRow_alloc_new W c c' t
/-! ### arrays compared -/
theorem dig8_list (f : Nat → Nat) (hf : ∀ i, f i < 256) : dig8 f = (((List.range 8).map fun i => UInt8.ofNat (f i)).map Extern.Stop.cell).toArray := by
  have e : ∀ i, Extern.Stop.cell (UInt8.ofNat (f i)) = .int .u8 (f i) := fun i => by
    have := hf i
    simp [Extern.Stop.cell]; omega
  simp [dig8, List.range_succ, e]
theorem run_neq_dig8 (W : World) (f g : Nat → Nat) (hf : ∀ i, f i < 256) (hg : ∀ i, g i < 256) (b : Bool) (hb : ((List.range 8).map (fun i => UInt8.ofNat (f i)) == (List.range 8).map (fun i => UInt8.ofNat (g i))) = b) :
    (binOp .neq 56 (.agg (dig8 f)) (.agg (dig8 g))).run Try.prog W = .ok (.bool (!b)) W := by
  rw [dig8_list f hf, dig8_list g hg, run_neq_struct, run_equalIn_bytes W 9998 56 5 8 Try.underlying56 Try.underlying5 (fun w => by kernel_rfl) _ _ (by simp) (by simp), hb]
  rfl
theorem dig8_same (f : Nat → Nat) : ((List.range 8).map (fun i => UInt8.ofNat (f i)) == (List.range 8).map (fun i => UInt8.ofNat (f i))) = true := by simp
theorem dig8_other {n : Nat} {f g : Nat → Nat} (hf : IsRow n f) (hg : IsRow n g) (e : f ≠ g) : ((List.range 8).map (fun i => UInt8.ofNat (f i)) == (List.range 8).map (fun i => UInt8.ofNat (g i))) = false := by
  refine beq_eq_false_iff_ne.2 fun q => e (row_ext hf hg fun i hi => ?_)
  have h8 := hf.eight
  have := congrArg (fun l : List UInt8 => (l[i]?.getD 0).toNat) q
  simp [show i < 8 by omega] at this
  have := hf.byte i
  have := hg.byte i
  omega

set_option maxRecDepth 100000 in
set_option maxHeartbeats 1000000 in
theorem order_any (n : Nat) (f : Nat → Nat) (hf : IsRow n f) (m : Nat) (hm : IsOrd n f m) (w : World) :
    Calls Try.prog 52 #[.agg (dig8 f)] w fun e w' => e = .returned (.int .i64 m) ∧ Below w.heap.size w w' := by
  have h8 := hf.eight
  have h840 := hm.le
  have HF := Lib.hid hf
  have HM := Lib.hid hm
  clear hf hm
  go_enter Try.func52, Try.ntmps52
  go_wp2_with (first | (refine wpList_load_row rfl 56 _ rfl _ rfl 56 _ _ _ (heap_alloc_new _ _) Try.underlying56 rfl (by kernel_rfl) ?_))
  refine (stage_any n f (isDig_of HF.out) _).mono ?_
  rintro e w1 ⟨rfl, hb1⟩
  go_wp2_with fail
  refine (roundsDigits_any n h8 _).mono ?_
  rintro e w2 ⟨rfl, hb2⟩
  have hbel := Lib.hid ((((Below.refl _ w).alloc (Nat.le_refl _) (.cells (dig8 f) 56)).trans (hb1.mono (by simp))).trans (hb2.mono (by have := hb1.size; simp at this; omega)))
  have hA := Lib.hid (((RowAt.new w 56 (dig8 f)).kept hb1).kept hb2)
  have hsz : w.heap.size < w2.heap.size := hA.out.lt
  clear hb1 hb2
  have hA3 := Lib.hid (hA.out.push (.cells (dig8 (rdf n)) 56))
  have hR := Lib.hid (RowAt.new w2 56 (dig8 (rdf n)))
  have hbel3 := Lib.hid (hbel.out.alloc (Nat.le_of_lt hsz) (.cells (dig8 (rdf n)) 56))
  go_wp2_with (first | (refine wpList_store_row rfl 56 _ _ rfl _ _ rfl rfl 56 _ (heap_at _ _ _ (by simp)) (by kernel_rfl) rfl (by kernel_rfl) ?_; rw [setRow_at _ _ _ _ _ (by simp)]) | (refine wpList_load_row rfl 56 _ rfl _ rfl 56 _ _ _ hA3.out Try.underlying56 rfl (by kernel_rfl) ?_))
  simp only [Act.put]
  go_loopg [4, 5] m (fun q i x wr => ∃ (j b : Nat), 1 ≤ j ∧ j ≤ m ∧ q + j = m + 1 ∧ i = .int .i64 j ∧ x = .pointer (some ⟨b, 0, none⟩) ∧ w.heap.size ≤ b ∧ b ≠ w.heap.size ∧ RowAt wr b 56 (dig8 (powR n f j)) ∧ RowAt wr w.heap.size 56 (dig8 f) ∧ RowAt wr w2.heap.size 56 (dig8 (rdf n)) ∧ b ≠ w2.heap.size ∧ Below w.heap.size w wr)
  case atStart =>
    exact ⟨1, _, Nat.le_refl _, HM.out.pos, rfl, rfl, rfl, by omega, by omega, by rw [pow_one HF.out]; exact heap_at _ _ _ (by simp), hA3.out.push _, hR.out.push _, by omega, hbel3.out.alloc (by simp; omega) _⟩
  case round =>
    obtain ⟨j, b, h1, h2, hq, rfl, rfl, hb1, hb2, hX, hA4, hR4, hb3, hbel4⟩ := hrel
    have HQ := Lib.hid hq
    clear hq hA hA3 hR hbel hbel3
    have HX := Lib.hid hX
    have HA := Lib.hid hA4
    have HR := Lib.hid hR4
    have HB := Lib.hid hbel4
    clear hX hA4 hR4 hbel4
    by_cases hlt : j < m
    · have hne := fun W => run_neq_dig8 W _ _ (isRow_pow HF.out j).byte (isRow_rdf HF.out.three HF.out.eight).byte _ (dig8_other (isRow_pow HF.out j) (isRow_rdf HF.out.three HF.out.eight) (HM.out.least j h1 hlt))
      go_wp2_with (first | (refine wpList_store_row rfl 56 _ _ rfl _ _ rfl rfl 56 _ (heap_at _ _ _ (by simp)) (by kernel_rfl) rfl (by kernel_rfl) ?_; rw [setRow_at _ _ _ _ _ (by simp)]) | (refine wpList_load_row rfl 56 _ rfl _ rfl 56 _ _ _ HX.out Try.underlying56 rfl (by kernel_rfl) ?_) | (refine wpList_load_row rfl 56 _ rfl _ rfl 56 _ _ _ HR.out Try.underlying56 rfl (by kernel_rfl) ?_) | (refine wpList_load_row rfl 56 _ rfl _ rfl 56 _ _ _ HA.out Try.underlying56 rfl (by kernel_rfl) ?_) | (refine wpList_load_row rfl 56 _ rfl _ rfl 56 _ _ _ (heap_alloc_new _ _) Try.underlying56 rfl (by kernel_rfl) ?_) | (refine wpList_load_row rfl 56 _ rfl _ rfl 56 _ _ _ (HA.out.push _) Try.underlying56 rfl (by kernel_rfl) ?_))
      refine (times_any n (powR n f j) f (isDig_of (isRow_pow HF.out j)) (fun i hi => ⟨HF.out.lo i hi, HF.out.hi i hi⟩) _).mono ?_
      rintro e w5 ⟨rfl, hb5⟩
      have hX5 := Lib.hid ((RowAt.new wr 56 (dig8 (powR n f j))).kept hb5)
      have hA5 := Lib.hid ((HA.out.push (.cells (dig8 (powR n f j)) 56)).kept hb5)
      have hR5 := Lib.hid ((HR.out.push (.cells (dig8 (powR n f j)) 56)).kept hb5)
      have hle := HB.out.size
      have hRlt := HR.out.lt
      have hAlt := HA.out.lt
      have hB5 := Lib.hid ((HB.out.alloc hle (.cells (dig8 (powR n f j)) 56)).trans (hb5.mono (by simp; omega)))
      clear hb5
      go_wp2_with (refine wpList_store_row rfl 56 _ _ rfl _ _ rfl rfl 56 _ hX5.out (by kernel_rfl) rfl (by kernel_rfl) ?_)
      go_roundg (m + 1 - (j + 1))
      case measure => have := HQ.out; omega
      case rel => exact ⟨j + 1, _, by omega, by omega, by omega, by go_num, rfl, hle, by omega, hX5.out.row _, hA5.out.rowOther _ (by omega), hR5.out.rowOther _ (by omega), by omega, below_setRow hB5.out hle _⟩
    · obtain rfl : j = m := by omega
      have hne := fun W => run_neq_dig8 W (rdf n) (rdf n) (isRow_rdf HF.out.three HF.out.eight).byte (isRow_rdf HF.out.three HF.out.eight).byte _ (dig8_same _)
      have HX' : Hid (RowAt wr b 56 (dig8 (rdf n))) := by rw [← HM.out.back]; exact HX
      clear HX
      go_wp2_with (first | (refine wpList_load_row rfl 56 _ rfl _ rfl 56 _ _ _ HX'.out Try.underlying56 rfl (by kernel_rfl) ?_) | (refine wpList_load_row rfl 56 _ rfl _ rfl 56 _ _ _ HR.out Try.underlying56 rfl (by kernel_rfl) ?_))
      go_ret
      exact ⟨rfl, HB.out⟩
end Go.Proofs.Ytnildepdpkbekaa
