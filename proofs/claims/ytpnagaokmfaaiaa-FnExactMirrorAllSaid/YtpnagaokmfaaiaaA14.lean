/- Orders, in the model and in the program. -/
import Derived.Test.YtpnagaokmfaaiaaA13
import Derived.Test.YtpnagaokmfaaiaaP3
import Derived.Stop.BytesEq
namespace Go.Proofs.Ytpnagaokmfaaiaa
open Go.RowKit

theorem IsRow.byte {n : Nat} {f : Nat → Nat} (h : IsRow n f) (i : Nat) : f i < 256 := by
  by_cases hi : i < n
  · have := h.hi i hi; have := h.eight; omega
  · rw [h.zero i (by omega)]; omega
theorem isStr_row {n : Nat} {f : Nat → Nat} (h : IsRow n f) : IsStr n f (strOf n f) := isStr_strOf n f (fun i _ => h.byte i)
theorem dg_strOf {n : Nat} {f : Nat → Nat} (h : IsRow n f) : dg (strOf n f) = f := by
  funext i
  unfold dg
  split
  · rename_i hi; exact (isStr_row h).2 i hi
  · rename_i hi; rw [strOf_size] at hi; rw [h.zero i (by omega)]
theorem goodB_strOf {n : Nat} {f : Nat → Nat} (h : IsRow n f) : goodB (strOf n f) = true := goodB_yes (by rw [strOf_size, dg_strOf h]; exact h)
theorem str_of_good {s : ByteArray} (h : goodB s = true) : ∃ n f, IsRow n f ∧ s = strOf n f := ⟨s.size, dg s, goodB_row h, strOf_of_isStr (isStr_dg s)⟩
theorem strOf_inj {n : Nat} {f g : Nat → Nat} (hf : IsRow n f) (hg : IsRow n g) (e : strOf n f = strOf n g) : f = g := by
  rw [← dg_strOf hf, ← dg_strOf hg, e]
theorem str_same {n : Nat} {f g : Nat → Nat} (e : f = g) : ((strOf n f).toList == (strOf n g).toList) = true := by rw [e]; simp
theorem str_other {n : Nat} {f g : Nat → Nat} (hf : IsRow n f) (hg : IsRow n g) (e : f ≠ g) : ((strOf n f).toList == (strOf n g).toList) = false := by
  rw [← beq_toListBytes]
  show ((strOf n f).data == (strOf n g).data) = false
  refine beq_eq_false_iff_ne.2 fun q => e (strOf_inj hf hg ?_)
  cases h1 : strOf n f; cases h2 : strOf n g
  rw [h1, h2] at q
  exact congrArg _ q
theorem strOf_mul {n : Nat} (f g : Nat → Nat) : strOf n (mulF f g) = strOf n (mulR n f g) := strOf_congr fun i hi => by simp [mulR, cutF, hi]

theorem heap_at (W : World) (o : Obj) (n : Nat) (hn : n = W.heap.size) : (W.alloc o).heap[n]? = some o := by subst hn; exact heap_alloc_new W o
theorem setRow_at (W : World) (c c' : Array Value) (t : TypeId) (n : Nat) (hn : n = W.heap.size) : (W.alloc (.cells c t)).setRow n c' = W.alloc (.cells c' t) := by subst hn; exact World.setRow_alloc_new W c c' t
/-! ### arrays compared -/
theorem dig8_list (f : Nat → Nat) (hf : ∀ i, f i < 256) : dig8 f = (((List.range 8).map fun i => UInt8.ofNat (f i)).map Extern.Stop.cell).toArray := by
  have e : ∀ i, Extern.Stop.cell (UInt8.ofNat (f i)) = .int .u8 (f i) := fun i => by
    have := hf i
    simp [Extern.Stop.cell]; omega
  simp [dig8, List.range_succ, e]
theorem run_neq_dig8 (W : World) (f g : Nat → Nat) (hf : ∀ i, f i < 256) (hg : ∀ i, g i < 256) (b : Bool) (hb : ((List.range 8).map (fun i => UInt8.ofNat (f i)) == (List.range 8).map (fun i => UInt8.ofNat (g i))) = b) :
    (binOp .neq 50 (.agg (dig8 f)) (.agg (dig8 g))).run Try.prog W = .ok (.bool (!b)) W := by
  rw [dig8_list f hf, dig8_list g hg, run_neq_struct, run_equalIn_bytes W 9998 50 5 8 Try.underlying50 Try.underlying5 (fun w => by kernel_rfl) _ _ (by simp) (by simp), hb]
  rfl
theorem dig8_same (f : Nat → Nat) : ((List.range 8).map (fun i => UInt8.ofNat (f i)) == (List.range 8).map (fun i => UInt8.ofNat (f i))) = true := by simp
theorem dig8_other {n : Nat} {f g : Nat → Nat} (hf : IsRow n f) (hg : IsRow n g) (e : f ≠ g) : ((List.range 8).map (fun i => UInt8.ofNat (f i)) == (List.range 8).map (fun i => UInt8.ofNat (g i))) = false := by
  refine beq_eq_false_iff_ne.2 fun q => e (row_ext hf hg fun i hi => ?_)
  have h8 := hf.eight
  have := congrArg (fun l : List UInt8 => (l[i]?.getD 0).toNat) q
  simp [show i < 8 by omega] at this
  have := hf.byte i
  have := hg.byte i
  omega

end Go.Proofs.Ytpnagaokmfaaiaa
