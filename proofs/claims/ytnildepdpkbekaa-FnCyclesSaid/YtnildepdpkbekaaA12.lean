/- Turned rows: the program's and the model's. -/
import Derived.Test.YtnildepdpkbekaaA11
import Derived.Laws.IdiomStrings
namespace Go.Proofs.Ytnildepdpkbekaa
open Go.RowKit

theorem dig8_congr {f g : Nat → Nat} (h : ∀ i, i < 8 → f i = g i) : dig8 f = dig8 g := by
  unfold dig8
  rw [h 0 (by omega), h 1 (by omega), h 2 (by omega), h 3 (by omega), h 4 (by omega), h 5 (by omega), h 6 (by omega), h 7 (by omega)]
theorem fill_zero {n : Nat} {f : Nat → Nat} (h : IsRow n f) : dig8 (fill f (fun _ => 0) n) = dig8 (invF n f) := by
  refine dig8_congr fun i _ => ?_
  by_cases hi : i < n
  · exact fill_inv h _ i hi
  · rw [fill_free f _ n i (fun k hk e => by have := h.hi k hk; have := h.lo k hk; omega)]
    simp [invF, cutF, hi]
theorem dig8_fill0 (f : Nat → Nat) : dig8 (fill f (fun _ => 0) 0) = zero8 := rfl

set_option maxRecDepth 100000 in
set_option maxHeartbeats 1000000 in
theorem inverse_any (n : Nat) (f : Nat → Nat) (hf : IsRow n f) (w : World) :
    Calls Try.prog 84 #[.agg (dig8 f)] w fun e w' => e = .returned (.agg (dig8 (invF n f))) ∧ Below w.heap.size w w' := by
  have h8 : n ≤ 8 := hf.eight
  have h8' : (n : Int) ≤ 8 := by omega
  rw [← fill_zero hf]
  have HF := Lib.hid hf
  clear hf
  go_enter Try.func84, Try.ntmps84
  simp only [dig8]
  go_wp2_with fail
  refine (stage_any n f (isDig_of HF.out) _).mono ?_
  rintro e w1 ⟨rfl, hb1⟩
  have hF : RowAt w1 w.heap.size 56 (dig8 f) := (((RowAt.new w _ (dig8 f)).push _).push _).kept hb1
  have hR : RowAt w1 (w.heap.size + 1) 56 zero8 := by
    have := ((RowAt.new (w.alloc (.cells (dig8 f) 56)) 56 zero8).push (.cells zero8 56)).kept hb1
    simpa using this
  have hP : RowAt w1 (w.heap.size + 1 + 1) 56 (dig8 (fill f (fun _ => 0) 0)) := by
    have := (RowAt.new ((w.alloc (.cells (dig8 f) 56)).alloc (.cells zero8 56)) 56 zero8).kept hb1
    rw [dig8_fill0]
    simpa using this
  have hbel : Below w.heap.size w w1 := ((((Below.refl _ w).alloc (Nat.le_refl _) _).alloc (by simp) _).alloc (by simp; omega) _).trans (hb1.mono (by simp; omega))
  clear hb1
  have HP := Lib.hid hP
  have HR := Lib.hid hR
  have HFF := Lib.hid hF
  have HB := Lib.hid hbel
  clear hP hR hF hbel
  go_wp2
  go_loopg [4, 7] n (fun q _ i wr => ∃ k : Nat, k ≤ n ∧ q + k = n ∧ i = .int .i64 k ∧ RowAt wr w.heap.size 56 (dig8 f) ∧ RowAt wr (w.heap.size + 1) 56 zero8 ∧ RowAt wr (w.heap.size + 1 + 1) 56 (dig8 (fill f (fun _ => 0) k)) ∧ Below w.heap.size w wr)
  case atStart => exact ⟨0, Nat.zero_le _, rfl, rfl, HFF.out, HR.out, HP.out, HB.out⟩
  case round =>
    clear HP HR HFF HB
    obtain ⟨k, hk, hq, rfl, hF, hR, hP, hbel⟩ := hrel
    have HQ := Lib.hid hq
    have HP := Lib.hid hP
    have HR := Lib.hid hR
    have HFF := Lib.hid hF
    have HB := Lib.hid hbel
    clear hq hP hR hF hbel
    by_cases hlt : k < n
    · have hk8 : k < 8 := by omega
      have hlo := HF.out.lo k hlt
      have hhi := HF.out.hi k hlt
      obtain ⟨c, hc⟩ : ∃ c, f k = 49 + c := ⟨f k - 49, by omega⟩
      have hc8 : c < 8 := by omega
      have hgk : (49 : Int) ≤ f k := by omega
      have hgk2 : (f k : Int) ≤ 56 := by omega
      have e1 : (f k : Int) - 49 = c := by omega
      have HC := Lib.hid (show f k - 49 = c by omega)
      clear hc hlo hhi
      have c2 := HFF.out.cell k (dig8_get f k hk8)
      have c3 := HP.out.cell c (dig8_get _ c hc8)
      have c4 := HP.out.free c
      go_wp2
      go_roundg (n - (k + 1))
      case measure => have := HQ.out; omega
      case rel =>
        refine ⟨k + 1, by omega, by have := HQ.out; omega, by go_num, HFF.out.other _ _ (by simp <;> omega), HR.out.other _ _ (by simp <;> omega), ?_, HB.out.setCell (by simp <;> omega) _⟩
        have := HP.out.set c (.int .u8 (49 + k : Nat))
        rw [dig8_set _ _ _ hc8, ← HC.out] at this
        rw [← HC.out]
        exact this
    · obtain rfl : k = n := by omega
      go_wp2_with (first | (refine wpList_load_row rfl 56 _ rfl _ rfl 56 _ _ _ HP.out Try.underlying56 rfl (by kernel_rfl) ?_) | (refine wpList_store_row rfl 56 _ _ rfl _ _ rfl rfl 56 _ HR.out (by kernel_rfl) rfl (by kernel_rfl) ?_))
      refine bodyPost_ret (results_cell_row rfl _ _ (w.heap.size + 1) 56 (dig8 (fill f (fun _ => 0) k)) (0, 0) _ rfl (HR.out.row _) Try.underlying56 rfl (by kernel_rfl)) rfl ⟨rfl, below_setRow HB.out (by omega) _⟩
end Go.Proofs.Ytnildepdpkbekaa
