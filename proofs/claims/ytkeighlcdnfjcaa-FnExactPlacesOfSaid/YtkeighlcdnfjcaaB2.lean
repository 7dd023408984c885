/- The program's pairs swapped, and its change as digits. -/
import Derived.Test.YtkeighlcdnfjcaaA14
import Derived.Test.YtkeighlcdnfjcaaB1
import Derived.BigRegion
import Derived.ChangeAlike
namespace Go.Proofs.Ytkeighlcdnfjcaa
open Go.RowKit

theorem swF_step (f : Nat → Nat) (a p : Nat) (hp : a ≤ p) (hev : (p - a) % 2 = 0) : setF (setF (swF f a p) p (f (p + 1))) (p + 1) (f p) = swF f a (p + 2) := by
  funext i
  unfold setF swF
  by_cases e1 : i = p + 1
  · subst e1
    have h1 : ¬ (p + 1 - a) % 2 = 0 := by omega
    simp [h1]; omega
  · by_cases e2 : i = p
    · subst e2
      have h1 : a ≤ i ∧ i < i + 2 := by omega
      simp [h1, hev]
    · simp only [e1, e2, if_false]
      by_cases h : a ≤ i ∧ i < p
      · have h' : a ≤ i ∧ i < p + 2 := by omega
        rw [if_pos h, if_pos h']
      · have h' : ¬ (a ≤ i ∧ i < p + 2) := by omega
        rw [if_neg h, if_neg h']
theorem swF_at (f : Nat → Nat) (a p i : Nat) (hi : p ≤ i) : swF f a p i = f i := by
  unfold swF
  have : ¬ (a ≤ i ∧ i < p) := by omega
  rw [if_neg this]

set_option maxRecDepth 100000 in
set_option maxHeartbeats 1000000 in
theorem swapped_yes (f : Nat → Nat) (a e : Nat) (hae : a ≤ e) (he : e ≤ 8) (hev : (e - a) % 2 = 0) (x y : Int) (hx : x = a + 1) (hy : y = e + 1) (w : World) :
    Calls Try.prog 76 #[.agg (dig8 f), .int .i64 x, .int .i64 y] w fun r w' => r = .returned (.tuple #[.agg (dig8 (swF f a e)), .bool true]) ∧ Below w.heap.size w w' := by
  have hev' : ((y - x) % 2 == 0) = true := by simp; omega
  go_enter Try.func76, Try.ntmps76
  simp only [dig8]
  go_wp2
  have hD : RowAt ((w.alloc (.cells (dig8 f) 56)).alloc (.cells zero8 56)) w.heap.size 56 (dig8 (swF f a a)) := by
    have e1 : dig8 (swF f a a) = dig8 f := dig8_congr fun i _ => by
      by_cases h : a ≤ i
      · exact swF_at f a a i h
      · simp [swF, h]
    rw [e1]
    exact (RowAt.new w _ (dig8 f)).push _
  have hR : RowAt ((w.alloc (.cells (dig8 f) 56)).alloc (.cells zero8 56)) (w.heap.size + 1) 56 zero8 := by
    have := RowAt.new (w.alloc (.cells (dig8 f) 56)) 56 zero8
    simpa using this
  have hB : Below w.heap.size w ((w.alloc (.cells (dig8 f) 56)).alloc (.cells zero8 56)) := ((Below.refl _ w).alloc (Nat.le_refl _) _).alloc (by simp) _
  have HD := Lib.hid hD
  have HR := Lib.hid hR
  have HB := Lib.hid hB
  have HEV := Lib.hid hev
  clear hD hR hB hev
  go_loopg [8] (e - a) (fun q i wr => ∃ p : Nat, a ≤ p ∧ p ≤ e ∧ (p - a) % 2 = 0 ∧ q + p = e ∧ i = .int .i64 ((p : Int) + 1) ∧ RowAt wr w.heap.size 56 (dig8 (swF f a p)) ∧ RowAt wr (w.heap.size + 1) 56 zero8 ∧ Below w.heap.size w wr)
  case atStart => exact ⟨a, Nat.le_refl _, hae, by simp, by omega, by simp [hx], HD.out, HR.out, HB.out⟩
  case round =>
    clear HD HR HB
    obtain ⟨p, hap, hpe, hpa, hq, rfl, hD, hR, hB⟩ := hrel
    have HD := Lib.hid hD
    have HR := Lib.hid hR
    have HB := Lib.hid hB
    have HQ := Lib.hid hq
    have HPA := Lib.hid hpa
    clear hD hR hB hq hpa
    by_cases hlt : p < e
    · have h2 : p + 2 ≤ e := by have := HPA.out; have := HEV.out; omega
      have hP8 : p + 1 < 8 := by omega
      have hp8 : p < 8 := by omega
      have hPy : (p : Int) + 1 < y := by omega
      have c1 := HD.out.cell p (dig8_get _ p hp8)
      have c2 := HD.out.cell (p + 1) (dig8_get _ (p + 1) hP8)
      rw [swF_at f a p p (Nat.le_refl _)] at c1
      rw [swF_at f a p (p + 1) (by omega)] at c2
      have f1 := HD.out.free p
      have f2 := HD.out.free (p + 1)
      go_wp2
      go_region
      all_goals
        go_wp2
        go_roundg (e - (p + 2))
        case measure => have := HQ.out; omega
        case rel =>
          refine ⟨p + 2, by omega, h2, by have := HPA.out; omega, by have := HQ.out; omega, by go_num, ?_, ?_, ?_⟩
          · have h3 := (HD.out.set p (.int .u8 (f (p + 1)))).set (p + 1) (.int .u8 (f p))
            rw [dig8_set _ _ _ hp8, dig8_set _ _ _ hP8, swF_step f a p hap HPA.out] at h3
            exact h3
          · exact (HR.out.other _ _ (by simp)).other _ _ (by simp)
          · exact ((HB.out.setCell (p := ⟨w.heap.size, p, none⟩) (Nat.le_refl _) _).setCell (p := ⟨w.heap.size, p + 1, none⟩) (Nat.le_refl _) _).drew
    · obtain rfl : p = e := by omega
      have hPy : ¬ (p : Int) + 1 < y := by omega
      go_wp2_with (first | (refine wpList_load_row rfl 56 _ rfl _ rfl 56 _ _ _ HD.out Try.underlying56 rfl (by kernel_rfl) ?_) | (refine wpList_store_row rfl 56 _ _ rfl _ _ rfl rfl 56 _ HR.out (by kernel_rfl) rfl (by kernel_rfl) ?_))
      exact bodyPost_ret (results_row_tmp rfl _ _ (w.heap.size + 1) 56 (dig8 (swF f a p)) (0, 0) _ rfl (HR.out.row _) Try.underlying56 rfl (by kernel_rfl)) rfl ⟨rfl, below_setRow HB.out (by omega) _⟩

set_option maxRecDepth 100000 in
set_option maxHeartbeats 1000000 in
theorem swapped_no (f : Nat → Nat) (a e : Nat) (hae : a ≤ e) (he : e ≤ 8) (hev : ¬ (e - a) % 2 = 0) (x y : Int) (hx : x = a + 1) (hy : y = e + 1) (w : World) :
    Calls Try.prog 76 #[.agg (dig8 f), .int .i64 x, .int .i64 y] w fun r w' => r = .returned (.tuple #[.agg zero8, .bool false]) ∧ Below w.heap.size w w' := by
  have hev' : (((e : Int) + 1 - (a + 1)) % 2 != 0) = true := by simp; omega
  have hR : RowAt ((w.alloc (.cells (dig8 f) 56)).alloc (.cells zero8 56)) (w.heap.size + 1) 56 zero8 := by
    have := RowAt.new (w.alloc (.cells (dig8 f) 56)) 56 zero8
    simpa using this
  have hB : Below w.heap.size w ((w.alloc (.cells (dig8 f) 56)).alloc (.cells zero8 56)) := ((Below.refl _ w).alloc (Nat.le_refl _) _).alloc (by simp) _
  have HR := Lib.hid hR
  have HB := Lib.hid hB
  clear hR hB hev
  go_enter Try.func76, Try.ntmps76
  simp only [dig8]
  go_wp2_with (first | (refine wpList_store_row rfl 56 _ _ rfl _ _ rfl rfl 56 _ HR.out (by kernel_rfl) rfl (by kernel_rfl) ?_))
  exact bodyPost_ret (results_row_tmp rfl _ _ (w.heap.size + 1) 56 zero8 (0, 0) _ rfl (HR.out.row _) Try.underlying56 rfl (by kernel_rfl)) rfl ⟨rfl, below_setRow HB.out (by omega) _⟩
end Go.Proofs.Ytkeighlcdnfjcaa
