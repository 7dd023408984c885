/- MirrorChange in the program. -/
import Derived.Test.YtkeighlcdnfjcaaB11
namespace Go.Proofs.Ytkeighlcdnfjcaa
open Go.RowKit

/-- mirrored digits, the last k of them laid -/
def mirTo (n : Nat) (f : Nat → Nat) (k j : Nat) : Nat := if n ≤ j + k ∧ j < n then 49 + n - (f (n - 1 - j) - 48) else 0
theorem mirTo_zero (n : Nat) (f : Nat → Nat) : dig8 (mirTo n f 0) = zero8 := by
  have : ∀ i, mirTo n f 0 i = 0 := fun i => by unfold mirTo; rw [if_neg (by omega)]
  simp [dig8, zero8, this]
theorem mirTo_succ {n : Nat} (f : Nat → Nat) {k : Nat} (hk : k < n) : setF (mirTo n f k) (n - 1 - k) (49 + n - (f k - 48)) = mirTo n f (k + 1) := by
  funext j
  unfold setF mirTo
  by_cases e : j = n - 1 - k
  · subst e
    rw [if_pos rfl, if_pos (by omega), show n - 1 - (n - 1 - k) = k by omega]
  · rw [if_neg e]
    by_cases h : n ≤ j + k ∧ j < n
    · rw [if_pos h, if_pos (by omega)]
    · rw [if_neg h, if_neg (by omega)]
theorem mirTo_all (n : Nat) (f : Nat → Nat) : mirTo n f n = mirF n f := by
  funext j
  unfold mirTo mirF
  by_cases h : j < n
  · rw [if_pos (by omega), if_pos h]
  · rw [if_neg (by omega), if_neg h]
theorem isRow_mir {n : Nat} {f : Nat → Nat} (h : IsRow n f) : IsRow n (mirF n f) := by
  have hm : ∀ i, i < n → mirF n f i = 49 + n - (f (n - 1 - i) - 48) := fun i hi => by simp [mirF, hi]
  refine isRow_mk h.three h.eight (fun i hi => ?_) (fun i hi => ?_) (fun i j hi hj e => ?_) (fun i hi => by simp [mirF]; omega)
  · rw [hm i hi]; have := h.lo (n - 1 - i) (by omega); have := h.hi (n - 1 - i) (by omega); omega
  · rw [hm i hi]; have := h.lo (n - 1 - i) (by omega); have := h.hi (n - 1 - i) (by omega); omega
  · rw [hm i hi, hm j hj] at e
    have := h.lo (n - 1 - i) (by omega); have := h.hi (n - 1 - i) (by omega)
    have := h.lo (n - 1 - j) (by omega); have := h.hi (n - 1 - j) (by omega)
    have := h.inj (n - 1 - i) (n - 1 - j) (by omega) (by omega) (by omega)
    omega

set_option maxRecDepth 100000 in
set_option maxHeartbeats 1000000 in
theorem iMirrorChange_yes (n : Nat) (s : ByteArray) (hg : goodL n (lets s) = true) (w : World) :
    Calls Try.prog 23 #[.int .i64 n, .string s] w fun e w' => e = .returned (.tuple #[.string (txt (mirL n (lets s))), .bool true]) ∧ Below w.heap.size w w' := by
  have h3 := goodL_three hg
  have h8 := goodL_eight hg
  have h3' : (3 : Int) ≤ n := by omega
  have h8' : (n : Int) ≤ 8 := by omega
  have hmir := mirrors n h3 h8 _ (mem_chs hg)
  simp only [mirOk, Bool.and_eq_true, beq_iff_eq] at hmir
  have hct := hmir.1.1.1.1.1
  have hrow := isRow_cf hg
  have HG := Lib.hid hg
  have HCT := Lib.hid hct
  have HROW0 := Lib.hid hrow
  clear hg hct hmir hrow
  go_enter Try.func23, Try.ntmps23
  go_wp2_with fail
  refine (changeDigits_yes n s HG.out _).mono ?_
  rintro e w1 ⟨rfl, hb1⟩
  generalize cf n (lets s) = f at HCT HROW0 ⊢
  have hR1 := RowAt.new w1 56 (dig8 f)
  have HROW := Lib.hid (hR1.push (.cells zero8 56))
  have HM := Lib.hid (show RowAt ((w1.alloc (.cells (dig8 f) 56)).alloc (.cells zero8 56)) (w1.heap.size + 1) 56 (dig8 (mirTo n f 0)) by
    have := RowAt.new (w1.alloc (.cells (dig8 f) 56)) 56 zero8
    rw [mirTo_zero]
    simpa using this)
  have HB := Lib.hid ((hb1.alloc hb1.size (.cells (dig8 f) 56)).alloc (by simp; have := hb1.size; omega) (.cells zero8 56))
  have hsz1 := hb1.size
  clear hb1 hR1
  go_wp2_with (first | (refine wpList_store_row rfl 56 _ _ rfl _ _ rfl rfl 56 _ (heap_alloc_new _ _) (by kernel_rfl) rfl (by kernel_rfl) ?_; rw [World.setRow_alloc_new]) | fail)
  go_loopg [9, 19] n (fun q _ i wr => ∃ k : Nat, k ≤ n ∧ q + k = n ∧ i = .int .i64 k ∧ RowAt wr w1.heap.size 56 (dig8 f) ∧ RowAt wr (w1.heap.size + 1) 56 (dig8 (mirTo n f k)) ∧ Below w.heap.size w wr)
  case atStart => exact ⟨0, Nat.zero_le _, rfl, rfl, HROW.out, HM.out, HB.out⟩
  case round =>
    clear HROW HM HB
    obtain ⟨k, hk, hq, rfl, hrow, hm, hbel⟩ := hrel
    have HQ := Lib.hid hq
    have HROW := Lib.hid hrow
    have HM := Lib.hid hm
    have HB := Lib.hid hbel
    clear hq hrow hm hbel
    by_cases hlt : k < n
    · have hlo := HROW0.out.lo k hlt
      have hhi := HROW0.out.hi k hlt
      obtain ⟨j, hj⟩ : ∃ j, j = n - 1 - k := ⟨_, rfl⟩
      have ej : (n : Int) - 1 - k = j := by omega
      have hj8 : j < 8 := by omega
      have c1 := HROW.out.cell k (dig8_get f k (by omega))
      obtain ⟨p, hp⟩ : ∃ p, f k = 48 + p := ⟨f k - 48, by omega⟩
      have hset : setF (mirTo n f k) j (49 + n - p) = mirTo n f (k + 1) := by
        have := mirTo_succ f hlt
        rw [← hj, hp, Nat.add_sub_cancel_left] at this
        exact this
      have HSET := Lib.hid hset
      obtain ⟨v, hv⟩ : ∃ v, v = 49 + n - p := ⟨_, rfl⟩
      have ev : (49 : Int) + n - p = v := by omega
      have ep : ((48 + p : Nat) : Int) - 48 = p := by omega
      have hp8 : p ≤ 8 := by omega
      have hv56 : v ≤ 56 := by omega
      rw [hp] at c1
      rw [← hv] at hset
      have HSET := Lib.hid hset
      clear hset hv hj hlo hhi hp
      have c3 := HM.out.cell j (dig8_get _ j hj8)
      have c4 := HM.out.free j
      go_wp2
      go_roundg (n - (k + 1))
      case measure => have := HQ.out; omega
      case rel =>
        refine ⟨k + 1, by omega, by have := HQ.out; omega, by go_num, HROW.out.other _ _ (by simp), ?_, HB.out.setCell (by simp; omega) _⟩
        have := HM.out.set j (.int .u8 v)
        rw [dig8_set _ _ _ hj8, HSET.out] at this
        rw [show (49 + (n : Int) - (48 + (p : Int) - 48)) = (v : Int) by omega]
        exact this
    · obtain rfl : k = n := by omega
      go_wp2_with (first | (refine wpList_load_row rfl 56 _ rfl _ rfl 56 _ _ _ HM.out Try.underlying56 rfl (by kernel_rfl) ?_) | fail)
      rw [mirTo_all]
      refine (changeText_any k (mirF k f) (isRow_mir HROW0.out) _).mono ?_
      rintro e w2 ⟨rfl, hb2⟩
      rw [HCT.out]
      have HB2 := Lib.hid (HB.out.trans (hb2.mono HB.out.size))
      clear hb2
      unfold chEnd
      go_wp2
      go_ret2
      exact ⟨rfl, HB2.out⟩
end Go.Proofs.Ytkeighlcdnfjcaa
