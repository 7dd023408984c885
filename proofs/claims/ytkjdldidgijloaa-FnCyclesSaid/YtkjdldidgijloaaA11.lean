/- impl.Times, and the law on it. -/
import Derived.Test.YtkjdldidgijloaaA10
import Derived.Deep.WholeRow
namespace Go.Proofs.Ytkjdldidgijloaa
open Go.RowKit

theorem isDig_of {n : Nat} {f : Nat → Nat} (h : IsRow n f) : IsDig n f :=
  ⟨h.eight, fun i hi => by have := h.ok i hi; have := h.eight; omega, fun i hi _ => h.zero i hi⟩
theorem isDig_mul {n : Nat} {f g : Nat → Nat} (hf : IsRow n f) (hg : IsRow n g) : IsDig n (cutF n (mulF f g)) := by
  refine ⟨hf.eight, fun i hi => ?_, fun i hi _ => by simp [cutF]; omega⟩
  have h1 := hg.ok i hi
  have h2 := hf.ok (g i - 49) (by omega)
  have := hf.eight
  simp only [cutF, hi, if_true, mulF]
  omega

set_option maxRecDepth 100000 in
set_option maxHeartbeats 1000000 in
theorem iTimes_yes (s t : ByteArray) (hs : s.size ≤ maxLen) (ht : t.size ≤ maxLen) (h : twoB s t = true) (w : World) :
    Calls Try.prog 18 #[.string s, .string t] w fun e w' => e = .returned (.tuple #[.string (strOf s.size (mulF (dg s) (dg t))), .bool true]) ∧ Below w.heap.size w w' := by
  have hy := twoB_yes h
  have hst : s.size = t.size := hy.2.2
  have HY := Lib.hid hy
  clear h hy
  have hgt : ∀ i, i < s.size → 49 ≤ dg t i ∧ dg t i ≤ 48 + s.size := fun i hi => by
    have := HY.out.2.1.ok i (by omega); omega
  have hres : strOf s.size (cutF s.size (mulF (dg s) (dg t))) = strOf s.size (mulF (dg s) (dg t)) := strOf_congr fun i hi => by simp [cutF, hi]
  have HRES := Lib.hid hres
  have HGT := Lib.hid hgt
  have hne : ((s.size : Int) != (t.size : Int)) = false := by simp [hst]
  have HST := Lib.hid hst
  clear hgt hres hst
  go_enter Try.func18, Try.ntmps18
  go_wp2_with fail
  refine (digitsOf_yes s hs HY.out.1 _).mono ?_
  rintro e w1 ⟨rfl, hb1⟩
  go_wp2_with (refine wpList_store_row rfl 60 _ _ rfl _ _ rfl rfl 60 _ (heap_alloc_new _ _) (by kernel_rfl) rfl (by kernel_rfl) ?_; rw [World.setRow_alloc_new])
  refine (digitsOf_yes t ht HY.out.2.1 _).mono ?_
  rintro e w2 ⟨rfl, hb2⟩
  have hD := Lib.hid (((RowAt.new w1 60 (dig8 (dg s))).kept hb2).push (.cells (dig8 (dg t)) 60))
  have hE := Lib.hid (RowAt.new w2 60 (dig8 (dg t)))
  have hbel := Lib.hid ((hb1.trans ((((Below.refl _ w1).alloc (Nat.le_refl _) _).trans (hb2.mono (by simp))).mono hb1.size)).alloc (Nat.le_trans hb1.size (Nat.le_trans (by simp) hb2.size)) (.cells (dig8 (dg t)) 60))
  clear hb1 hb2
  go_wp2_with (first | (refine wpList_store_row rfl 60 _ _ rfl _ _ rfl rfl 60 _ (heap_alloc_new _ _) (by kernel_rfl) rfl (by kernel_rfl) ?_; rw [World.setRow_alloc_new]) | (refine wpList_load_row rfl 60 _ rfl _ rfl 60 _ _ _ hD.out Try.underlying60 rfl (by kernel_rfl) ?_) | (refine wpList_load_row rfl 60 _ rfl _ rfl 60 _ _ _ hE.out Try.underlying60 rfl (by kernel_rfl) ?_))
  refine (times_any s.size (dg s) (dg t) (isDig_of HY.out.1) HGT.out _).mono ?_
  rintro e w3 ⟨rfl, hb3⟩
  have hbel3 := Lib.hid (hbel.out.trans (hb3.mono hbel.out.size))
  clear hb3 hbel
  go_wp2_with fail
  refine (row_any s.size _ (isDig_mul HY.out.1 (by rw [HST.out]; exact HY.out.2.1)) _).mono ?_
  rintro e w4 ⟨rfl, hb4⟩
  rw [HRES.out]
  go_wp2
  go_ret2
  exact ⟨rfl, hbel3.out.trans (hb4.mono hbel3.out.size)⟩

set_option maxRecDepth 100000 in
set_option maxHeartbeats 1000000 in
theorem iTimes_no (s t : ByteArray) (hs : s.size ≤ maxLen) (ht : t.size ≤ maxLen) (h : twoB s t = false) (w : World) :
    Calls Try.prog 18 #[.string s, .string t] w fun e w' => e = .returned (.tuple #[.string ⟨#[]⟩, .bool false]) ∧ Below w.heap.size w w' := by
  unfold maxLen at hs ht
  go_enter Try.func18, Try.ntmps18
  go_wp2_with fail
  refine (digitsOf_any s (by unfold maxLen; exact hs) _).mono ?_
  rintro e w1 ⟨rfl, hb1⟩
  go_wp2_with (refine wpList_store_row rfl 60 _ _ rfl _ _ rfl rfl 60 _ (heap_alloc_new _ _) (by kernel_rfl) rfl (by kernel_rfl) ?_; rw [World.setRow_alloc_new])
  refine (digitsOf_any t (by unfold maxLen; exact ht) _).mono ?_
  rintro e w2 ⟨rfl, hb2⟩
  have hbel := Lib.hid ((hb1.trans ((((Below.refl _ w1).alloc (Nat.le_refl _) _).trans (hb2.mono (by simp))).mono hb1.size)).alloc (Nat.le_trans hb1.size (Nat.le_trans (by simp) hb2.size)) (.cells (dig8 (dgF t)) 60))
  clear hb1 hb2
  have hcase : goodB s = false ∨ (goodB s = true ∧ goodB t = false) ∨ (goodB s = true ∧ goodB t = true ∧ ((s.size : Int) != (t.size : Int)) = true) := by
    unfold twoB at h
    cases h1 : goodB s
    · exact .inl rfl
    · cases h2 : goodB t
      · exact .inr (.inl ⟨rfl, rfl⟩)
      · simp [h1, h2] at h
        exact .inr (.inr ⟨rfl, rfl, by simp; omega⟩)
  clear h
  rcases hcase with h1 | ⟨h1, h2⟩ | ⟨h1, h2, h3⟩
  all_goals
    go_wp2_with (refine wpList_store_row rfl 60 _ _ rfl _ _ rfl rfl 60 _ (heap_alloc_new _ _) (by kernel_rfl) rfl (by kernel_rfl) ?_; rw [World.setRow_alloc_new])
    go_ret2
    exact ⟨rfl, hbel.out⟩

set_option maxRecDepth 100000 in
set_option maxHeartbeats 1000000 in
theorem lawTimes (s t : ByteArray) (w : World) (hs : s.size ≤ maxLen) (ht : t.size ≤ maxLen) :
    Calls Try.prog 8 #[.string s, .string t] w fun e w' => e = .returned (.bool true) ∧ Below w.heap.size w w' := by
  by_cases hbig : 1048576 < s.size
  · have hbig' : (1048576 : Int) < s.size := by omega
    go_enter Try.func8, Try.ntmps8
    go_wp2
    go_ret
    exact ⟨rfl, Below.refl _ _⟩
  · have hbig' : (s.size : Int) ≤ 1048576 := by omega
    by_cases hbig2 : 1048576 < t.size
    · have hbig2' : (1048576 : Int) < t.size := by omega
      go_enter Try.func8, Try.ntmps8
      go_wp2
      go_ret
      exact ⟨rfl, Below.refl _ _⟩
    · have hbig2' : (t.size : Int) ≤ 1048576 := by omega
      cases h : twoB s t
      · have H := Lib.hid h
        clear h
        go_enter Try.func8, Try.ntmps8
        go_wp2_with fail
        refine (sTimes_no s t hs ht H.out _).mono ?_
        rintro e w1 ⟨rfl, hb1⟩
        go_wp2_with fail
        refine (iTimes_no s t hs ht H.out _).mono ?_
        rintro e w2 ⟨rfl, hb2⟩
        go_wp2
        go_ret
        exact ⟨rfl, hb1.trans (hb2.mono hb1.size)⟩
      · have H := Lib.hid h
        clear h
        go_enter Try.func8, Try.ntmps8
        go_wp2_with fail
        refine (sTimes_yes s t hs ht H.out _).mono ?_
        rintro e w1 ⟨rfl, hb1⟩
        go_wp2_with fail
        refine (iTimes_yes s t hs ht H.out _).mono ?_
        rintro e w2 ⟨rfl, hb2⟩
        go_wp2
        go_ret
        exact ⟨rfl, hb1.trans (hb2.mono hb1.size)⟩
end Go.Proofs.Ytkjdldidgijloaa
