/- Apply in the program and in the model, and the law on it. -/
import Derived.Test.YtkeighlcdnfjcaaB6
namespace Go.Proofs.Ytkeighlcdnfjcaa
open Go.RowKit

/-- the row behind a change -/
def appF (r s : ByteArray) : ByteArray := strOf r.size (mulF (dg r) (cf r.size (lets s)))

set_option maxRecDepth 100000 in
set_option maxHeartbeats 1000000 in
theorem l2Apply_any (r s : ByteArray) (hs : s.size ≤ maxLen) (hr : goodB r = true) (hg : goodL r.size (lets s) = true) (w : World) :
    Calls Try.prog 52 #[.string r, .string s] w fun e w' => e = .returned (.string (appF r s)) ∧ Below w.heap.size w w' := by
  have HG := Lib.hid hg
  have HR := Lib.hid (goodB_row hr)
  have HC := Lib.hid (isRow_cf hg)
  clear hg hr
  go_enter Try.func52, Try.ntmps52
  go_wp2_with fail
  refine (l2Row_any r.size s hs HG.out _).mono ?_
  rintro e w1 ⟨rfl, hb1⟩
  go_wp2_with fail
  refine (l1Times_any r.size (dg r) (cf r.size (lets s)) r _ (isStr_dg r) (isStr_row HC.out) HC.out.eight (fun i hi => ⟨HC.out.lo i hi, HC.out.hi i hi⟩) _).mono ?_
  rintro e w2 ⟨rfl, rfl⟩
  go_wp2
  go_ret
  exact ⟨rfl, hb1⟩

set_option maxRecDepth 100000 in
set_option maxHeartbeats 1000000 in
theorem sApply_no (r s : ByteArray) (hr : r.size ≤ maxLen) (hs : s.size ≤ maxLen) (h : (goodB r && goodC r.size s) = false) (w : World) :
    Calls Try.prog 16 #[.string r, .string s] w fun e w' => e = .returned (.tuple #[.string ⟨#[]⟩, .bool false]) ∧ Below w.heap.size w w' := by
  cases hb : goodB r
  · have HB := Lib.hid hb
    clear h hb
    go_enter Try.func16, Try.ntmps16
    go_wp2_with fail
    refine (l1Row_any r hr _).mono ?_
    rintro e w1 ⟨rfl, hb1⟩
    rw [HB.out]
    go_wp2
    go_ret2
    exact ⟨rfl, hb1⟩
  · rw [hb] at h
    have HC := Lib.hid (show goodC r.size s = false from h)
    have HB := Lib.hid hb
    clear h hb
    go_enter Try.func16, Try.ntmps16
    go_wp2_with fail
    refine (l1Row_any r hr _).mono ?_
    rintro e w1 ⟨rfl, hb1⟩
    rw [HB.out]
    go_wp2_with fail
    refine (l2Change_any r.size s hs _).mono ?_
    rintro e w2 ⟨rfl, rfl⟩
    rw [HC.out]
    go_wp2
    go_ret2
    exact ⟨rfl, hb1⟩

set_option maxRecDepth 100000 in
set_option maxHeartbeats 1000000 in
theorem sApply_yes (r s : ByteArray) (hr : r.size ≤ maxLen) (hs : s.size ≤ maxLen) (hb : goodB r = true) (hg : goodL r.size (lets s) = true) (w : World) :
    Calls Try.prog 16 #[.string r, .string s] w fun e w' => e = .returned (.tuple #[.string (appF r s), .bool true]) ∧ Below w.heap.size w w' := by
  have HC := Lib.hid (show goodC r.size s = true by rw [goodC_in]; exact hg)
  have HB := Lib.hid hb
  have HG := Lib.hid hg
  clear hg hb
  go_enter Try.func16, Try.ntmps16
  go_wp2_with fail
  refine (l1Row_any r hr _).mono ?_
  rintro e w1 ⟨rfl, hb1⟩
  rw [HB.out]
  go_wp2_with fail
  refine (l2Change_any r.size s hs _).mono ?_
  rintro e w2 ⟨rfl, rfl⟩
  rw [HC.out]
  go_wp2_with fail
  refine (l2Apply_any r s hs HB.out HG.out _).mono ?_
  rintro e w3 ⟨rfl, hb3⟩
  go_wp2
  go_ret2
  exact ⟨rfl, hb1.trans (hb3.mono hb1.size)⟩

set_option maxRecDepth 100000 in
set_option maxHeartbeats 1000000 in
theorem iApply_no (r s : ByteArray) (hr : r.size ≤ maxLen) (h : (goodB r && goodC r.size s) = false) (w : World) :
    Calls Try.prog 15 #[.string r, .string s] w fun e w' => e = .returned (.tuple #[.string ⟨#[]⟩, .bool false]) ∧ Below w.heap.size w w' := by
  cases hb : goodB r
  · have HB := Lib.hid hb
    clear h hb
    go_enter Try.func15, Try.ntmps15
    go_wp2_with fail
    refine (digitsOf_no r hr HB.out _).mono ?_
    rintro e w1 ⟨rfl, hb1⟩
    go_wp2_with (refine wpList_store_row rfl 56 _ _ rfl _ _ rfl rfl 56 _ (heap_alloc_new _ _) (by kernel_rfl) rfl (by kernel_rfl) ?_; rw [World.setRow_alloc_new])
    refine (changeDigits_any r.size s _).mono ?_
    rintro e w2 ⟨rfl, hb2⟩
    have HB2 := Lib.hid ((hb1.alloc hb1.size _).trans (hb2.mono (by simp; have := hb1.size; omega)))
    clear hb1 hb2
    go_wp2_with (refine wpList_store_row rfl 56 _ _ rfl _ _ rfl rfl 56 _ (heap_alloc_new _ _) (by kernel_rfl) rfl (by kernel_rfl) ?_; rw [World.setRow_alloc_new])
    go_ret2
    exact ⟨rfl, HB2.out.alloc HB2.out.size _⟩
  · rw [hb] at h
    have HC := Lib.hid (show goodC r.size s = false from h)
    have HB := Lib.hid hb
    clear h hb
    go_enter Try.func15, Try.ntmps15
    go_wp2_with fail
    refine (digitsOf_yes r hr (goodB_row HB.out) _).mono ?_
    rintro e w1 ⟨rfl, hb1⟩
    go_wp2_with (refine wpList_store_row rfl 56 _ _ rfl _ _ rfl rfl 56 _ (heap_alloc_new _ _) (by kernel_rfl) rfl (by kernel_rfl) ?_; rw [World.setRow_alloc_new])
    refine (changeDigits_no r.size s HC.out _).mono ?_
    rintro e w2 ⟨rfl, hb2⟩
    have HB2 := Lib.hid ((hb1.alloc hb1.size _).trans (hb2.mono (by simp; have := hb1.size; omega)))
    clear hb1 hb2
    go_wp2_with (refine wpList_store_row rfl 56 _ _ rfl _ _ rfl rfl 56 _ (heap_alloc_new _ _) (by kernel_rfl) rfl (by kernel_rfl) ?_; rw [World.setRow_alloc_new])
    go_ret2
    exact ⟨rfl, HB2.out.alloc HB2.out.size _⟩

set_option maxRecDepth 100000 in
set_option maxHeartbeats 1000000 in
theorem iApply_yes (r s : ByteArray) (hr : r.size ≤ maxLen) (hb : goodB r = true) (hg : goodL r.size (lets s) = true) (w : World) :
    Calls Try.prog 15 #[.string r, .string s] w fun e w' => e = .returned (.tuple #[.string (appF r s), .bool true]) ∧ Below w.heap.size w w' := by
  have HR := Lib.hid (goodB_row hb)
  have HC := Lib.hid (isRow_cf hg)
  have HG := Lib.hid hg
  have hres : appF r s = strOf r.size (cutF r.size (mulF (dg r) (cf r.size (lets s)))) := strOf_congr fun i hi => by simp [cutF, hi]
  rw [hres]
  clear hg hb hres
  go_enter Try.func15, Try.ntmps15
  go_wp2_with fail
  refine (digitsOf_yes r hr HR.out _).mono ?_
  rintro e w1 ⟨rfl, hb1⟩
  go_wp2_with (refine wpList_store_row rfl 56 _ _ rfl _ _ rfl rfl 56 _ (heap_alloc_new _ _) (by kernel_rfl) rfl (by kernel_rfl) ?_; rw [World.setRow_alloc_new])
  refine (changeDigits_yes r.size s HG.out _).mono ?_
  rintro e w2 ⟨rfl, hb2⟩
  have hD := Lib.hid (((RowAt.new w1 56 (dig8 (dg r))).kept hb2).push (.cells (dig8 (cf r.size (lets s))) 56))
  have hE := Lib.hid (RowAt.new w2 56 (dig8 (cf r.size (lets s))))
  have HB2 := Lib.hid ((hb1.alloc hb1.size _).trans (hb2.mono (by simp; have := hb1.size; omega)))
  have hbel := Lib.hid (HB2.out.alloc HB2.out.size (.cells (dig8 (cf r.size (lets s))) 56))
  clear hb1 hb2
  go_wp2_with (first | (refine wpList_store_row rfl 56 _ _ rfl _ _ rfl rfl 56 _ (heap_alloc_new _ _) (by kernel_rfl) rfl (by kernel_rfl) ?_; rw [World.setRow_alloc_new]) | (refine wpList_load_row rfl 56 _ rfl _ rfl 56 _ _ _ hD.out Try.underlying56 rfl (by kernel_rfl) ?_) | (refine wpList_load_row rfl 56 _ rfl _ rfl 56 _ _ _ hE.out Try.underlying56 rfl (by kernel_rfl) ?_))
  refine (times_any r.size (dg r) (cf r.size (lets s)) (isDig_of HR.out) (fun i hi => ⟨HC.out.lo i hi, HC.out.hi i hi⟩) _).mono ?_
  rintro e w3 ⟨rfl, hb3⟩
  have hbel3 := Lib.hid (hbel.out.trans (hb3.mono hbel.out.size))
  clear hb3 hbel
  go_wp2_with fail
  refine (row_any r.size _ (isDig_mul HR.out HC.out) _).mono ?_
  rintro e w4 ⟨rfl, hb4⟩
  go_wp2
  go_ret2
  exact ⟨rfl, hbel3.out.trans (hb4.mono hbel3.out.size)⟩

set_option maxRecDepth 100000 in
set_option maxHeartbeats 1000000 in
theorem lawApply (s t : ByteArray) (w : World) (hs : s.size ≤ maxLen) (ht : t.size ≤ maxLen) :
    Calls Try.prog 7 #[.string s, .string t] w fun e w' => e = .returned (.bool true) ∧ Below w.heap.size w w' := by
  by_cases hbig : 1048576 < s.size
  · have hbig' : (1048576 : Int) < s.size := by omega
    go_enter Try.func7, Try.ntmps7
    go_wp2
    go_ret
    exact ⟨rfl, Below.refl _ _⟩
  · have hbig' : (s.size : Int) ≤ 1048576 := by omega
    by_cases hbig2 : 1048576 < t.size
    · have hbig2' : (1048576 : Int) < t.size := by omega
      go_enter Try.func7, Try.ntmps7
      go_wp2
      go_ret
      exact ⟨rfl, Below.refl _ _⟩
    · have hbig2' : (t.size : Int) ≤ 1048576 := by omega
      cases h : (goodB s && goodC s.size t)
      · have H := Lib.hid h
        clear h
        go_enter Try.func7, Try.ntmps7
        go_wp2_with fail
        refine (sApply_no s t hs ht H.out _).mono ?_
        rintro e w1 ⟨rfl, hb1⟩
        go_wp2_with fail
        refine (iApply_no s t hs H.out _).mono ?_
        rintro e w2 ⟨rfl, hb2⟩
        go_wp2
        go_ret
        exact ⟨rfl, hb1.trans (hb2.mono hb1.size)⟩
      · rw [Bool.and_eq_true, goodC_in] at h
        have H := Lib.hid h
        clear h
        go_enter Try.func7, Try.ntmps7
        go_wp2_with fail
        refine (sApply_yes s t hs ht H.out.1 H.out.2 _).mono ?_
        rintro e w1 ⟨rfl, hb1⟩
        go_wp2_with fail
        refine (iApply_yes s t hs H.out.1 H.out.2 _).mono ?_
        rintro e w2 ⟨rfl, hb2⟩
        go_wp2
        go_ret
        exact ⟨rfl, hb1.trans (hb2.mono hb1.size)⟩
end Go.Proofs.Ytkeighlcdnfjcaa
