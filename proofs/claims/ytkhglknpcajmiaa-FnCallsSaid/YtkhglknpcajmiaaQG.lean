/- callEffect, CallRow, CallOrder in the program. -/
import Derived.Test.YtkhglknpcajmiaaQE
namespace Go.Proofs.Ytkhglknpcajmiaa
open Go.RowKit
set_option linter.unusedSimpArgs false
set_option linter.unusedVariables false

set_option maxRecDepth 100000 in
set_option maxHeartbeats 1000000 in
theorem callEffect_no (s : ByteArray) (hs : s.size ≤ maxLen) (n : Int) (v : Value) (L : List (List Nat)) (b q r : ByteArray) (w : World) (h : Txts w v L) (hl : L.length ≤ 2000000) (hk : askK s n L b q r = false) :
    Calls Try.prog 88 #[.agg #[.string s, .int .i64 n, v], .agg #[.string b, .string q], .string r] w fun e w' => e = .returned (.tuple #[.agg zero8, .bool false]) ∧ Below w.heap.size w w' := by
  obtain ⟨a, cap, rfl, hcap, -⟩ := id h
  have HT := Lib.hid h
  have HR0 := Lib.hid (((RowAt.new w 25 #[.string s, .int .i64 n, .slice a L.length cap]).push (.cells #[.string b, .string q] 27)).push (.cells zero8 87))
  have HK0 : Hid (RowAt (((w.alloc (.cells #[.string s, .int .i64 n, .slice a L.length cap] 25)).alloc (.cells #[.string b, .string q] 27)).alloc (.cells zero8 87)) (w.heap.size + 1) 27 #[.string b, .string q]) := Lib.hid (by
    have := (RowAt.new (w.alloc (.cells #[.string s, .int .i64 n, .slice a L.length cap] 25)) 27 #[.string b, .string q]).push (.cells zero8 87)
    simpa using this)
  have HZ0 : Hid (RowAt (((w.alloc (.cells #[.string s, .int .i64 n, .slice a L.length cap] 25)).alloc (.cells #[.string b, .string q] 27)).alloc (.cells zero8 87)) (w.heap.size + 1 + 1) 87 zero8) := Lib.hid (by
    have := RowAt.new ((w.alloc (.cells #[.string s, .int .i64 n, .slice a L.length cap] 25)).alloc (.cells #[.string b, .string q] 27)) 87 zero8
    simpa using this)
  have HB0 := Lib.hid ((((Below.refl _ w).alloc (Nat.le_refl _) (.cells #[.string s, .int .i64 n, .slice a L.length cap] 25)).alloc (by simp) (.cells #[.string b, .string q] 27)).alloc (by simp; omega) (.cells zero8 87))
  cases hg : goodK s n L b q
  · have HC := Lib.hid (fun w h => callingOf_no s hs n (.slice a L.length cap) L b q w h hl hg)
    clear h hcap hl hg
    generalize L.length = m at *
    simp only [zero33] at HC
    simp only [zero8] at HR0 HK0 HZ0 HB0
    go_enter Try.func88, Try.ntmps88
    go_wp2_with (first | (refine wpList_load_row rfl 25 _ rfl _ rfl 25 _ _ _ (HR0.out) Try.underlying25 rfl (by kernel_rfl) ?_) | (refine wpList_load_row rfl 27 _ rfl _ rfl 27 _ _ _ (HK0.out) Try.underlying27 rfl (by kernel_rfl) ?_) | fail)
    refine (HC.out _ (HT.out.kept HB0.out)).mono ?_
    rintro e w1 ⟨rfl, hb1⟩
    have HB1 := Lib.hid (HB0.out.trans (hb1.mono HB0.out.size))
    have HZ1 := Lib.hid (HZ0.out.kept hb1)
    clear hb1 HR0 HK0 HB0 HC HT HZ0
    have HZ2 := Lib.hid (HZ1.out.push (.cells zero33 92))
    have HB2 := Lib.hid (HB1.out.alloc HB1.out.size (.cells zero33 92))
    simp only [zero33] at HZ2 HB2
    go_wp2_with (first | (refine wpList_store_row rfl 92 _ _ rfl _ _ rfl rfl 92 _ (heap_at _ _ _ (by simp)) (by kernel_rfl) rfl (by kernel_rfl) ?_; rw [setRow_at _ _ _ _ _ (by simp)]) | (go_at_call 79; refine (callKind_any _ _).mono ?_; rintro e2 w2 ⟨rfl, rfl⟩) | (refine wpList_store_row rfl 87 _ _ rfl _ _ rfl rfl 87 _ (HZ2.out) (by kernel_rfl) rfl (by kernel_rfl) ?_) | fail)
    exact bodyPost_ret (results_row_tmp rfl _ _ (w.heap.size + 1 + 1) 87 _ (0, 0) _ rfl (HZ2.out.row _) Try.underlying87 rfl (by kernel_rfl)) rfl ⟨rfl, below_setRow HB2.out (by omega) _⟩
  · obtain ⟨n, rfl⟩ := goodK_cast hg
    have HKF : Hid (kB r = false) := Lib.hid (by unfold askK at hk; rwa [hg, Bool.true_and] at hk)
    have HC := Lib.hid (fun w h => callingOf_yes s hs n (.slice a L.length cap) L b q w h hl hg)
    have HW0 := Lib.hid (isRow_hdK hg 0)
    have HW1 := Lib.hid (isRow_hdK hg 1)
    have HW2 := Lib.hid (isRow_hdK hg 2)
    unfold CallYes at HC
    generalize hdK n L b q 0 = h0 at *
    generalize hdK n L b q 1 = h1 at *
    generalize hdK n L b q 2 = h2 at *
    generalize rdf n = f at *
    clear h hcap hl hg hk
    generalize L.length = m at *
    simp only [zero8] at HR0 HK0 HZ0 HB0 ⊢
    go_enter Try.func88, Try.ntmps88
    go_wp2_with (first | (refine wpList_load_row rfl 25 _ rfl _ rfl 25 _ _ _ (HR0.out) Try.underlying25 rfl (by kernel_rfl) ?_) | (refine wpList_load_row rfl 27 _ rfl _ rfl 27 _ _ _ (HK0.out) Try.underlying27 rfl (by kernel_rfl) ?_) | fail)
    refine (HC.out _ (HT.out.kept HB0.out)).mono ?_
    rintro e w1 ⟨a1, k1, rfl, hb1⟩
    have HB1 := Lib.hid (HB0.out.trans (hb1.mono HB0.out.size))
    have HX2 := Lib.hid (RowAt.new w1 92 (callV (.slice a1 m k1) f h0 h1 h2))
    have HB2 := Lib.hid (HB1.out.alloc HB1.out.size (.cells (callV (.slice a1 m k1) f h0 h1 h2) 92))
    have HG0 := Lib.hid (call_range0 HX2.out)
    have HG1 := Lib.hid (call_range1 HX2.out)
    have HG2 := Lib.hid (call_range2 HX2.out)
    have HZlt := Lib.hid (HZ0.out.kept hb1).lt
    have HZ2 := Lib.hid ((HZ0.out.kept hb1).push (.cells (callV (.slice a1 m k1) f h0 h1 h2) 92))
    clear hb1 HR0 HK0 HB0 HC HT HB1 HZ0
    simp only [callV] at HX2 HZ2 HB2 HG0 HG1 HG2 ⊢
    go_wp2_with (first | (refine wpList_store_row rfl 92 _ _ rfl _ _ rfl rfl 92 _ (heap_at _ _ _ (by simp)) (by kernel_rfl) rfl (by kernel_rfl) ?_; rw [setRow_at _ _ _ _ _ (by simp)]) | (go_at_call 79; refine (callKind_any _ _).mono ?_; rintro e2 w2 ⟨rfl, rfl⟩; rw [HKF.out]) | (refine wpList_store_row rfl 87 _ _ rfl _ _ rfl rfl 87 _ (HZ2.out) (by kernel_rfl) rfl (by kernel_rfl) ?_) | fail)
    exact bodyPost_ret (results_row_tmp rfl _ _ (w.heap.size + 1 + 1) 87 _ (0, 0) _ rfl (HZ2.out.row _) Try.underlying87 rfl (by kernel_rfl)) rfl ⟨rfl, below_setRow HB2.out (by omega) _⟩

set_option maxRecDepth 100000 in
set_option maxHeartbeats 1000000 in
theorem callEffect_yes (s : ByteArray) (hs : s.size ≤ maxLen) (n : Nat) (v : Value) (L : List (List Nat)) (b q r : ByteArray) (w : World) (h : Txts w v L) (hl : L.length ≤ 2000000) (hg : goodK s n L b q = true) (hk : kB r = true) :
    Calls Try.prog 88 #[.agg #[.string s, .int .i64 n, v], .agg #[.string b, .string q], .string r] w fun e w' => e = .returned (.tuple #[.agg (dig8 (efK n L b q (kN r))), .bool true]) ∧ Below w.heap.size w w' := by
  obtain ⟨a, cap, rfl, hcap, -⟩ := id h
  have HT := Lib.hid h
  have HR0 := Lib.hid (((RowAt.new w 25 #[.string s, .int .i64 n, .slice a L.length cap]).push (.cells #[.string b, .string q] 27)).push (.cells zero8 87))
  have HK0 : Hid (RowAt (((w.alloc (.cells #[.string s, .int .i64 n, .slice a L.length cap] 25)).alloc (.cells #[.string b, .string q] 27)).alloc (.cells zero8 87)) (w.heap.size + 1) 27 #[.string b, .string q]) := Lib.hid (by
    have := (RowAt.new (w.alloc (.cells #[.string s, .int .i64 n, .slice a L.length cap] 25)) 27 #[.string b, .string q]).push (.cells zero8 87)
    simpa using this)
  have HZ0 : Hid (RowAt (((w.alloc (.cells #[.string s, .int .i64 n, .slice a L.length cap] 25)).alloc (.cells #[.string b, .string q] 27)).alloc (.cells zero8 87)) (w.heap.size + 1 + 1) 87 zero8) := Lib.hid (by
    have := RowAt.new ((w.alloc (.cells #[.string s, .int .i64 n, .slice a L.length cap] 25)).alloc (.cells #[.string b, .string q] 27)) 87 zero8
    simpa using this)
  have HB0 := Lib.hid ((((Below.refl _ w).alloc (Nat.le_refl _) (.cells #[.string s, .int .i64 n, .slice a L.length cap] 25)).alloc (by simp) (.cells #[.string b, .string q] 27)).alloc (by simp; omega) (.cells zero8 87))
  have HC := Lib.hid (fun w h => callingOf_yes s hs n (.slice a L.length cap) L b q w h hl hg)
  have HW0 := Lib.hid (isRow_hdK hg 0)
  have HW1 := Lib.hid (isRow_hdK hg 1)
  have HW2 := Lib.hid (isRow_hdK hg 2)
  unfold CallYes at HC
  rcases kB_cases hk with rfl | rfl | rfl
  · rw [show efK n L b q (kN ⟨#[112]⟩) = mulR n (invF n (hdK n L b q 0)) (hdK n L b q 0) from rfl]
    generalize hdK n L b q 0 = h0 at *
    generalize hdK n L b q 1 = h1 at *
    generalize hdK n L b q 2 = h2 at *
    generalize rdf n = f at *
    clear h hcap hl hg hk
    generalize L.length = m at *
    have HIN := Lib.hid (fun w => inverse_any n h0 HW0.out w)
    have HTI := Lib.hid (fun w => times_row n (invF n h0) h0 (isRow_inv HW0.out) HW0.out w)
    generalize mulR n (invF n h0) h0 = res at *
    generalize invF n h0 = iv at *
    simp only [zero8] at HR0 HK0 HZ0 HB0 ⊢
    go_enter Try.func88, Try.ntmps88
    go_wp2_with (first | (refine wpList_load_row rfl 25 _ rfl _ rfl 25 _ _ _ (HR0.out) Try.underlying25 rfl (by kernel_rfl) ?_) | (refine wpList_load_row rfl 27 _ rfl _ rfl 27 _ _ _ (HK0.out) Try.underlying27 rfl (by kernel_rfl) ?_) | fail)
    refine (HC.out _ (HT.out.kept HB0.out)).mono ?_
    rintro e w1 ⟨a1, k1, rfl, hb1⟩
    have HB1 := Lib.hid (HB0.out.trans (hb1.mono HB0.out.size))
    have HX2 := Lib.hid (RowAt.new w1 92 (callV (.slice a1 m k1) f h0 h1 h2))
    have HB2 := Lib.hid (HB1.out.alloc HB1.out.size (.cells (callV (.slice a1 m k1) f h0 h1 h2) 92))
    have HG0 := Lib.hid (call_range0 HX2.out)
    have HG1 := Lib.hid (call_range1 HX2.out)
    have HG2 := Lib.hid (call_range2 HX2.out)
    have HZlt := Lib.hid (HZ0.out.kept hb1).lt
    have HZ2 := Lib.hid ((HZ0.out.kept hb1).push (.cells (callV (.slice a1 m k1) f h0 h1 h2) 92))
    clear hb1 HR0 HK0 HB0 HC HT HB1 HZ0
    simp only [callV] at HX2 HZ2 HB2 HG0 HG1 HG2 ⊢
    go_wp2_with (first | (refine wpList_store_row rfl 92 _ _ rfl _ _ rfl rfl 92 _ (heap_at _ _ _ (by simp)) (by kernel_rfl) rfl (by kernel_rfl) ?_; rw [setRow_at _ _ _ _ _ (by simp)]) | (go_at_call 79; refine (callKind_p _).mono ?_; rintro e2 w2 ⟨rfl, rfl⟩) | fail)
    generalize w1.alloc (.cells #[.slice a1 m k1, .int .u8 (f 0), .int .u8 (f 1), .int .u8 (f 2), .int .u8 (f 3), .int .u8 (f 4), .int .u8 (f 5), .int .u8 (f 6), .int .u8 (f 7), .int .u8 (h0 0), .int .u8 (h0 1), .int .u8 (h0 2), .int .u8 (h0 3), .int .u8 (h0 4), .int .u8 (h0 5), .int .u8 (h0 6), .int .u8 (h0 7), .int .u8 (h1 0), .int .u8 (h1 1), .int .u8 (h1 2), .int .u8 (h1 3), .int .u8 (h1 4), .int .u8 (h1 5), .int .u8 (h1 6), .int .u8 (h1 7), .int .u8 (h2 0), .int .u8 (h2 1), .int .u8 (h2 2), .int .u8 (h2 3), .int .u8 (h2 4), .int .u8 (h2 5), .int .u8 (h2 6), .int .u8 (h2 7)] 92) = w3 at *
    have hne : w1.heap.size ≠ w.heap.size + 1 + 1 := by have := HZlt.out; omega
    have HXA : Hid (∀ W', Below w3.heap.size w3 W' → (W'.cell? ⟨w1.heap.size, 9, none⟩ = some (.int .u8 (h0 0)) ∧ W'.cell? ⟨w1.heap.size, 10, none⟩ = some (.int .u8 (h0 1)) ∧ W'.cell? ⟨w1.heap.size, 11, none⟩ = some (.int .u8 (h0 2)) ∧ W'.cell? ⟨w1.heap.size, 12, none⟩ = some (.int .u8 (h0 3)) ∧ W'.cell? ⟨w1.heap.size, 13, none⟩ = some (.int .u8 (h0 4)) ∧ W'.cell? ⟨w1.heap.size, 14, none⟩ = some (.int .u8 (h0 5)) ∧ W'.cell? ⟨w1.heap.size, 15, none⟩ = some (.int .u8 (h0 6)) ∧ W'.cell? ⟨w1.heap.size, 16, none⟩ = some (.int .u8 (h0 7)))) := Lib.hid (fun W' h => by
      have hr := HX2.out.keep h HX2.out.lt
      exact ⟨hr.cell 9 rfl, hr.cell 10 rfl, hr.cell 11 rfl, hr.cell 12 rfl, hr.cell 13 rfl, hr.cell 14 rfl, hr.cell 15 rfl, hr.cell 16 rfl⟩)
    have HXB : Hid (∀ W', Below w3.heap.size w3 W' → ((W'.setRow (w.heap.size + 1 + 1) (dig8 res)).cell? ⟨w1.heap.size, 9, none⟩ = some (.int .u8 (h0 0)) ∧ (W'.setRow (w.heap.size + 1 + 1) (dig8 res)).cell? ⟨w1.heap.size, 10, none⟩ = some (.int .u8 (h0 1)) ∧ (W'.setRow (w.heap.size + 1 + 1) (dig8 res)).cell? ⟨w1.heap.size, 11, none⟩ = some (.int .u8 (h0 2)) ∧ (W'.setRow (w.heap.size + 1 + 1) (dig8 res)).cell? ⟨w1.heap.size, 12, none⟩ = some (.int .u8 (h0 3)) ∧ (W'.setRow (w.heap.size + 1 + 1) (dig8 res)).cell? ⟨w1.heap.size, 13, none⟩ = some (.int .u8 (h0 4)) ∧ (W'.setRow (w.heap.size + 1 + 1) (dig8 res)).cell? ⟨w1.heap.size, 14, none⟩ = some (.int .u8 (h0 5)) ∧ (W'.setRow (w.heap.size + 1 + 1) (dig8 res)).cell? ⟨w1.heap.size, 15, none⟩ = some (.int .u8 (h0 6)) ∧ (W'.setRow (w.heap.size + 1 + 1) (dig8 res)).cell? ⟨w1.heap.size, 16, none⟩ = some (.int .u8 (h0 7)))) := Lib.hid (fun W' h => by
      have hr := (HX2.out.keep h HX2.out.lt).rowOther (c := w.heap.size + 1 + 1) (dig8 res) hne
      exact ⟨hr.cell 9 rfl, hr.cell 10 rfl, hr.cell 11 rfl, hr.cell 12 rfl, hr.cell 13 rfl, hr.cell 14 rfl, hr.cell 15 rfl, hr.cell 16 rfl⟩)
    have HF1 : Hid (∀ W', Below w3.heap.size w3 W' → Calls Try.prog 141 #[.agg (dig8 h0)] W' fun e w' => e = .returned (.agg (dig8 iv)) ∧ Below w3.heap.size w3 w') := Lib.hid (fun W' h => (HIN.out W').mono fun e w' hw => ⟨hw.1, h.trans (hw.2.mono h.size)⟩)
    have HF2 : Hid (∀ W', Below w3.heap.size w3 W' → Calls Try.prog 138 #[.agg (dig8 iv), .agg (dig8 h0)] W' fun e w' => e = .returned (.agg (dig8 res)) ∧ Below w3.heap.size w3 w') := Lib.hid (fun W' h => (HTI.out W').mono fun e w' hw => ⟨hw.1, h.trans (hw.2.mono h.size)⟩)
    go_region_held3 (fun w' => w'.cell? ⟨w1.heap.size, 9, none⟩ = some (.int .u8 (h0 0)) ∧ w'.cell? ⟨w1.heap.size, 10, none⟩ = some (.int .u8 (h0 1)) ∧ w'.cell? ⟨w1.heap.size, 11, none⟩ = some (.int .u8 (h0 2)) ∧ w'.cell? ⟨w1.heap.size, 12, none⟩ = some (.int .u8 (h0 3)) ∧ w'.cell? ⟨w1.heap.size, 13, none⟩ = some (.int .u8 (h0 4)) ∧ w'.cell? ⟨w1.heap.size, 14, none⟩ = some (.int .u8 (h0 5)) ∧ w'.cell? ⟨w1.heap.size, 15, none⟩ = some (.int .u8 (h0 6)) ∧ w'.cell? ⟨w1.heap.size, 16, none⟩ = some (.int .u8 (h0 7))) (first | assumption | exact HXA.out _ (Below.refl _ _).drew | exact HXB.out _ hb5) (first
      | (go_at_call 141; refine (HF1.out _ (by first | exact (Below.refl _ _).drew | exact Below.refl _ _)).mono ?_; rintro e4 w4 ⟨rfl, hb4⟩; have hS4 := HXA.out _ hb4)
      | (go_at_call 138; refine (HF2.out _ hb4).mono ?_; rintro e5 w5 ⟨rfl, hb5⟩; have hS5 := HXA.out _ hb5; have hz5 := HZ2.out.kept hb5; have hS2 := run_storeCells8 _ _ _ _ res hz5 rfl) | fail)
    have HZ5 := Lib.hid hz5
    have HB5 := Lib.hid (HB2.out.trans (hb5.mono HB2.out.size))
    clear hS4 hS5 hb4 hb5 hz5 hS2 HXA HXB HF1 HF2 HX2 HZ2 HB2
    go_wp2
    exact bodyPost_ret (results_row_tmp rfl _ _ (w.heap.size + 1 + 1) 87 _ (0, 0) _ rfl (HZ5.out.row _) Try.underlying87 rfl (by kernel_rfl)) rfl ⟨rfl, below_setRow HB5.out (by omega) _⟩
  · rw [show efK n L b q (kN ⟨#[98]⟩) = mulR n (invF n (hdK n L b q 0)) (hdK n L b q 1) from rfl]
    generalize hdK n L b q 0 = h0 at *
    generalize hdK n L b q 1 = h1 at *
    generalize hdK n L b q 2 = h2 at *
    generalize rdf n = f at *
    clear h hcap hl hg hk
    generalize L.length = m at *
    have HIN := Lib.hid (fun w => inverse_any n h0 HW0.out w)
    have HTI := Lib.hid (fun w => times_row n (invF n h0) h1 (isRow_inv HW0.out) HW1.out w)
    generalize mulR n (invF n h0) h1 = res at *
    generalize invF n h0 = iv at *
    simp only [zero8] at HR0 HK0 HZ0 HB0 ⊢
    go_enter Try.func88, Try.ntmps88
    go_wp2_with (first | (refine wpList_load_row rfl 25 _ rfl _ rfl 25 _ _ _ (HR0.out) Try.underlying25 rfl (by kernel_rfl) ?_) | (refine wpList_load_row rfl 27 _ rfl _ rfl 27 _ _ _ (HK0.out) Try.underlying27 rfl (by kernel_rfl) ?_) | fail)
    refine (HC.out _ (HT.out.kept HB0.out)).mono ?_
    rintro e w1 ⟨a1, k1, rfl, hb1⟩
    have HB1 := Lib.hid (HB0.out.trans (hb1.mono HB0.out.size))
    have HX2 := Lib.hid (RowAt.new w1 92 (callV (.slice a1 m k1) f h0 h1 h2))
    have HB2 := Lib.hid (HB1.out.alloc HB1.out.size (.cells (callV (.slice a1 m k1) f h0 h1 h2) 92))
    have HG0 := Lib.hid (call_range0 HX2.out)
    have HG1 := Lib.hid (call_range1 HX2.out)
    have HG2 := Lib.hid (call_range2 HX2.out)
    have HZlt := Lib.hid (HZ0.out.kept hb1).lt
    have HZ2 := Lib.hid ((HZ0.out.kept hb1).push (.cells (callV (.slice a1 m k1) f h0 h1 h2) 92))
    clear hb1 HR0 HK0 HB0 HC HT HB1 HZ0
    simp only [callV] at HX2 HZ2 HB2 HG0 HG1 HG2 ⊢
    go_wp2_with (first | (refine wpList_store_row rfl 92 _ _ rfl _ _ rfl rfl 92 _ (heap_at _ _ _ (by simp)) (by kernel_rfl) rfl (by kernel_rfl) ?_; rw [setRow_at _ _ _ _ _ (by simp)]) | (go_at_call 79; refine (callKind_b _).mono ?_; rintro e2 w2 ⟨rfl, rfl⟩) | fail)
    generalize w1.alloc (.cells #[.slice a1 m k1, .int .u8 (f 0), .int .u8 (f 1), .int .u8 (f 2), .int .u8 (f 3), .int .u8 (f 4), .int .u8 (f 5), .int .u8 (f 6), .int .u8 (f 7), .int .u8 (h0 0), .int .u8 (h0 1), .int .u8 (h0 2), .int .u8 (h0 3), .int .u8 (h0 4), .int .u8 (h0 5), .int .u8 (h0 6), .int .u8 (h0 7), .int .u8 (h1 0), .int .u8 (h1 1), .int .u8 (h1 2), .int .u8 (h1 3), .int .u8 (h1 4), .int .u8 (h1 5), .int .u8 (h1 6), .int .u8 (h1 7), .int .u8 (h2 0), .int .u8 (h2 1), .int .u8 (h2 2), .int .u8 (h2 3), .int .u8 (h2 4), .int .u8 (h2 5), .int .u8 (h2 6), .int .u8 (h2 7)] 92) = w3 at *
    have hne : w1.heap.size ≠ w.heap.size + 1 + 1 := by have := HZlt.out; omega
    have HXA : Hid (∀ W', Below w3.heap.size w3 W' → (W'.cell? ⟨w1.heap.size, 9, none⟩ = some (.int .u8 (h0 0)) ∧ W'.cell? ⟨w1.heap.size, 10, none⟩ = some (.int .u8 (h0 1)) ∧ W'.cell? ⟨w1.heap.size, 11, none⟩ = some (.int .u8 (h0 2)) ∧ W'.cell? ⟨w1.heap.size, 12, none⟩ = some (.int .u8 (h0 3)) ∧ W'.cell? ⟨w1.heap.size, 13, none⟩ = some (.int .u8 (h0 4)) ∧ W'.cell? ⟨w1.heap.size, 14, none⟩ = some (.int .u8 (h0 5)) ∧ W'.cell? ⟨w1.heap.size, 15, none⟩ = some (.int .u8 (h0 6)) ∧ W'.cell? ⟨w1.heap.size, 16, none⟩ = some (.int .u8 (h0 7)) ∧ W'.cell? ⟨w1.heap.size, 17, none⟩ = some (.int .u8 (h1 0)) ∧ W'.cell? ⟨w1.heap.size, 18, none⟩ = some (.int .u8 (h1 1)) ∧ W'.cell? ⟨w1.heap.size, 19, none⟩ = some (.int .u8 (h1 2)) ∧ W'.cell? ⟨w1.heap.size, 20, none⟩ = some (.int .u8 (h1 3)) ∧ W'.cell? ⟨w1.heap.size, 21, none⟩ = some (.int .u8 (h1 4)) ∧ W'.cell? ⟨w1.heap.size, 22, none⟩ = some (.int .u8 (h1 5)) ∧ W'.cell? ⟨w1.heap.size, 23, none⟩ = some (.int .u8 (h1 6)) ∧ W'.cell? ⟨w1.heap.size, 24, none⟩ = some (.int .u8 (h1 7)))) := Lib.hid (fun W' h => by
      have hr := HX2.out.keep h HX2.out.lt
      exact ⟨hr.cell 9 rfl, hr.cell 10 rfl, hr.cell 11 rfl, hr.cell 12 rfl, hr.cell 13 rfl, hr.cell 14 rfl, hr.cell 15 rfl, hr.cell 16 rfl, hr.cell 17 rfl, hr.cell 18 rfl, hr.cell 19 rfl, hr.cell 20 rfl, hr.cell 21 rfl, hr.cell 22 rfl, hr.cell 23 rfl, hr.cell 24 rfl⟩)
    have HXB : Hid (∀ W', Below w3.heap.size w3 W' → ((W'.setRow (w.heap.size + 1 + 1) (dig8 res)).cell? ⟨w1.heap.size, 9, none⟩ = some (.int .u8 (h0 0)) ∧ (W'.setRow (w.heap.size + 1 + 1) (dig8 res)).cell? ⟨w1.heap.size, 10, none⟩ = some (.int .u8 (h0 1)) ∧ (W'.setRow (w.heap.size + 1 + 1) (dig8 res)).cell? ⟨w1.heap.size, 11, none⟩ = some (.int .u8 (h0 2)) ∧ (W'.setRow (w.heap.size + 1 + 1) (dig8 res)).cell? ⟨w1.heap.size, 12, none⟩ = some (.int .u8 (h0 3)) ∧ (W'.setRow (w.heap.size + 1 + 1) (dig8 res)).cell? ⟨w1.heap.size, 13, none⟩ = some (.int .u8 (h0 4)) ∧ (W'.setRow (w.heap.size + 1 + 1) (dig8 res)).cell? ⟨w1.heap.size, 14, none⟩ = some (.int .u8 (h0 5)) ∧ (W'.setRow (w.heap.size + 1 + 1) (dig8 res)).cell? ⟨w1.heap.size, 15, none⟩ = some (.int .u8 (h0 6)) ∧ (W'.setRow (w.heap.size + 1 + 1) (dig8 res)).cell? ⟨w1.heap.size, 16, none⟩ = some (.int .u8 (h0 7)) ∧ (W'.setRow (w.heap.size + 1 + 1) (dig8 res)).cell? ⟨w1.heap.size, 17, none⟩ = some (.int .u8 (h1 0)) ∧ (W'.setRow (w.heap.size + 1 + 1) (dig8 res)).cell? ⟨w1.heap.size, 18, none⟩ = some (.int .u8 (h1 1)) ∧ (W'.setRow (w.heap.size + 1 + 1) (dig8 res)).cell? ⟨w1.heap.size, 19, none⟩ = some (.int .u8 (h1 2)) ∧ (W'.setRow (w.heap.size + 1 + 1) (dig8 res)).cell? ⟨w1.heap.size, 20, none⟩ = some (.int .u8 (h1 3)) ∧ (W'.setRow (w.heap.size + 1 + 1) (dig8 res)).cell? ⟨w1.heap.size, 21, none⟩ = some (.int .u8 (h1 4)) ∧ (W'.setRow (w.heap.size + 1 + 1) (dig8 res)).cell? ⟨w1.heap.size, 22, none⟩ = some (.int .u8 (h1 5)) ∧ (W'.setRow (w.heap.size + 1 + 1) (dig8 res)).cell? ⟨w1.heap.size, 23, none⟩ = some (.int .u8 (h1 6)) ∧ (W'.setRow (w.heap.size + 1 + 1) (dig8 res)).cell? ⟨w1.heap.size, 24, none⟩ = some (.int .u8 (h1 7)))) := Lib.hid (fun W' h => by
      have hr := (HX2.out.keep h HX2.out.lt).rowOther (c := w.heap.size + 1 + 1) (dig8 res) hne
      exact ⟨hr.cell 9 rfl, hr.cell 10 rfl, hr.cell 11 rfl, hr.cell 12 rfl, hr.cell 13 rfl, hr.cell 14 rfl, hr.cell 15 rfl, hr.cell 16 rfl, hr.cell 17 rfl, hr.cell 18 rfl, hr.cell 19 rfl, hr.cell 20 rfl, hr.cell 21 rfl, hr.cell 22 rfl, hr.cell 23 rfl, hr.cell 24 rfl⟩)
    have HF1 : Hid (∀ W', Below w3.heap.size w3 W' → Calls Try.prog 141 #[.agg (dig8 h0)] W' fun e w' => e = .returned (.agg (dig8 iv)) ∧ Below w3.heap.size w3 w') := Lib.hid (fun W' h => (HIN.out W').mono fun e w' hw => ⟨hw.1, h.trans (hw.2.mono h.size)⟩)
    have HF2 : Hid (∀ W', Below w3.heap.size w3 W' → Calls Try.prog 138 #[.agg (dig8 iv), .agg (dig8 h1)] W' fun e w' => e = .returned (.agg (dig8 res)) ∧ Below w3.heap.size w3 w') := Lib.hid (fun W' h => (HTI.out W').mono fun e w' hw => ⟨hw.1, h.trans (hw.2.mono h.size)⟩)
    go_region_held3 (fun w' => w'.cell? ⟨w1.heap.size, 9, none⟩ = some (.int .u8 (h0 0)) ∧ w'.cell? ⟨w1.heap.size, 10, none⟩ = some (.int .u8 (h0 1)) ∧ w'.cell? ⟨w1.heap.size, 11, none⟩ = some (.int .u8 (h0 2)) ∧ w'.cell? ⟨w1.heap.size, 12, none⟩ = some (.int .u8 (h0 3)) ∧ w'.cell? ⟨w1.heap.size, 13, none⟩ = some (.int .u8 (h0 4)) ∧ w'.cell? ⟨w1.heap.size, 14, none⟩ = some (.int .u8 (h0 5)) ∧ w'.cell? ⟨w1.heap.size, 15, none⟩ = some (.int .u8 (h0 6)) ∧ w'.cell? ⟨w1.heap.size, 16, none⟩ = some (.int .u8 (h0 7)) ∧ w'.cell? ⟨w1.heap.size, 17, none⟩ = some (.int .u8 (h1 0)) ∧ w'.cell? ⟨w1.heap.size, 18, none⟩ = some (.int .u8 (h1 1)) ∧ w'.cell? ⟨w1.heap.size, 19, none⟩ = some (.int .u8 (h1 2)) ∧ w'.cell? ⟨w1.heap.size, 20, none⟩ = some (.int .u8 (h1 3)) ∧ w'.cell? ⟨w1.heap.size, 21, none⟩ = some (.int .u8 (h1 4)) ∧ w'.cell? ⟨w1.heap.size, 22, none⟩ = some (.int .u8 (h1 5)) ∧ w'.cell? ⟨w1.heap.size, 23, none⟩ = some (.int .u8 (h1 6)) ∧ w'.cell? ⟨w1.heap.size, 24, none⟩ = some (.int .u8 (h1 7))) (first | assumption | exact HXA.out _ (Below.refl _ _).drew | exact HXB.out _ hb5) (first
      | (go_at_call 141; refine (HF1.out _ (by first | exact (Below.refl _ _).drew | exact Below.refl _ _)).mono ?_; rintro e4 w4 ⟨rfl, hb4⟩; have hS4 := HXA.out _ hb4)
      | (go_at_call 138; refine (HF2.out _ hb4).mono ?_; rintro e5 w5 ⟨rfl, hb5⟩; have hS5 := HXA.out _ hb5; have hz5 := HZ2.out.kept hb5; have hS2 := run_storeCells8 _ _ _ _ res hz5 rfl) | fail)
    have HZ5 := Lib.hid hz5
    have HB5 := Lib.hid (HB2.out.trans (hb5.mono HB2.out.size))
    clear hS4 hS5 hb4 hb5 hz5 hS2 HXA HXB HF1 HF2 HX2 HZ2 HB2
    go_wp2
    exact bodyPost_ret (results_row_tmp rfl _ _ (w.heap.size + 1 + 1) 87 _ (0, 0) _ rfl (HZ5.out.row _) Try.underlying87 rfl (by kernel_rfl)) rfl ⟨rfl, below_setRow HB5.out (by omega) _⟩
  · rw [show efK n L b q (kN ⟨#[115]⟩) = mulR n (invF n (hdK n L b q 0)) (hdK n L b q 2) from rfl]
    generalize hdK n L b q 0 = h0 at *
    generalize hdK n L b q 1 = h1 at *
    generalize hdK n L b q 2 = h2 at *
    generalize rdf n = f at *
    clear h hcap hl hg hk
    generalize L.length = m at *
    have HIN := Lib.hid (fun w => inverse_any n h0 HW0.out w)
    have HTI := Lib.hid (fun w => times_row n (invF n h0) h2 (isRow_inv HW0.out) HW2.out w)
    generalize mulR n (invF n h0) h2 = res at *
    generalize invF n h0 = iv at *
    simp only [zero8] at HR0 HK0 HZ0 HB0 ⊢
    go_enter Try.func88, Try.ntmps88
    go_wp2_with (first | (refine wpList_load_row rfl 25 _ rfl _ rfl 25 _ _ _ (HR0.out) Try.underlying25 rfl (by kernel_rfl) ?_) | (refine wpList_load_row rfl 27 _ rfl _ rfl 27 _ _ _ (HK0.out) Try.underlying27 rfl (by kernel_rfl) ?_) | fail)
    refine (HC.out _ (HT.out.kept HB0.out)).mono ?_
    rintro e w1 ⟨a1, k1, rfl, hb1⟩
    have HB1 := Lib.hid (HB0.out.trans (hb1.mono HB0.out.size))
    have HX2 := Lib.hid (RowAt.new w1 92 (callV (.slice a1 m k1) f h0 h1 h2))
    have HB2 := Lib.hid (HB1.out.alloc HB1.out.size (.cells (callV (.slice a1 m k1) f h0 h1 h2) 92))
    have HG0 := Lib.hid (call_range0 HX2.out)
    have HG1 := Lib.hid (call_range1 HX2.out)
    have HG2 := Lib.hid (call_range2 HX2.out)
    have HZlt := Lib.hid (HZ0.out.kept hb1).lt
    have HZ2 := Lib.hid ((HZ0.out.kept hb1).push (.cells (callV (.slice a1 m k1) f h0 h1 h2) 92))
    clear hb1 HR0 HK0 HB0 HC HT HB1 HZ0
    simp only [callV] at HX2 HZ2 HB2 HG0 HG1 HG2 ⊢
    go_wp2_with (first | (refine wpList_store_row rfl 92 _ _ rfl _ _ rfl rfl 92 _ (heap_at _ _ _ (by simp)) (by kernel_rfl) rfl (by kernel_rfl) ?_; rw [setRow_at _ _ _ _ _ (by simp)]) | (go_at_call 79; refine (callKind_s _).mono ?_; rintro e2 w2 ⟨rfl, rfl⟩) | fail)
    generalize w1.alloc (.cells #[.slice a1 m k1, .int .u8 (f 0), .int .u8 (f 1), .int .u8 (f 2), .int .u8 (f 3), .int .u8 (f 4), .int .u8 (f 5), .int .u8 (f 6), .int .u8 (f 7), .int .u8 (h0 0), .int .u8 (h0 1), .int .u8 (h0 2), .int .u8 (h0 3), .int .u8 (h0 4), .int .u8 (h0 5), .int .u8 (h0 6), .int .u8 (h0 7), .int .u8 (h1 0), .int .u8 (h1 1), .int .u8 (h1 2), .int .u8 (h1 3), .int .u8 (h1 4), .int .u8 (h1 5), .int .u8 (h1 6), .int .u8 (h1 7), .int .u8 (h2 0), .int .u8 (h2 1), .int .u8 (h2 2), .int .u8 (h2 3), .int .u8 (h2 4), .int .u8 (h2 5), .int .u8 (h2 6), .int .u8 (h2 7)] 92) = w3 at *
    have hne : w1.heap.size ≠ w.heap.size + 1 + 1 := by have := HZlt.out; omega
    have HXA : Hid (∀ W', Below w3.heap.size w3 W' → (W'.cell? ⟨w1.heap.size, 9, none⟩ = some (.int .u8 (h0 0)) ∧ W'.cell? ⟨w1.heap.size, 10, none⟩ = some (.int .u8 (h0 1)) ∧ W'.cell? ⟨w1.heap.size, 11, none⟩ = some (.int .u8 (h0 2)) ∧ W'.cell? ⟨w1.heap.size, 12, none⟩ = some (.int .u8 (h0 3)) ∧ W'.cell? ⟨w1.heap.size, 13, none⟩ = some (.int .u8 (h0 4)) ∧ W'.cell? ⟨w1.heap.size, 14, none⟩ = some (.int .u8 (h0 5)) ∧ W'.cell? ⟨w1.heap.size, 15, none⟩ = some (.int .u8 (h0 6)) ∧ W'.cell? ⟨w1.heap.size, 16, none⟩ = some (.int .u8 (h0 7)) ∧ W'.cell? ⟨w1.heap.size, 25, none⟩ = some (.int .u8 (h2 0)) ∧ W'.cell? ⟨w1.heap.size, 26, none⟩ = some (.int .u8 (h2 1)) ∧ W'.cell? ⟨w1.heap.size, 27, none⟩ = some (.int .u8 (h2 2)) ∧ W'.cell? ⟨w1.heap.size, 28, none⟩ = some (.int .u8 (h2 3)) ∧ W'.cell? ⟨w1.heap.size, 29, none⟩ = some (.int .u8 (h2 4)) ∧ W'.cell? ⟨w1.heap.size, 30, none⟩ = some (.int .u8 (h2 5)) ∧ W'.cell? ⟨w1.heap.size, 31, none⟩ = some (.int .u8 (h2 6)) ∧ W'.cell? ⟨w1.heap.size, 32, none⟩ = some (.int .u8 (h2 7)))) := Lib.hid (fun W' h => by
      have hr := HX2.out.keep h HX2.out.lt
      exact ⟨hr.cell 9 rfl, hr.cell 10 rfl, hr.cell 11 rfl, hr.cell 12 rfl, hr.cell 13 rfl, hr.cell 14 rfl, hr.cell 15 rfl, hr.cell 16 rfl, hr.cell 25 rfl, hr.cell 26 rfl, hr.cell 27 rfl, hr.cell 28 rfl, hr.cell 29 rfl, hr.cell 30 rfl, hr.cell 31 rfl, hr.cell 32 rfl⟩)
    have HXB : Hid (∀ W', Below w3.heap.size w3 W' → ((W'.setRow (w.heap.size + 1 + 1) (dig8 res)).cell? ⟨w1.heap.size, 9, none⟩ = some (.int .u8 (h0 0)) ∧ (W'.setRow (w.heap.size + 1 + 1) (dig8 res)).cell? ⟨w1.heap.size, 10, none⟩ = some (.int .u8 (h0 1)) ∧ (W'.setRow (w.heap.size + 1 + 1) (dig8 res)).cell? ⟨w1.heap.size, 11, none⟩ = some (.int .u8 (h0 2)) ∧ (W'.setRow (w.heap.size + 1 + 1) (dig8 res)).cell? ⟨w1.heap.size, 12, none⟩ = some (.int .u8 (h0 3)) ∧ (W'.setRow (w.heap.size + 1 + 1) (dig8 res)).cell? ⟨w1.heap.size, 13, none⟩ = some (.int .u8 (h0 4)) ∧ (W'.setRow (w.heap.size + 1 + 1) (dig8 res)).cell? ⟨w1.heap.size, 14, none⟩ = some (.int .u8 (h0 5)) ∧ (W'.setRow (w.heap.size + 1 + 1) (dig8 res)).cell? ⟨w1.heap.size, 15, none⟩ = some (.int .u8 (h0 6)) ∧ (W'.setRow (w.heap.size + 1 + 1) (dig8 res)).cell? ⟨w1.heap.size, 16, none⟩ = some (.int .u8 (h0 7)) ∧ (W'.setRow (w.heap.size + 1 + 1) (dig8 res)).cell? ⟨w1.heap.size, 25, none⟩ = some (.int .u8 (h2 0)) ∧ (W'.setRow (w.heap.size + 1 + 1) (dig8 res)).cell? ⟨w1.heap.size, 26, none⟩ = some (.int .u8 (h2 1)) ∧ (W'.setRow (w.heap.size + 1 + 1) (dig8 res)).cell? ⟨w1.heap.size, 27, none⟩ = some (.int .u8 (h2 2)) ∧ (W'.setRow (w.heap.size + 1 + 1) (dig8 res)).cell? ⟨w1.heap.size, 28, none⟩ = some (.int .u8 (h2 3)) ∧ (W'.setRow (w.heap.size + 1 + 1) (dig8 res)).cell? ⟨w1.heap.size, 29, none⟩ = some (.int .u8 (h2 4)) ∧ (W'.setRow (w.heap.size + 1 + 1) (dig8 res)).cell? ⟨w1.heap.size, 30, none⟩ = some (.int .u8 (h2 5)) ∧ (W'.setRow (w.heap.size + 1 + 1) (dig8 res)).cell? ⟨w1.heap.size, 31, none⟩ = some (.int .u8 (h2 6)) ∧ (W'.setRow (w.heap.size + 1 + 1) (dig8 res)).cell? ⟨w1.heap.size, 32, none⟩ = some (.int .u8 (h2 7)))) := Lib.hid (fun W' h => by
      have hr := (HX2.out.keep h HX2.out.lt).rowOther (c := w.heap.size + 1 + 1) (dig8 res) hne
      exact ⟨hr.cell 9 rfl, hr.cell 10 rfl, hr.cell 11 rfl, hr.cell 12 rfl, hr.cell 13 rfl, hr.cell 14 rfl, hr.cell 15 rfl, hr.cell 16 rfl, hr.cell 25 rfl, hr.cell 26 rfl, hr.cell 27 rfl, hr.cell 28 rfl, hr.cell 29 rfl, hr.cell 30 rfl, hr.cell 31 rfl, hr.cell 32 rfl⟩)
    have HF1 : Hid (∀ W', Below w3.heap.size w3 W' → Calls Try.prog 141 #[.agg (dig8 h0)] W' fun e w' => e = .returned (.agg (dig8 iv)) ∧ Below w3.heap.size w3 w') := Lib.hid (fun W' h => (HIN.out W').mono fun e w' hw => ⟨hw.1, h.trans (hw.2.mono h.size)⟩)
    have HF2 : Hid (∀ W', Below w3.heap.size w3 W' → Calls Try.prog 138 #[.agg (dig8 iv), .agg (dig8 h2)] W' fun e w' => e = .returned (.agg (dig8 res)) ∧ Below w3.heap.size w3 w') := Lib.hid (fun W' h => (HTI.out W').mono fun e w' hw => ⟨hw.1, h.trans (hw.2.mono h.size)⟩)
    go_region_held3 (fun w' => w'.cell? ⟨w1.heap.size, 9, none⟩ = some (.int .u8 (h0 0)) ∧ w'.cell? ⟨w1.heap.size, 10, none⟩ = some (.int .u8 (h0 1)) ∧ w'.cell? ⟨w1.heap.size, 11, none⟩ = some (.int .u8 (h0 2)) ∧ w'.cell? ⟨w1.heap.size, 12, none⟩ = some (.int .u8 (h0 3)) ∧ w'.cell? ⟨w1.heap.size, 13, none⟩ = some (.int .u8 (h0 4)) ∧ w'.cell? ⟨w1.heap.size, 14, none⟩ = some (.int .u8 (h0 5)) ∧ w'.cell? ⟨w1.heap.size, 15, none⟩ = some (.int .u8 (h0 6)) ∧ w'.cell? ⟨w1.heap.size, 16, none⟩ = some (.int .u8 (h0 7)) ∧ w'.cell? ⟨w1.heap.size, 25, none⟩ = some (.int .u8 (h2 0)) ∧ w'.cell? ⟨w1.heap.size, 26, none⟩ = some (.int .u8 (h2 1)) ∧ w'.cell? ⟨w1.heap.size, 27, none⟩ = some (.int .u8 (h2 2)) ∧ w'.cell? ⟨w1.heap.size, 28, none⟩ = some (.int .u8 (h2 3)) ∧ w'.cell? ⟨w1.heap.size, 29, none⟩ = some (.int .u8 (h2 4)) ∧ w'.cell? ⟨w1.heap.size, 30, none⟩ = some (.int .u8 (h2 5)) ∧ w'.cell? ⟨w1.heap.size, 31, none⟩ = some (.int .u8 (h2 6)) ∧ w'.cell? ⟨w1.heap.size, 32, none⟩ = some (.int .u8 (h2 7))) (first | assumption | exact HXA.out _ (Below.refl _ _).drew | exact HXB.out _ hb5) (first
      | (go_at_call 141; refine (HF1.out _ (by first | exact (Below.refl _ _).drew | exact Below.refl _ _)).mono ?_; rintro e4 w4 ⟨rfl, hb4⟩; have hS4 := HXA.out _ hb4)
      | (go_at_call 138; refine (HF2.out _ hb4).mono ?_; rintro e5 w5 ⟨rfl, hb5⟩; have hS5 := HXA.out _ hb5; have hz5 := HZ2.out.kept hb5; have hS2 := run_storeCells8 _ _ _ _ res hz5 rfl) | fail)
    have HZ5 := Lib.hid hz5
    have HB5 := Lib.hid (HB2.out.trans (hb5.mono HB2.out.size))
    clear hS4 hS5 hb4 hb5 hz5 hS2 HXA HXB HF1 HF2 HX2 HZ2 HB2
    go_wp2
    exact bodyPost_ret (results_row_tmp rfl _ _ (w.heap.size + 1 + 1) 87 _ (0, 0) _ rfl (HZ5.out.row _) Try.underlying87 rfl (by kernel_rfl)) rfl ⟨rfl, below_setRow HB5.out (by omega) _⟩

set_option maxRecDepth 100000 in
set_option maxHeartbeats 1000000 in
theorem iCallRow_no (s : ByteArray) (hs : s.size ≤ maxLen) (n : Int) (v : Value) (L : List (List Nat)) (b q r : ByteArray) (w : World) (h : Txts w v L) (hl : L.length ≤ 2000000) (hk : askK s n L b q r = false) :
    Calls Try.prog 21 #[.agg #[.string s, .int .i64 n, v], .agg #[.string b, .string q], .string r] w fun e w' => e = .returned (.tuple #[.string ⟨#[]⟩, .bool false]) ∧ Below w.heap.size w w' := by
  obtain ⟨a, cap, rfl, hcap, -⟩ := id h
  have HT := Lib.hid h
  have HR0 := Lib.hid ((RowAt.new w 25 #[.string s, .int .i64 n, .slice a L.length cap]).push (.cells #[.string b, .string q] 27))
  have HK0 : Hid (RowAt ((w.alloc (.cells #[.string s, .int .i64 n, .slice a L.length cap] 25)).alloc (.cells #[.string b, .string q] 27)) (w.heap.size + 1) 27 #[.string b, .string q]) := Lib.hid (by
    have := RowAt.new (w.alloc (.cells #[.string s, .int .i64 n, .slice a L.length cap] 25)) 27 #[.string b, .string q]
    simpa using this)
  have HB0 := Lib.hid (((Below.refl _ w).alloc (Nat.le_refl _) (.cells #[.string s, .int .i64 n, .slice a L.length cap] 25)).alloc (by simp) (.cells #[.string b, .string q] 27))
  have HC := Lib.hid (fun w h => callEffect_no s hs n (.slice a L.length cap) L b q r w h hl hk)
  clear h hcap hl hk hs
  generalize L.length = m at *
  simp only [zero8] at HC
  go_enter Try.func21, Try.ntmps21
  go_wp2_with (first | (refine wpList_load_row rfl 25 _ rfl _ rfl 25 _ _ _ (HR0.out) Try.underlying25 rfl (by kernel_rfl) ?_) | (refine wpList_load_row rfl 27 _ rfl _ rfl 27 _ _ _ (HK0.out) Try.underlying27 rfl (by kernel_rfl) ?_) | fail)
  refine (HC.out _ (HT.out.kept HB0.out)).mono ?_
  rintro e w1 ⟨rfl, hb1⟩
  have HB1 := Lib.hid (HB0.out.trans (hb1.mono HB0.out.size))
  clear hb1 HR0 HK0 HB0 HC HT
  go_wp2_with (first | (refine wpList_store_row rfl 87 _ _ rfl _ _ rfl rfl 87 _ (heap_at _ _ _ (by simp)) (by kernel_rfl) rfl (by kernel_rfl) ?_; rw [setRow_at _ _ _ _ _ (by simp)]) | fail)
  go_ret2
  exact ⟨rfl, HB1.out.alloc HB1.out.size _⟩

set_option maxRecDepth 100000 in
set_option maxHeartbeats 1000000 in
theorem iCallRow_yes (s : ByteArray) (hs : s.size ≤ maxLen) (n : Nat) (v : Value) (L : List (List Nat)) (b q r : ByteArray) (w : World) (h : Txts w v L) (hl : L.length ≤ 2000000) (hg : goodK s n L b q = true) (hk : kB r = true) :
    Calls Try.prog 21 #[.agg #[.string s, .int .i64 n, v], .agg #[.string b, .string q], .string r] w fun e w' => e = .returned (.tuple #[.string (strOf n (efK n L b q (kN r))), .bool true]) ∧ Below w.heap.size w w' := by
  obtain ⟨a, cap, rfl, hcap, -⟩ := id h
  have HT := Lib.hid h
  have HR0 := Lib.hid ((RowAt.new w 25 #[.string s, .int .i64 n, .slice a L.length cap]).push (.cells #[.string b, .string q] 27))
  have HK0 : Hid (RowAt ((w.alloc (.cells #[.string s, .int .i64 n, .slice a L.length cap] 25)).alloc (.cells #[.string b, .string q] 27)) (w.heap.size + 1) 27 #[.string b, .string q]) := Lib.hid (by
    have := RowAt.new (w.alloc (.cells #[.string s, .int .i64 n, .slice a L.length cap] 25)) 27 #[.string b, .string q]
    simpa using this)
  have HB0 := Lib.hid (((Below.refl _ w).alloc (Nat.le_refl _) (.cells #[.string s, .int .i64 n, .slice a L.length cap] 25)).alloc (by simp) (.cells #[.string b, .string q] 27))
  have HC := Lib.hid (fun w h => callEffect_yes s hs n (.slice a L.length cap) L b q r w h hl hg hk)
  have HRW := Lib.hid (isRow_efK hg (kN r))
  generalize efK n L b q (kN r) = x at *
  have HFN := Lib.hid (fun w => row_any n x (isDig_of HRW.out) w)
  clear h hcap hl hk hs hg
  generalize L.length = m at *
  go_enter Try.func21, Try.ntmps21
  go_wp2_with (first | (refine wpList_load_row rfl 25 _ rfl _ rfl 25 _ _ _ (HR0.out) Try.underlying25 rfl (by kernel_rfl) ?_) | (refine wpList_load_row rfl 27 _ rfl _ rfl 27 _ _ _ (HK0.out) Try.underlying27 rfl (by kernel_rfl) ?_) | fail)
  refine (HC.out _ (HT.out.kept HB0.out)).mono ?_
  rintro e w1 ⟨rfl, hb1⟩
  have HB1 := Lib.hid (HB0.out.trans (hb1.mono HB0.out.size))
  have HX2 := Lib.hid (RowAt.new w1 87 (dig8 x))
  have HB2 := Lib.hid (HB1.out.alloc HB1.out.size (.cells (dig8 x) 87))
  clear hb1 HR0 HK0 HB0 HC HT HB1
  go_wp2_with (first | (refine wpList_store_row rfl 87 _ _ rfl _ _ rfl rfl 87 _ (heap_at _ _ _ (by simp)) (by kernel_rfl) rfl (by kernel_rfl) ?_; rw [setRow_at _ _ _ _ _ (by simp)]) | (refine wpList_load_row rfl 87 _ rfl _ rfl 87 _ _ _ (HX2.out) Try.underlying87 rfl (by kernel_rfl) ?_) | fail)
  refine (HFN.out _).mono ?_
  rintro e w4 ⟨rfl, hb4⟩
  have HB4 := Lib.hid (HB2.out.trans (hb4.mono HB2.out.size))
  clear hb4
  go_wp2
  go_ret2
  exact ⟨rfl, HB4.out⟩

set_option maxRecDepth 100000 in
set_option maxHeartbeats 1000000 in
theorem iCallOrder_no (s : ByteArray) (hs : s.size ≤ maxLen) (n : Int) (v : Value) (L : List (List Nat)) (b q r : ByteArray) (w : World) (h : Txts w v L) (hl : L.length ≤ 2000000) (hk : askK s n L b q r = false) :
    Calls Try.prog 23 #[.agg #[.string s, .int .i64 n, v], .agg #[.string b, .string q], .string r] w fun e w' => e = .returned (.tuple #[.int .i64 0, .bool false]) ∧ Below w.heap.size w w' := by
  obtain ⟨a, cap, rfl, hcap, -⟩ := id h
  have HT := Lib.hid h
  have HR0 := Lib.hid ((RowAt.new w 25 #[.string s, .int .i64 n, .slice a L.length cap]).push (.cells #[.string b, .string q] 27))
  have HK0 : Hid (RowAt ((w.alloc (.cells #[.string s, .int .i64 n, .slice a L.length cap] 25)).alloc (.cells #[.string b, .string q] 27)) (w.heap.size + 1) 27 #[.string b, .string q]) := Lib.hid (by
    have := RowAt.new (w.alloc (.cells #[.string s, .int .i64 n, .slice a L.length cap] 25)) 27 #[.string b, .string q]
    simpa using this)
  have HB0 := Lib.hid (((Below.refl _ w).alloc (Nat.le_refl _) (.cells #[.string s, .int .i64 n, .slice a L.length cap] 25)).alloc (by simp) (.cells #[.string b, .string q] 27))
  have HC := Lib.hid (fun w h => callEffect_no s hs n (.slice a L.length cap) L b q r w h hl hk)
  clear h hcap hl hk hs
  generalize L.length = m at *
  simp only [zero8] at HC
  go_enter Try.func23, Try.ntmps23
  go_wp2_with (first | (refine wpList_load_row rfl 25 _ rfl _ rfl 25 _ _ _ (HR0.out) Try.underlying25 rfl (by kernel_rfl) ?_) | (refine wpList_load_row rfl 27 _ rfl _ rfl 27 _ _ _ (HK0.out) Try.underlying27 rfl (by kernel_rfl) ?_) | fail)
  refine (HC.out _ (HT.out.kept HB0.out)).mono ?_
  rintro e w1 ⟨rfl, hb1⟩
  have HB1 := Lib.hid (HB0.out.trans (hb1.mono HB0.out.size))
  clear hb1 HR0 HK0 HB0 HC HT
  go_wp2_with (first | (refine wpList_store_row rfl 87 _ _ rfl _ _ rfl rfl 87 _ (heap_at _ _ _ (by simp)) (by kernel_rfl) rfl (by kernel_rfl) ?_; rw [setRow_at _ _ _ _ _ (by simp)]) | fail)
  go_ret2
  exact ⟨rfl, HB1.out.alloc HB1.out.size _⟩

set_option maxRecDepth 100000 in
set_option maxHeartbeats 1000000 in
theorem iCallOrder_yes (s : ByteArray) (hs : s.size ≤ maxLen) (n : Nat) (v : Value) (L : List (List Nat)) (b q r : ByteArray) (w : World) (h : Txts w v L) (hl : L.length ≤ 2000000) (hg : goodK s n L b q = true) (hk : kB r = true) (o : Nat) (ho : IsOrd n (efK n L b q (kN r)) o) :
    Calls Try.prog 23 #[.agg #[.string s, .int .i64 n, v], .agg #[.string b, .string q], .string r] w fun e w' => e = .returned (.tuple #[.int .i64 o, .bool true]) ∧ Below w.heap.size w w' := by
  obtain ⟨a, cap, rfl, hcap, -⟩ := id h
  have HT := Lib.hid h
  have HR0 := Lib.hid ((RowAt.new w 25 #[.string s, .int .i64 n, .slice a L.length cap]).push (.cells #[.string b, .string q] 27))
  have HK0 : Hid (RowAt ((w.alloc (.cells #[.string s, .int .i64 n, .slice a L.length cap] 25)).alloc (.cells #[.string b, .string q] 27)) (w.heap.size + 1) 27 #[.string b, .string q]) := Lib.hid (by
    have := RowAt.new (w.alloc (.cells #[.string s, .int .i64 n, .slice a L.length cap] 25)) 27 #[.string b, .string q]
    simpa using this)
  have HB0 := Lib.hid (((Below.refl _ w).alloc (Nat.le_refl _) (.cells #[.string s, .int .i64 n, .slice a L.length cap] 25)).alloc (by simp) (.cells #[.string b, .string q] 27))
  have HC := Lib.hid (fun w h => callEffect_yes s hs n (.slice a L.length cap) L b q r w h hl hg hk)
  have HRW := Lib.hid (isRow_efK hg (kN r))
  generalize efK n L b q (kN r) = x at *
  have HFN := Lib.hid (fun w => order_any n x HRW.out o ho w)
  clear h hcap hl hk hs hg ho
  generalize L.length = m at *
  go_enter Try.func23, Try.ntmps23
  go_wp2_with (first | (refine wpList_load_row rfl 25 _ rfl _ rfl 25 _ _ _ (HR0.out) Try.underlying25 rfl (by kernel_rfl) ?_) | (refine wpList_load_row rfl 27 _ rfl _ rfl 27 _ _ _ (HK0.out) Try.underlying27 rfl (by kernel_rfl) ?_) | fail)
  refine (HC.out _ (HT.out.kept HB0.out)).mono ?_
  rintro e w1 ⟨rfl, hb1⟩
  have HB1 := Lib.hid (HB0.out.trans (hb1.mono HB0.out.size))
  have HX2 := Lib.hid (RowAt.new w1 87 (dig8 x))
  have HB2 := Lib.hid (HB1.out.alloc HB1.out.size (.cells (dig8 x) 87))
  clear hb1 HR0 HK0 HB0 HC HT HB1
  go_wp2_with (first | (refine wpList_store_row rfl 87 _ _ rfl _ _ rfl rfl 87 _ (heap_at _ _ _ (by simp)) (by kernel_rfl) rfl (by kernel_rfl) ?_; rw [setRow_at _ _ _ _ _ (by simp)]) | (refine wpList_load_row rfl 87 _ rfl _ rfl 87 _ _ _ (HX2.out) Try.underlying87 rfl (by kernel_rfl) ?_) | fail)
  refine (HFN.out _).mono ?_
  rintro e w4 ⟨rfl, hb4⟩
  have HB4 := Lib.hid (HB2.out.trans (hb4.mono HB2.out.size))
  clear hb4
  go_wp2
  go_ret2
  exact ⟨rfl, HB4.out⟩
end Go.Proofs.Ytkhglknpcajmiaa
