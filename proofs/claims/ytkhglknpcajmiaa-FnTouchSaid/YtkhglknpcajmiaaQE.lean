/- GoodCalls, CallHead, CallHeads, SameLead in the program. -/
import Derived.Test.YtkhglknpcajmiaaQB
import Derived.Test.YtkhglknpcajmiaaQC
namespace Go.Proofs.Ytkhglknpcajmiaa
open Go.RowKit
set_option linter.unusedSimpArgs false
set_option linter.unusedVariables false

theorem RowAt.range8 {W : World} {b : Nat} {T : TypeId} {cs : Array Value} (h : RowAt W b T cs) (o : Nat) (f : Nat → Nat) (hc : ∀ j, j < 8 → cs[o + j]? = (cells8 f)[j]?) : W.rangeAt b o (cells8 f) := by
  intro j v hv
  have hj : j < 8 := (List.getElem?_eq_some_iff.1 hv).1
  exact h.cell (o + j) ((hc j hj).trans hv)
theorem call_range0 {W : World} {c : Nat} {u : Value} {f h0 h1 h2 : Nat → Nat} (h : RowAt W c 92 (callV u f h0 h1 h2)) : W.rangeAt c 9 (cells8 h0) :=
  h.range8 9 h0 fun j hj => by
    have : j = 0 ∨ j = 1 ∨ j = 2 ∨ j = 3 ∨ j = 4 ∨ j = 5 ∨ j = 6 ∨ j = 7 := by omega
    rcases this with rfl | rfl | rfl | rfl | rfl | rfl | rfl | rfl <;> rfl
theorem call_range1 {W : World} {c : Nat} {u : Value} {f h0 h1 h2 : Nat → Nat} (h : RowAt W c 92 (callV u f h0 h1 h2)) : W.rangeAt c 17 (cells8 h1) :=
  h.range8 17 h1 fun j hj => by
    have : j = 0 ∨ j = 1 ∨ j = 2 ∨ j = 3 ∨ j = 4 ∨ j = 5 ∨ j = 6 ∨ j = 7 := by omega
    rcases this with rfl | rfl | rfl | rfl | rfl | rfl | rfl | rfl <;> rfl
theorem call_range2 {W : World} {c : Nat} {u : Value} {f h0 h1 h2 : Nat → Nat} (h : RowAt W c 92 (callV u f h0 h1 h2)) : W.rangeAt c 25 (cells8 h2) :=
  h.range8 25 h2 fun j hj => by
    have : j = 0 ∨ j = 1 ∨ j = 2 ∨ j = 3 ∨ j = 4 ∨ j = 5 ∨ j = 6 ∨ j = 7 := by omega
    rcases this with rfl | rfl | rfl | rfl | rfl | rfl | rfl | rfl <;> rfl
theorem callKind_p (w : World) : Calls Try.prog 79 #[.string ⟨#[112]⟩] w fun e w' => e = .returned (.tuple #[.int .i64 0, .bool true]) ∧ w' = w := callKind_any ⟨#[112]⟩ w
theorem callKind_b (w : World) : Calls Try.prog 79 #[.string ⟨#[98]⟩] w fun e w' => e = .returned (.tuple #[.int .i64 1, .bool true]) ∧ w' = w := callKind_any ⟨#[98]⟩ w
theorem callKind_s (w : World) : Calls Try.prog 79 #[.string ⟨#[115]⟩] w fun e w' => e = .returned (.tuple #[.int .i64 2, .bool true]) ∧ w' = w := callKind_any ⟨#[115]⟩ w

set_option maxRecDepth 100000 in
set_option maxHeartbeats 1000000 in
theorem iGoodCalls_any (s : ByteArray) (hs : s.size ≤ maxLen) (n : Int) (v : Value) (L : List (List Nat)) (b q : ByteArray) (w : World) (h : Txts w v L) (hl : L.length ≤ 2000000) :
    Calls Try.prog 29 #[.agg #[.string s, .int .i64 n, v], .agg #[.string b, .string q]] w fun e w' => e = .returned (.bool (goodK s n L b q)) ∧ Below w.heap.size w w' := by
  obtain ⟨a, cap, rfl, hcap, -⟩ := id h
  have HT := Lib.hid h
  have HR0 := Lib.hid ((RowAt.new w 25 #[.string s, .int .i64 n, .slice a L.length cap]).push (.cells #[.string b, .string q] 27))
  have HK0 : Hid (RowAt ((w.alloc (.cells #[.string s, .int .i64 n, .slice a L.length cap] 25)).alloc (.cells #[.string b, .string q] 27)) (w.heap.size + 1) 27 #[.string b, .string q]) := Lib.hid (by
    have := RowAt.new (w.alloc (.cells #[.string s, .int .i64 n, .slice a L.length cap] 25)) 27 #[.string b, .string q]
    simpa using this)
  have HB0 := Lib.hid (((Below.refl _ w).alloc (Nat.le_refl _) (.cells #[.string s, .int .i64 n, .slice a L.length cap] 25)).alloc (by simp) (.cells #[.string b, .string q] 27))
  cases hg : goodK s n L b q
  · have HC := Lib.hid (fun w h => callingOf_no s hs n (.slice a L.length cap) L b q w h hl hg)
    clear h hcap hl hg
    generalize L.length = m at *
    simp only [zero33] at HC
    go_enter Try.func29, Try.ntmps29
    go_wp2_with (first | (refine wpList_load_row rfl 25 _ rfl _ rfl 25 _ _ _ (HR0.out) Try.underlying25 rfl (by kernel_rfl) ?_) | (refine wpList_load_row rfl 27 _ rfl _ rfl 27 _ _ _ (HK0.out) Try.underlying27 rfl (by kernel_rfl) ?_) | fail)
    refine (HC.out _ (HT.out.kept HB0.out)).mono ?_
    rintro e w1 ⟨rfl, hb1⟩
    have HB1 := Lib.hid (HB0.out.trans (hb1.mono HB0.out.size))
    clear hb1 HR0 HK0 HB0 HC HT
    go_wp2_with (first | (refine wpList_store_row rfl 92 _ _ rfl _ _ rfl rfl 92 _ (heap_at _ _ _ (by simp)) (by kernel_rfl) rfl (by kernel_rfl) ?_; rw [setRow_at _ _ _ _ _ (by simp)]) | fail)
    go_ret
    exact ⟨rfl, HB1.out.alloc HB1.out.size _⟩
  · obtain ⟨n, rfl⟩ := goodK_cast hg
    have HC := Lib.hid (fun w h => callingOf_yes s hs n (.slice a L.length cap) L b q w h hl hg)
    have HW0 := Lib.hid (isRow_hdK hg 0)
    have HW1 := Lib.hid (isRow_hdK hg 1)
    have HW2 := Lib.hid (isRow_hdK hg 2)
    unfold CallYes at HC
    generalize hdK n L b q 0 = h0 at *
    generalize hdK n L b q 1 = h1 at *
    generalize hdK n L b q 2 = h2 at *
    generalize rdf n = f at *
    clear h hcap hl hg
    generalize L.length = m at *
    go_enter Try.func29, Try.ntmps29
    go_wp2_with (first | (refine wpList_load_row rfl 25 _ rfl _ rfl 25 _ _ _ (HR0.out) Try.underlying25 rfl (by kernel_rfl) ?_) | (refine wpList_load_row rfl 27 _ rfl _ rfl 27 _ _ _ (HK0.out) Try.underlying27 rfl (by kernel_rfl) ?_) | fail)
    refine (HC.out _ (HT.out.kept HB0.out)).mono ?_
    rintro e w1 ⟨a1, k1, rfl, hb1⟩
    have HB1 := Lib.hid (HB0.out.trans (hb1.mono HB0.out.size))
    have HX2 := Lib.hid (RowAt.new w1 92 (callV (.slice a1 m k1) f h0 h1 h2))
    have HB2 := Lib.hid (HB1.out.alloc HB1.out.size (.cells (callV (.slice a1 m k1) f h0 h1 h2) 92))
    have HG0 := Lib.hid (call_range0 HX2.out)
    have HG1 := Lib.hid (call_range1 HX2.out)
    have HG2 := Lib.hid (call_range2 HX2.out)
    clear hb1 HR0 HK0 HB0 HC HT HB1
    simp only [callV] at HX2 HB2 HG0 HG1 HG2 ⊢
    go_wp2_with (first | (refine wpList_store_row rfl 92 _ _ rfl _ _ rfl rfl 92 _ (heap_at _ _ _ (by simp)) (by kernel_rfl) rfl (by kernel_rfl) ?_; rw [setRow_at _ _ _ _ _ (by simp)]) | fail)
    go_ret
    exact ⟨rfl, HB2.out⟩

set_option maxRecDepth 100000 in
set_option maxHeartbeats 1000000 in
theorem iCallHead_no (s : ByteArray) (hs : s.size ≤ maxLen) (n : Int) (v : Value) (L : List (List Nat)) (b q r : ByteArray) (w : World) (h : Txts w v L) (hl : L.length ≤ 2000000) (hk : askK s n L b q r = false) :
    Calls Try.prog 19 #[.agg #[.string s, .int .i64 n, v], .agg #[.string b, .string q], .string r] w fun e w' => e = .returned (.tuple #[.string ⟨#[]⟩, .bool false]) ∧ Below w.heap.size w w' := by
  obtain ⟨a, cap, rfl, hcap, -⟩ := id h
  have HT := Lib.hid h
  have HR0 := Lib.hid ((RowAt.new w 25 #[.string s, .int .i64 n, .slice a L.length cap]).push (.cells #[.string b, .string q] 27))
  have HK0 : Hid (RowAt ((w.alloc (.cells #[.string s, .int .i64 n, .slice a L.length cap] 25)).alloc (.cells #[.string b, .string q] 27)) (w.heap.size + 1) 27 #[.string b, .string q]) := Lib.hid (by
    have := RowAt.new (w.alloc (.cells #[.string s, .int .i64 n, .slice a L.length cap] 25)) 27 #[.string b, .string q]
    simpa using this)
  have HB0 := Lib.hid (((Below.refl _ w).alloc (Nat.le_refl _) (.cells #[.string s, .int .i64 n, .slice a L.length cap] 25)).alloc (by simp) (.cells #[.string b, .string q] 27))
  cases hg : goodK s n L b q
  · have HC := Lib.hid (fun w h => callingOf_no s hs n (.slice a L.length cap) L b q w h hl hg)
    clear h hcap hl hg
    generalize L.length = m at *
    simp only [zero33] at HC
    go_enter Try.func19, Try.ntmps19
    go_wp2_with (first | (refine wpList_load_row rfl 25 _ rfl _ rfl 25 _ _ _ (HR0.out) Try.underlying25 rfl (by kernel_rfl) ?_) | (refine wpList_load_row rfl 27 _ rfl _ rfl 27 _ _ _ (HK0.out) Try.underlying27 rfl (by kernel_rfl) ?_) | fail)
    refine (HC.out _ (HT.out.kept HB0.out)).mono ?_
    rintro e w1 ⟨rfl, hb1⟩
    have HB1 := Lib.hid (HB0.out.trans (hb1.mono HB0.out.size))
    clear hb1 HR0 HK0 HB0 HC HT
    go_wp2_with (first | (refine wpList_store_row rfl 92 _ _ rfl _ _ rfl rfl 92 _ (heap_at _ _ _ (by simp)) (by kernel_rfl) rfl (by kernel_rfl) ?_; rw [setRow_at _ _ _ _ _ (by simp)]) | (go_at_call 79; refine (callKind_any _ _).mono ?_; rintro e2 w2 ⟨rfl, rfl⟩) | fail)
    go_ret2
    exact ⟨rfl, HB1.out.alloc HB1.out.size _⟩
  · obtain ⟨n, rfl⟩ := goodK_cast hg
    have HKF : Hid (kB r = false) := Lib.hid (by unfold askK at hk; rwa [hg, Bool.true_and] at hk)
    have HC := Lib.hid (fun w h => callingOf_yes s hs n (.slice a L.length cap) L b q w h hl hg)
    have HW0 := Lib.hid (isRow_hdK hg 0)
    have HW1 := Lib.hid (isRow_hdK hg 1)
    have HW2 := Lib.hid (isRow_hdK hg 2)
    unfold CallYes at HC
    generalize hdK n L b q 0 = h0 at *
    generalize hdK n L b q 1 = h1 at *
    generalize hdK n L b q 2 = h2 at *
    generalize rdf n = f at *
    clear h hcap hl hg hk
    generalize L.length = m at *
    go_enter Try.func19, Try.ntmps19
    go_wp2_with (first | (refine wpList_load_row rfl 25 _ rfl _ rfl 25 _ _ _ (HR0.out) Try.underlying25 rfl (by kernel_rfl) ?_) | (refine wpList_load_row rfl 27 _ rfl _ rfl 27 _ _ _ (HK0.out) Try.underlying27 rfl (by kernel_rfl) ?_) | fail)
    refine (HC.out _ (HT.out.kept HB0.out)).mono ?_
    rintro e w1 ⟨a1, k1, rfl, hb1⟩
    have HB1 := Lib.hid (HB0.out.trans (hb1.mono HB0.out.size))
    have HX2 := Lib.hid (RowAt.new w1 92 (callV (.slice a1 m k1) f h0 h1 h2))
    have HB2 := Lib.hid (HB1.out.alloc HB1.out.size (.cells (callV (.slice a1 m k1) f h0 h1 h2) 92))
    have HG0 := Lib.hid (call_range0 HX2.out)
    have HG1 := Lib.hid (call_range1 HX2.out)
    have HG2 := Lib.hid (call_range2 HX2.out)
    clear hb1 HR0 HK0 HB0 HC HT HB1
    simp only [callV] at HX2 HB2 HG0 HG1 HG2 ⊢
    go_wp2_with (first | (refine wpList_store_row rfl 92 _ _ rfl _ _ rfl rfl 92 _ (heap_at _ _ _ (by simp)) (by kernel_rfl) rfl (by kernel_rfl) ?_; rw [setRow_at _ _ _ _ _ (by simp)]) | (go_at_call 79; refine (callKind_any _ _).mono ?_; rintro e2 w2 ⟨rfl, rfl⟩; rw [HKF.out]) | fail)
    go_ret2
    exact ⟨rfl, HB2.out⟩

set_option maxRecDepth 100000 in
set_option maxHeartbeats 1000000 in
theorem iCallHead_yes (s : ByteArray) (hs : s.size ≤ maxLen) (n : Nat) (v : Value) (L : List (List Nat)) (b q r : ByteArray) (w : World) (h : Txts w v L) (hl : L.length ≤ 2000000) (hg : goodK s n L b q = true) (hk : kB r = true) :
    Calls Try.prog 19 #[.agg #[.string s, .int .i64 n, v], .agg #[.string b, .string q], .string r] w fun e w' => e = .returned (.tuple #[.string (strOf n (hdK n L b q (kN r))), .bool true]) ∧ Below w.heap.size w w' := by
  obtain ⟨a, cap, rfl, hcap, -⟩ := id h
  have HT := Lib.hid h
  have HR0 := Lib.hid ((RowAt.new w 25 #[.string s, .int .i64 n, .slice a L.length cap]).push (.cells #[.string b, .string q] 27))
  have HK0 : Hid (RowAt ((w.alloc (.cells #[.string s, .int .i64 n, .slice a L.length cap] 25)).alloc (.cells #[.string b, .string q] 27)) (w.heap.size + 1) 27 #[.string b, .string q]) := Lib.hid (by
    have := RowAt.new (w.alloc (.cells #[.string s, .int .i64 n, .slice a L.length cap] 25)) 27 #[.string b, .string q]
    simpa using this)
  have HB0 := Lib.hid (((Below.refl _ w).alloc (Nat.le_refl _) (.cells #[.string s, .int .i64 n, .slice a L.length cap] 25)).alloc (by simp) (.cells #[.string b, .string q] 27))
  have HC := Lib.hid (fun w h => callingOf_yes s hs n (.slice a L.length cap) L b q w h hl hg)
  have HW0 := Lib.hid (isRow_hdK hg 0)
  have HW1 := Lib.hid (isRow_hdK hg 1)
  have HW2 := Lib.hid (isRow_hdK hg 2)
  unfold CallYes at HC
  rcases kB_cases hk with rfl | rfl | rfl
  · rw [show kN ⟨#[112]⟩ = 0 from rfl]
    generalize hdK n L b q 0 = h0 at *
    generalize hdK n L b q 1 = h1 at *
    generalize hdK n L b q 2 = h2 at *
    generalize rdf n = f at *
    clear h hcap hl hg hk
    generalize L.length = m at *
    go_enter Try.func19, Try.ntmps19
    go_wp2_with (first | (refine wpList_load_row rfl 25 _ rfl _ rfl 25 _ _ _ (HR0.out) Try.underlying25 rfl (by kernel_rfl) ?_) | (refine wpList_load_row rfl 27 _ rfl _ rfl 27 _ _ _ (HK0.out) Try.underlying27 rfl (by kernel_rfl) ?_) | fail)
    refine (HC.out _ (HT.out.kept HB0.out)).mono ?_
    rintro e w1 ⟨a1, k1, rfl, hb1⟩
    have HB1 := Lib.hid (HB0.out.trans (hb1.mono HB0.out.size))
    have HX2 := Lib.hid (RowAt.new w1 92 (callV (.slice a1 m k1) f h0 h1 h2))
    have HB2 := Lib.hid (HB1.out.alloc HB1.out.size (.cells (callV (.slice a1 m k1) f h0 h1 h2) 92))
    have HG0 := Lib.hid (call_range0 HX2.out)
    have HG1 := Lib.hid (call_range1 HX2.out)
    have HG2 := Lib.hid (call_range2 HX2.out)
    clear hb1 HR0 HK0 HB0 HC HT HB1
    simp only [callV] at HX2 HB2 HG0 HG1 HG2 ⊢
    go_wp2_with (first | (refine wpList_store_row rfl 92 _ _ rfl _ _ rfl rfl 92 _ (heap_at _ _ _ (by simp)) (by kernel_rfl) rfl (by kernel_rfl) ?_; rw [setRow_at _ _ _ _ _ (by simp)]) | (go_at_call 79; refine (callKind_p _).mono ?_; rintro e2 w2 ⟨rfl, rfl⟩) | (refine wpList_load8 rfl _ rfl w1.heap.size 9 rfl h0 HG0.out ?_) | fail)
    refine (row_any n h0 (isDig_of HW0.out) _).mono ?_
    rintro e w4 ⟨rfl, hb4⟩
    have HB4 := Lib.hid (HB2.out.trans (hb4.mono HB2.out.size))
    clear hb4
    go_wp2
    go_ret2
    exact ⟨rfl, HB4.out⟩
  · rw [show kN ⟨#[98]⟩ = 1 from rfl]
    generalize hdK n L b q 0 = h0 at *
    generalize hdK n L b q 1 = h1 at *
    generalize hdK n L b q 2 = h2 at *
    generalize rdf n = f at *
    clear h hcap hl hg hk
    generalize L.length = m at *
    go_enter Try.func19, Try.ntmps19
    go_wp2_with (first | (refine wpList_load_row rfl 25 _ rfl _ rfl 25 _ _ _ (HR0.out) Try.underlying25 rfl (by kernel_rfl) ?_) | (refine wpList_load_row rfl 27 _ rfl _ rfl 27 _ _ _ (HK0.out) Try.underlying27 rfl (by kernel_rfl) ?_) | fail)
    refine (HC.out _ (HT.out.kept HB0.out)).mono ?_
    rintro e w1 ⟨a1, k1, rfl, hb1⟩
    have HB1 := Lib.hid (HB0.out.trans (hb1.mono HB0.out.size))
    have HX2 := Lib.hid (RowAt.new w1 92 (callV (.slice a1 m k1) f h0 h1 h2))
    have HB2 := Lib.hid (HB1.out.alloc HB1.out.size (.cells (callV (.slice a1 m k1) f h0 h1 h2) 92))
    have HG0 := Lib.hid (call_range0 HX2.out)
    have HG1 := Lib.hid (call_range1 HX2.out)
    have HG2 := Lib.hid (call_range2 HX2.out)
    clear hb1 HR0 HK0 HB0 HC HT HB1
    simp only [callV] at HX2 HB2 HG0 HG1 HG2 ⊢
    go_wp2_with (first | (refine wpList_store_row rfl 92 _ _ rfl _ _ rfl rfl 92 _ (heap_at _ _ _ (by simp)) (by kernel_rfl) rfl (by kernel_rfl) ?_; rw [setRow_at _ _ _ _ _ (by simp)]) | (go_at_call 79; refine (callKind_b _).mono ?_; rintro e2 w2 ⟨rfl, rfl⟩) | (refine wpList_load8 rfl _ rfl w1.heap.size 17 rfl h1 HG1.out ?_) | fail)
    refine (row_any n h1 (isDig_of HW1.out) _).mono ?_
    rintro e w4 ⟨rfl, hb4⟩
    have HB4 := Lib.hid (HB2.out.trans (hb4.mono HB2.out.size))
    clear hb4
    go_wp2
    go_ret2
    exact ⟨rfl, HB4.out⟩
  · rw [show kN ⟨#[115]⟩ = 2 from rfl]
    generalize hdK n L b q 0 = h0 at *
    generalize hdK n L b q 1 = h1 at *
    generalize hdK n L b q 2 = h2 at *
    generalize rdf n = f at *
    clear h hcap hl hg hk
    generalize L.length = m at *
    go_enter Try.func19, Try.ntmps19
    go_wp2_with (first | (refine wpList_load_row rfl 25 _ rfl _ rfl 25 _ _ _ (HR0.out) Try.underlying25 rfl (by kernel_rfl) ?_) | (refine wpList_load_row rfl 27 _ rfl _ rfl 27 _ _ _ (HK0.out) Try.underlying27 rfl (by kernel_rfl) ?_) | fail)
    refine (HC.out _ (HT.out.kept HB0.out)).mono ?_
    rintro e w1 ⟨a1, k1, rfl, hb1⟩
    have HB1 := Lib.hid (HB0.out.trans (hb1.mono HB0.out.size))
    have HX2 := Lib.hid (RowAt.new w1 92 (callV (.slice a1 m k1) f h0 h1 h2))
    have HB2 := Lib.hid (HB1.out.alloc HB1.out.size (.cells (callV (.slice a1 m k1) f h0 h1 h2) 92))
    have HG0 := Lib.hid (call_range0 HX2.out)
    have HG1 := Lib.hid (call_range1 HX2.out)
    have HG2 := Lib.hid (call_range2 HX2.out)
    clear hb1 HR0 HK0 HB0 HC HT HB1
    simp only [callV] at HX2 HB2 HG0 HG1 HG2 ⊢
    go_wp2_with (first | (refine wpList_store_row rfl 92 _ _ rfl _ _ rfl rfl 92 _ (heap_at _ _ _ (by simp)) (by kernel_rfl) rfl (by kernel_rfl) ?_; rw [setRow_at _ _ _ _ _ (by simp)]) | (go_at_call 79; refine (callKind_s _).mono ?_; rintro e2 w2 ⟨rfl, rfl⟩) | (refine wpList_load8 rfl _ rfl w1.heap.size 25 rfl h2 HG2.out ?_) | fail)
    refine (row_any n h2 (isDig_of HW2.out) _).mono ?_
    rintro e w4 ⟨rfl, hb4⟩
    have HB4 := Lib.hid (HB2.out.trans (hb4.mono HB2.out.size))
    clear hb4
    go_wp2
    go_ret2
    exact ⟨rfl, HB4.out⟩

set_option maxRecDepth 100000 in
set_option maxHeartbeats 1000000 in
theorem iCallHeads_no (s : ByteArray) (hs : s.size ≤ maxLen) (n : Int) (v : Value) (L : List (List Nat)) (b q : ByteArray) (w : World) (h : Txts w v L) (hl : L.length ≤ 2000000) (hg : goodK s n L b q = false) :
    Calls Try.prog 38 #[.agg #[.string s, .int .i64 n, v], .agg #[.string b, .string q]] w (TextsAny [] false w) := by
  obtain ⟨a, cap, rfl, hcap, -⟩ := id h
  have HT := Lib.hid h
  have HR0 := Lib.hid ((RowAt.new w 25 #[.string s, .int .i64 n, .slice a L.length cap]).push (.cells #[.string b, .string q] 27))
  have HK0 : Hid (RowAt ((w.alloc (.cells #[.string s, .int .i64 n, .slice a L.length cap] 25)).alloc (.cells #[.string b, .string q] 27)) (w.heap.size + 1) 27 #[.string b, .string q]) := Lib.hid (by
    have := RowAt.new (w.alloc (.cells #[.string s, .int .i64 n, .slice a L.length cap] 25)) 27 #[.string b, .string q]
    simpa using this)
  have HB0 := Lib.hid (((Below.refl _ w).alloc (Nat.le_refl _) (.cells #[.string s, .int .i64 n, .slice a L.length cap] 25)).alloc (by simp) (.cells #[.string b, .string q] 27))
  have HC := Lib.hid (fun w h => callingOf_no s hs n (.slice a L.length cap) L b q w h hl hg)
  clear h hcap hl hg
  generalize L.length = m at *
  simp only [zero33] at HC
  go_enter Try.func38, Try.ntmps38
  go_wp2_with (first | (refine wpList_load_row rfl 25 _ rfl _ rfl 25 _ _ _ (HR0.out) Try.underlying25 rfl (by kernel_rfl) ?_) | (refine wpList_load_row rfl 27 _ rfl _ rfl 27 _ _ _ (HK0.out) Try.underlying27 rfl (by kernel_rfl) ?_) | fail)
  refine (HC.out _ (HT.out.kept HB0.out)).mono ?_
  rintro e w1 ⟨rfl, hb1⟩
  have HB1 := Lib.hid (HB0.out.trans (hb1.mono HB0.out.size))
  clear hb1 HR0 HK0 HB0 HC HT
  go_wp2_with (first | (refine wpList_store_row rfl 92 _ _ rfl _ _ rfl rfl 92 _ (heap_at _ _ _ (by simp)) (by kernel_rfl) rfl (by kernel_rfl) ?_; rw [setRow_at _ _ _ _ _ (by simp)]) | fail)
  go_ret2
  exact ⟨_, rfl, New.nil _ _ _, HB1.out.alloc HB1.out.size _⟩

set_option maxRecDepth 100000 in
set_option maxHeartbeats 1000000 in
theorem iCallHeads_yes (s : ByteArray) (hs : s.size ≤ maxLen) (n : Nat) (v : Value) (L : List (List Nat)) (b q : ByteArray) (w : World) (h : Txts w v L) (hl : L.length ≤ 2000000) (hg : goodK s n L b q = true) :
    Calls Try.prog 38 #[.agg #[.string s, .int .i64 n, v], .agg #[.string b, .string q]] w (TextsAny (rowsL n [hdK n L b q 0, hdK n L b q 1, hdK n L b q 2]) true w) := by
  obtain ⟨a, cap, rfl, hcap, -⟩ := id h
  have HT := Lib.hid h
  have HR0 := Lib.hid ((RowAt.new w 25 #[.string s, .int .i64 n, .slice a L.length cap]).push (.cells #[.string b, .string q] 27))
  have HK0 : Hid (RowAt ((w.alloc (.cells #[.string s, .int .i64 n, .slice a L.length cap] 25)).alloc (.cells #[.string b, .string q] 27)) (w.heap.size + 1) 27 #[.string b, .string q]) := Lib.hid (by
    have := RowAt.new (w.alloc (.cells #[.string s, .int .i64 n, .slice a L.length cap] 25)) 27 #[.string b, .string q]
    simpa using this)
  have HB0 := Lib.hid (((Below.refl _ w).alloc (Nat.le_refl _) (.cells #[.string s, .int .i64 n, .slice a L.length cap] 25)).alloc (by simp) (.cells #[.string b, .string q] 27))
  have HC := Lib.hid (fun w h => callingOf_yes s hs n (.slice a L.length cap) L b q w h hl hg)
  have HW0 := Lib.hid (isRow_hdK hg 0)
  have HW1 := Lib.hid (isRow_hdK hg 1)
  have HW2 := Lib.hid (isRow_hdK hg 2)
  unfold CallYes at HC
  generalize hdK n L b q 0 = h0 at *
  generalize hdK n L b q 1 = h1 at *
  generalize hdK n L b q 2 = h2 at *
  generalize rdf n = f at *
  clear h hcap hl hg
  generalize L.length = m at *
  go_enter Try.func38, Try.ntmps38
  go_wp2_with (first | (refine wpList_load_row rfl 25 _ rfl _ rfl 25 _ _ _ (HR0.out) Try.underlying25 rfl (by kernel_rfl) ?_) | (refine wpList_load_row rfl 27 _ rfl _ rfl 27 _ _ _ (HK0.out) Try.underlying27 rfl (by kernel_rfl) ?_) | fail)
  refine (HC.out _ (HT.out.kept HB0.out)).mono ?_
  rintro e w1 ⟨a1, k1, rfl, hb1⟩
  have HB1 := Lib.hid (HB0.out.trans (hb1.mono HB0.out.size))
  have HX2 := Lib.hid (RowAt.new w1 92 (callV (.slice a1 m k1) f h0 h1 h2))
  have HB2 := Lib.hid (HB1.out.alloc HB1.out.size (.cells (callV (.slice a1 m k1) f h0 h1 h2) 92))
  have HG0 := Lib.hid (call_range0 HX2.out)
  have HG1 := Lib.hid (call_range1 HX2.out)
  have HG2 := Lib.hid (call_range2 HX2.out)
  clear hb1 HR0 HK0 HB0 HC HT HB1
  simp only [callV] at HX2 HB2 HG0 HG1 HG2 ⊢
  have hrs : Rows n [h0, h1, h2] := by
    intro x hx
    simp only [List.mem_cons, List.not_mem_nil, or_false] at hx
    rcases hx with rfl | rfl | rfl
    · exact HW0.out
    · exact HW1.out
    · exact HW2.out
  have hdg : Digs (w1.alloc (.cells #[.slice a1 m k1, .int .u8 (f 0), .int .u8 (f 1), .int .u8 (f 2), .int .u8 (f 3), .int .u8 (f 4), .int .u8 (f 5), .int .u8 (f 6), .int .u8 (f 7), .int .u8 (h0 0), .int .u8 (h0 1), .int .u8 (h0 2), .int .u8 (h0 3), .int .u8 (h0 4), .int .u8 (h0 5), .int .u8 (h0 6), .int .u8 (h0 7), .int .u8 (h1 0), .int .u8 (h1 1), .int .u8 (h1 2), .int .u8 (h1 3), .int .u8 (h1 4), .int .u8 (h1 5), .int .u8 (h1 6), .int .u8 (h1 7), .int .u8 (h2 0), .int .u8 (h2 1), .int .u8 (h2 2), .int .u8 (h2 3), .int .u8 (h2 4), .int .u8 (h2 5), .int .u8 (h2 6), .int .u8 (h2 7)] 92)) (.slice (some ⟨w1.heap.size, 9, none⟩) 3 3) [h0, h1, h2] := by
    refine ⟨_, 3, rfl, Nat.le_refl _, fun _ => ⟨w1.heap.size, 9, rfl, HX2.out.lt, fun i hi => ?_⟩⟩
    have : i = 0 ∨ i = 1 ∨ i = 2 := by simp at hi; omega
    rcases this with rfl | rfl | rfl
    · exact HG0.out
    · exact HG1.out
    · exact HG2.out
  have HRT := Lib.hid (rowTexts_any n (.slice (some ⟨w1.heap.size, 9, none⟩) 3 3) [h0, h1, h2] hrs (by simp) _ hdg)
  unfold TextsOut at HRT
  clear hrs hdg
  go_wp2_with (first | (refine wpList_store_row rfl 92 _ _ rfl _ _ rfl rfl 92 _ (heap_at _ _ _ (by simp)) (by kernel_rfl) rfl (by kernel_rfl) ?_; rw [setRow_at _ _ _ _ _ (by simp)]) | fail)
  refine HRT.out.mono ?_
  rintro e w4 ⟨v4, rfl, hn4, hb4⟩
  have HN4 := Lib.hid (hn4.lower HB2.out.size)
  have HB4 := Lib.hid (HB2.out.trans (hb4.mono HB2.out.size))
  clear hb4 hn4
  go_wp2
  go_ret2
  exact ⟨_, rfl, HN4.out, HB4.out⟩
end Go.Proofs.Ytkhglknpcajmiaa
