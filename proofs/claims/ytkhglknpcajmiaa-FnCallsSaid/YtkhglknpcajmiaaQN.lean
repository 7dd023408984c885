/- SameLead in the program and in the model. -/
import Derived.Test.YtkhglknpcajmiaaQE
import Derived.Test.YtkhglknpcajmiaaQF
namespace Go.Proofs.Ytkhglknpcajmiaa
open Go.RowKit
set_option linter.unusedSimpArgs false
set_option linter.unusedVariables false

theorem eq8_str {n : Nat} {f g : Nat → Nat} (hf : IsRow n f) (hg : IsRow n g) : ((List.range 8).map (fun i => UInt8.ofNat (f i)) == (List.range 8).map (fun i => UInt8.ofNat (g i))) = ((strOf n f).toList == (strOf n g).toList) := by
  by_cases e : f = g
  · subst e
    rw [dig8_same, str_same rfl]
  · rw [dig8_other hf hg e, str_other hf hg e]
theorem kp_1 : kN ⟨#[112]⟩ = 0 := rfl
theorem kp_2 : kB ⟨#[112]⟩ = true := rfl
theorem kb_1 : kN ⟨#[98]⟩ = 1 := rfl
theorem kb_2 : kB ⟨#[98]⟩ = true := rfl
theorem ks_1 : kN ⟨#[115]⟩ = 2 := rfl
theorem ks_2 : kB ⟨#[115]⟩ = true := rfl
/-- do two calls lead to the same head -/
def sameK (n : Nat) (L : List (List Nat)) (b q : ByteArray) (i j : Nat) : Bool := (strOf n (hdK n L b q i)).toList == (strOf n (hdK n L b q j)).toList

set_option maxRecDepth 100000 in
set_option maxHeartbeats 1000000 in
theorem iSameLead_no (s : ByteArray) (hs : s.size ≤ maxLen) (n : Int) (v : Value) (L : List (List Nat)) (b q r r2 : ByteArray) (w : World) (h : Txts w v L) (hl : L.length ≤ 2000000) (hk : (askK s n L b q r && kB r2) = false) :
    Calls Try.prog 36 #[.agg #[.string s, .int .i64 n, v], .agg #[.string b, .string q], .string r, .string r2] w fun e w' => e = .returned (.tuple #[.bool false, .bool false]) ∧ Below w.heap.size w w' := by
  obtain ⟨a, cap, rfl, hcap, -⟩ := id h
  have HT := Lib.hid h
  have HR0 := Lib.hid ((RowAt.new w 25 #[.string s, .int .i64 n, .slice a L.length cap]).push (.cells #[.string b, .string q] 27))
  have HK0 : Hid (RowAt ((w.alloc (.cells #[.string s, .int .i64 n, .slice a L.length cap] 25)).alloc (.cells #[.string b, .string q] 27)) (w.heap.size + 1) 27 #[.string b, .string q]) := Lib.hid (by
    have := RowAt.new (w.alloc (.cells #[.string s, .int .i64 n, .slice a L.length cap] 25)) 27 #[.string b, .string q]
    simpa using this)
  have HB0 := Lib.hid (((Below.refl _ w).alloc (Nat.le_refl _) (.cells #[.string s, .int .i64 n, .slice a L.length cap] 25)).alloc (by simp) (.cells #[.string b, .string q] 27))
  cases hg : goodK s n L b q
  · have HC := Lib.hid (fun w h => callingOf_no s hs n (.slice a L.length cap) L b q w h hl hg)
    clear h hcap hl hg
    generalize L.length = m at *
    simp only [zero33] at HC
    go_enter Try.func36, Try.ntmps36
    go_wp2_with (first | (refine wpList_load_row rfl 25 _ rfl _ rfl 25 _ _ _ (HR0.out) Try.underlying25 rfl (by kernel_rfl) ?_) | (refine wpList_load_row rfl 27 _ rfl _ rfl 27 _ _ _ (HK0.out) Try.underlying27 rfl (by kernel_rfl) ?_) | fail)
    refine (HC.out _ (HT.out.kept HB0.out)).mono ?_
    rintro e w1 ⟨rfl, hb1⟩
    have HB1 := Lib.hid (HB0.out.trans (hb1.mono HB0.out.size))
    clear hb1 HR0 HK0 HB0 HC HT
    go_wp2_with (first | (refine wpList_store_row rfl 92 _ _ rfl _ _ rfl rfl 92 _ (heap_at _ _ _ (by simp)) (by kernel_rfl) rfl (by kernel_rfl) ?_; rw [setRow_at _ _ _ _ _ (by simp)]) | (go_at_call 79; refine (callKind_any _ _).mono ?_; rintro e2 w2 ⟨rfl, rfl⟩) | fail)
    go_ret2
    exact ⟨rfl, HB1.out.alloc HB1.out.size _⟩
  · obtain ⟨n, rfl⟩ := goodK_cast hg
    have hkk : (kB r && kB r2) = false := by unfold askK at hk; rwa [hg, Bool.true_and] at hk
    have HKK := Lib.hid hkk
    clear hkk
    have HC := Lib.hid (fun w h => callingOf_yes s hs n (.slice a L.length cap) L b q w h hl hg)
    have HW0 := Lib.hid (isRow_hdK hg 0)
    have HW1 := Lib.hid (isRow_hdK hg 1)
    have HW2 := Lib.hid (isRow_hdK hg 2)
    unfold CallYes at HC
    generalize hdK n L b q 0 = h0 at *
    generalize hdK n L b q 1 = h1 at *
    generalize hdK n L b q 2 = h2 at *
    generalize rdf n = f at *
    clear h hcap hl hg hk
    generalize L.length = m at *
    go_enter Try.func36, Try.ntmps36
    go_wp2_with (first | (refine wpList_load_row rfl 25 _ rfl _ rfl 25 _ _ _ (HR0.out) Try.underlying25 rfl (by kernel_rfl) ?_) | (refine wpList_load_row rfl 27 _ rfl _ rfl 27 _ _ _ (HK0.out) Try.underlying27 rfl (by kernel_rfl) ?_) | fail)
    refine (HC.out _ (HT.out.kept HB0.out)).mono ?_
    rintro e w1 ⟨a1, k1, rfl, hb1⟩
    have HB1 := Lib.hid (HB0.out.trans (hb1.mono HB0.out.size))
    have HX2 := Lib.hid (RowAt.new w1 92 (callV (.slice a1 m k1) f h0 h1 h2))
    have HB2 := Lib.hid (HB1.out.alloc HB1.out.size (.cells (callV (.slice a1 m k1) f h0 h1 h2) 92))
    have HG0 := Lib.hid (call_range0 HX2.out)
    have HG1 := Lib.hid (call_range1 HX2.out)
    have HG2 := Lib.hid (call_range2 HX2.out)
    clear hb1 HR0 HK0 HB0 HC HT HB1
    simp only [callV] at HX2 HB2 HG0 HG1 HG2 ⊢
    cases hka : kB r
    · have HKA := Lib.hid hka
      clear hka
      go_wp2_with (first | (refine wpList_store_row rfl 92 _ _ rfl _ _ rfl rfl 92 _ (heap_at _ _ _ (by simp)) (by kernel_rfl) rfl (by kernel_rfl) ?_; rw [setRow_at _ _ _ _ _ (by simp)]) | (go_at_call 79; refine (callKind_any _ _).mono ?_; rintro e2 w2 ⟨rfl, rfl⟩; first | rw [HKA.out] | skip) | fail)
      go_ret2
      exact ⟨rfl, HB2.out⟩
    · have HKB : Hid (kB r2 = false) := Lib.hid (by have := HKK.out; rwa [hka, Bool.true_and] at this)
      have HKA := Lib.hid hka
      clear hka
      go_wp2_with (first | (refine wpList_store_row rfl 92 _ _ rfl _ _ rfl rfl 92 _ (heap_at _ _ _ (by simp)) (by kernel_rfl) rfl (by kernel_rfl) ?_; rw [setRow_at _ _ _ _ _ (by simp)]) | (go_at_call 79; refine (callKind_any _ _).mono ?_; rintro e2 w2 ⟨rfl, rfl⟩; first | rw [HKA.out] | rw [HKB.out]) | fail)
      go_ret2
      exact ⟨rfl, HB2.out⟩

set_option maxRecDepth 100000 in
set_option maxHeartbeats 1000000 in
theorem iSameLead_yes (s : ByteArray) (hs : s.size ≤ maxLen) (n : Nat) (v : Value) (L : List (List Nat)) (b q r r2 : ByteArray) (w : World) (h : Txts w v L) (hl : L.length ≤ 2000000) (hg : goodK s n L b q = true) (hk : kB r = true) (hk2 : kB r2 = true) :
    Calls Try.prog 36 #[.agg #[.string s, .int .i64 n, v], .agg #[.string b, .string q], .string r, .string r2] w fun e w' => e = .returned (.tuple #[.bool (sameK n L b q (kN r) (kN r2)), .bool true]) ∧ Below w.heap.size w w' := by
  obtain ⟨a, cap, rfl, hcap, -⟩ := id h
  have HT := Lib.hid h
  have HR0 := Lib.hid ((RowAt.new w 25 #[.string s, .int .i64 n, .slice a L.length cap]).push (.cells #[.string b, .string q] 27))
  have HK0 : Hid (RowAt ((w.alloc (.cells #[.string s, .int .i64 n, .slice a L.length cap] 25)).alloc (.cells #[.string b, .string q] 27)) (w.heap.size + 1) 27 #[.string b, .string q]) := Lib.hid (by
    have := RowAt.new (w.alloc (.cells #[.string s, .int .i64 n, .slice a L.length cap] 25)) 27 #[.string b, .string q]
    simpa using this)
  have HB0 := Lib.hid (((Below.refl _ w).alloc (Nat.le_refl _) (.cells #[.string s, .int .i64 n, .slice a L.length cap] 25)).alloc (by simp) (.cells #[.string b, .string q] 27))
  have HC := Lib.hid (fun w h => callingOf_yes s hs n (.slice a L.length cap) L b q w h hl hg)
  have HW0 := Lib.hid (isRow_hdK hg 0)
  have HW1 := Lib.hid (isRow_hdK hg 1)
  have HW2 := Lib.hid (isRow_hdK hg 2)
  unfold CallYes at HC
  rcases kB_cases hk with rfl | rfl | rfl
  · rcases kB_cases hk2 with rfl | rfl | rfl
    · have hst := eq8_str HW0.out HW0.out
      rw [show sameK n L b q (kN ⟨#[112]⟩) (kN ⟨#[112]⟩) = ((strOf n (hdK n L b q 0)).toList == (strOf n (hdK n L b q 0)).toList) from rfl, ← hst]
      have heq : ∀ W, (binOp .eql 87 (.agg #[.int .u8 (hdK n L b q 0 0), .int .u8 (hdK n L b q 0 1), .int .u8 (hdK n L b q 0 2), .int .u8 (hdK n L b q 0 3), .int .u8 (hdK n L b q 0 4), .int .u8 (hdK n L b q 0 5), .int .u8 (hdK n L b q 0 6), .int .u8 (hdK n L b q 0 7)]) (.agg #[.int .u8 (hdK n L b q 0 0), .int .u8 (hdK n L b q 0 1), .int .u8 (hdK n L b q 0 2), .int .u8 (hdK n L b q 0 3), .int .u8 (hdK n L b q 0 4), .int .u8 (hdK n L b q 0 5), .int .u8 (hdK n L b q 0 6), .int .u8 (hdK n L b q 0 7)])).run Try.prog W = .ok (.bool _) W := fun W => run_eql_dig8 W (hdK n L b q 0) (hdK n L b q 0) HW0.out.byte HW0.out.byte _ rfl
      clear hst
      generalize hdK n L b q 0 = h0 at *
      generalize hdK n L b q 1 = h1 at *
      generalize hdK n L b q 2 = h2 at *
      generalize ((List.range 8).map (fun i => UInt8.ofNat (h0 i)) == (List.range 8).map (fun i => UInt8.ofNat (h0 i))) = res at *
      generalize rdf n = f at *
      clear h hcap hl hg hk hk2
      generalize L.length = m at *
      go_enter Try.func36, Try.ntmps36
      go_wp2_with (first | (refine wpList_load_row rfl 25 _ rfl _ rfl 25 _ _ _ (HR0.out) Try.underlying25 rfl (by kernel_rfl) ?_) | (refine wpList_load_row rfl 27 _ rfl _ rfl 27 _ _ _ (HK0.out) Try.underlying27 rfl (by kernel_rfl) ?_) | fail)
      refine (HC.out _ (HT.out.kept HB0.out)).mono ?_
      rintro e w1 ⟨a1, k1, rfl, hb1⟩
      have HB1 := Lib.hid (HB0.out.trans (hb1.mono HB0.out.size))
      have HX2 := Lib.hid (RowAt.new w1 92 (callV (.slice a1 m k1) f h0 h1 h2))
      have HB2 := Lib.hid (HB1.out.alloc HB1.out.size (.cells (callV (.slice a1 m k1) f h0 h1 h2) 92))
      have HG0 := Lib.hid (call_range0 HX2.out)
      have HG1 := Lib.hid (call_range1 HX2.out)
      have HG2 := Lib.hid (call_range2 HX2.out)
      clear hb1 HR0 HK0 HB0 HC HT HB1
      simp only [callV] at HX2 HB2 HG0 HG1 HG2 ⊢
      go_wp2_with (first | (refine wpList_store_row rfl 92 _ _ rfl _ _ rfl rfl 92 _ (heap_at _ _ _ (by simp)) (by kernel_rfl) rfl (by kernel_rfl) ?_; rw [setRow_at _ _ _ _ _ (by simp)]) | (go_at_call 79; refine (callKind_any _ _).mono ?_; rintro e2 w2 ⟨rfl, rfl⟩; simp only [kp_1, kp_2, kb_1, kb_2, ks_1, ks_2]) | fail)
      generalize w1.alloc (.cells #[.slice a1 m k1, .int .u8 (f 0), .int .u8 (f 1), .int .u8 (f 2), .int .u8 (f 3), .int .u8 (f 4), .int .u8 (f 5), .int .u8 (f 6), .int .u8 (f 7), .int .u8 (h0 0), .int .u8 (h0 1), .int .u8 (h0 2), .int .u8 (h0 3), .int .u8 (h0 4), .int .u8 (h0 5), .int .u8 (h0 6), .int .u8 (h0 7), .int .u8 (h1 0), .int .u8 (h1 1), .int .u8 (h1 2), .int .u8 (h1 3), .int .u8 (h1 4), .int .u8 (h1 5), .int .u8 (h1 6), .int .u8 (h1 7), .int .u8 (h2 0), .int .u8 (h2 1), .int .u8 (h2 2), .int .u8 (h2 3), .int .u8 (h2 4), .int .u8 (h2 5), .int .u8 (h2 6), .int .u8 (h2 7)] 92) = w3 at *
      have HXA : Hid (∀ W', Below w3.heap.size w3 W' → (W'.cell? ⟨w1.heap.size, 9, none⟩ = some (.int .u8 (h0 0)) ∧ W'.cell? ⟨w1.heap.size, 10, none⟩ = some (.int .u8 (h0 1)) ∧ W'.cell? ⟨w1.heap.size, 11, none⟩ = some (.int .u8 (h0 2)) ∧ W'.cell? ⟨w1.heap.size, 12, none⟩ = some (.int .u8 (h0 3)) ∧ W'.cell? ⟨w1.heap.size, 13, none⟩ = some (.int .u8 (h0 4)) ∧ W'.cell? ⟨w1.heap.size, 14, none⟩ = some (.int .u8 (h0 5)) ∧ W'.cell? ⟨w1.heap.size, 15, none⟩ = some (.int .u8 (h0 6)) ∧ W'.cell? ⟨w1.heap.size, 16, none⟩ = some (.int .u8 (h0 7)) ∧ Below w3.heap.size w3 W')) := Lib.hid (fun W' h => by
        have hr := HX2.out.keep h HX2.out.lt
        exact ⟨hr.cell 9 rfl, hr.cell 10 rfl, hr.cell 11 rfl, hr.cell 12 rfl, hr.cell 13 rfl, hr.cell 14 rfl, hr.cell 15 rfl, hr.cell 16 rfl, h⟩)
      go_region_held3 (fun w' => w'.cell? ⟨w1.heap.size, 9, none⟩ = some (.int .u8 (h0 0)) ∧ w'.cell? ⟨w1.heap.size, 10, none⟩ = some (.int .u8 (h0 1)) ∧ w'.cell? ⟨w1.heap.size, 11, none⟩ = some (.int .u8 (h0 2)) ∧ w'.cell? ⟨w1.heap.size, 12, none⟩ = some (.int .u8 (h0 3)) ∧ w'.cell? ⟨w1.heap.size, 13, none⟩ = some (.int .u8 (h0 4)) ∧ w'.cell? ⟨w1.heap.size, 14, none⟩ = some (.int .u8 (h0 5)) ∧ w'.cell? ⟨w1.heap.size, 15, none⟩ = some (.int .u8 (h0 6)) ∧ w'.cell? ⟨w1.heap.size, 16, none⟩ = some (.int .u8 (h0 7)) ∧ Below w3.heap.size w3 w') (first | assumption | exact HXA.out _ (Below.refl _ _).drew) (first | fail)
      go_wp2
      go_ret2
      exact ⟨rfl, HB2.out.drew⟩
    · have hst := eq8_str HW0.out HW1.out
      rw [show sameK n L b q (kN ⟨#[112]⟩) (kN ⟨#[98]⟩) = ((strOf n (hdK n L b q 0)).toList == (strOf n (hdK n L b q 1)).toList) from rfl, ← hst]
      have heq : ∀ W, (binOp .eql 87 (.agg #[.int .u8 (hdK n L b q 0 0), .int .u8 (hdK n L b q 0 1), .int .u8 (hdK n L b q 0 2), .int .u8 (hdK n L b q 0 3), .int .u8 (hdK n L b q 0 4), .int .u8 (hdK n L b q 0 5), .int .u8 (hdK n L b q 0 6), .int .u8 (hdK n L b q 0 7)]) (.agg #[.int .u8 (hdK n L b q 1 0), .int .u8 (hdK n L b q 1 1), .int .u8 (hdK n L b q 1 2), .int .u8 (hdK n L b q 1 3), .int .u8 (hdK n L b q 1 4), .int .u8 (hdK n L b q 1 5), .int .u8 (hdK n L b q 1 6), .int .u8 (hdK n L b q 1 7)])).run Try.prog W = .ok (.bool _) W := fun W => run_eql_dig8 W (hdK n L b q 0) (hdK n L b q 1) HW0.out.byte HW1.out.byte _ rfl
      clear hst
      generalize hdK n L b q 0 = h0 at *
      generalize hdK n L b q 1 = h1 at *
      generalize hdK n L b q 2 = h2 at *
      generalize ((List.range 8).map (fun i => UInt8.ofNat (h0 i)) == (List.range 8).map (fun i => UInt8.ofNat (h1 i))) = res at *
      generalize rdf n = f at *
      clear h hcap hl hg hk hk2
      generalize L.length = m at *
      go_enter Try.func36, Try.ntmps36
      go_wp2_with (first | (refine wpList_load_row rfl 25 _ rfl _ rfl 25 _ _ _ (HR0.out) Try.underlying25 rfl (by kernel_rfl) ?_) | (refine wpList_load_row rfl 27 _ rfl _ rfl 27 _ _ _ (HK0.out) Try.underlying27 rfl (by kernel_rfl) ?_) | fail)
      refine (HC.out _ (HT.out.kept HB0.out)).mono ?_
      rintro e w1 ⟨a1, k1, rfl, hb1⟩
      have HB1 := Lib.hid (HB0.out.trans (hb1.mono HB0.out.size))
      have HX2 := Lib.hid (RowAt.new w1 92 (callV (.slice a1 m k1) f h0 h1 h2))
      have HB2 := Lib.hid (HB1.out.alloc HB1.out.size (.cells (callV (.slice a1 m k1) f h0 h1 h2) 92))
      have HG0 := Lib.hid (call_range0 HX2.out)
      have HG1 := Lib.hid (call_range1 HX2.out)
      have HG2 := Lib.hid (call_range2 HX2.out)
      clear hb1 HR0 HK0 HB0 HC HT HB1
      simp only [callV] at HX2 HB2 HG0 HG1 HG2 ⊢
      go_wp2_with (first | (refine wpList_store_row rfl 92 _ _ rfl _ _ rfl rfl 92 _ (heap_at _ _ _ (by simp)) (by kernel_rfl) rfl (by kernel_rfl) ?_; rw [setRow_at _ _ _ _ _ (by simp)]) | (go_at_call 79; refine (callKind_any _ _).mono ?_; rintro e2 w2 ⟨rfl, rfl⟩; simp only [kp_1, kp_2, kb_1, kb_2, ks_1, ks_2]) | fail)
      generalize w1.alloc (.cells #[.slice a1 m k1, .int .u8 (f 0), .int .u8 (f 1), .int .u8 (f 2), .int .u8 (f 3), .int .u8 (f 4), .int .u8 (f 5), .int .u8 (f 6), .int .u8 (f 7), .int .u8 (h0 0), .int .u8 (h0 1), .int .u8 (h0 2), .int .u8 (h0 3), .int .u8 (h0 4), .int .u8 (h0 5), .int .u8 (h0 6), .int .u8 (h0 7), .int .u8 (h1 0), .int .u8 (h1 1), .int .u8 (h1 2), .int .u8 (h1 3), .int .u8 (h1 4), .int .u8 (h1 5), .int .u8 (h1 6), .int .u8 (h1 7), .int .u8 (h2 0), .int .u8 (h2 1), .int .u8 (h2 2), .int .u8 (h2 3), .int .u8 (h2 4), .int .u8 (h2 5), .int .u8 (h2 6), .int .u8 (h2 7)] 92) = w3 at *
      have HXA : Hid (∀ W', Below w3.heap.size w3 W' → (W'.cell? ⟨w1.heap.size, 9, none⟩ = some (.int .u8 (h0 0)) ∧ W'.cell? ⟨w1.heap.size, 10, none⟩ = some (.int .u8 (h0 1)) ∧ W'.cell? ⟨w1.heap.size, 11, none⟩ = some (.int .u8 (h0 2)) ∧ W'.cell? ⟨w1.heap.size, 12, none⟩ = some (.int .u8 (h0 3)) ∧ W'.cell? ⟨w1.heap.size, 13, none⟩ = some (.int .u8 (h0 4)) ∧ W'.cell? ⟨w1.heap.size, 14, none⟩ = some (.int .u8 (h0 5)) ∧ W'.cell? ⟨w1.heap.size, 15, none⟩ = some (.int .u8 (h0 6)) ∧ W'.cell? ⟨w1.heap.size, 16, none⟩ = some (.int .u8 (h0 7)) ∧ W'.cell? ⟨w1.heap.size, 17, none⟩ = some (.int .u8 (h1 0)) ∧ W'.cell? ⟨w1.heap.size, 18, none⟩ = some (.int .u8 (h1 1)) ∧ W'.cell? ⟨w1.heap.size, 19, none⟩ = some (.int .u8 (h1 2)) ∧ W'.cell? ⟨w1.heap.size, 20, none⟩ = some (.int .u8 (h1 3)) ∧ W'.cell? ⟨w1.heap.size, 21, none⟩ = some (.int .u8 (h1 4)) ∧ W'.cell? ⟨w1.heap.size, 22, none⟩ = some (.int .u8 (h1 5)) ∧ W'.cell? ⟨w1.heap.size, 23, none⟩ = some (.int .u8 (h1 6)) ∧ W'.cell? ⟨w1.heap.size, 24, none⟩ = some (.int .u8 (h1 7)) ∧ Below w3.heap.size w3 W')) := Lib.hid (fun W' h => by
        have hr := HX2.out.keep h HX2.out.lt
        exact ⟨hr.cell 9 rfl, hr.cell 10 rfl, hr.cell 11 rfl, hr.cell 12 rfl, hr.cell 13 rfl, hr.cell 14 rfl, hr.cell 15 rfl, hr.cell 16 rfl, hr.cell 17 rfl, hr.cell 18 rfl, hr.cell 19 rfl, hr.cell 20 rfl, hr.cell 21 rfl, hr.cell 22 rfl, hr.cell 23 rfl, hr.cell 24 rfl, h⟩)
      go_region_held3 (fun w' => w'.cell? ⟨w1.heap.size, 9, none⟩ = some (.int .u8 (h0 0)) ∧ w'.cell? ⟨w1.heap.size, 10, none⟩ = some (.int .u8 (h0 1)) ∧ w'.cell? ⟨w1.heap.size, 11, none⟩ = some (.int .u8 (h0 2)) ∧ w'.cell? ⟨w1.heap.size, 12, none⟩ = some (.int .u8 (h0 3)) ∧ w'.cell? ⟨w1.heap.size, 13, none⟩ = some (.int .u8 (h0 4)) ∧ w'.cell? ⟨w1.heap.size, 14, none⟩ = some (.int .u8 (h0 5)) ∧ w'.cell? ⟨w1.heap.size, 15, none⟩ = some (.int .u8 (h0 6)) ∧ w'.cell? ⟨w1.heap.size, 16, none⟩ = some (.int .u8 (h0 7)) ∧ w'.cell? ⟨w1.heap.size, 17, none⟩ = some (.int .u8 (h1 0)) ∧ w'.cell? ⟨w1.heap.size, 18, none⟩ = some (.int .u8 (h1 1)) ∧ w'.cell? ⟨w1.heap.size, 19, none⟩ = some (.int .u8 (h1 2)) ∧ w'.cell? ⟨w1.heap.size, 20, none⟩ = some (.int .u8 (h1 3)) ∧ w'.cell? ⟨w1.heap.size, 21, none⟩ = some (.int .u8 (h1 4)) ∧ w'.cell? ⟨w1.heap.size, 22, none⟩ = some (.int .u8 (h1 5)) ∧ w'.cell? ⟨w1.heap.size, 23, none⟩ = some (.int .u8 (h1 6)) ∧ w'.cell? ⟨w1.heap.size, 24, none⟩ = some (.int .u8 (h1 7)) ∧ Below w3.heap.size w3 w') (first | assumption | exact HXA.out _ (Below.refl _ _).drew) (first | fail)
      go_wp2
      go_ret2
      exact ⟨rfl, HB2.out.drew⟩
    · have hst := eq8_str HW0.out HW2.out
      rw [show sameK n L b q (kN ⟨#[112]⟩) (kN ⟨#[115]⟩) = ((strOf n (hdK n L b q 0)).toList == (strOf n (hdK n L b q 2)).toList) from rfl, ← hst]
      have heq : ∀ W, (binOp .eql 87 (.agg #[.int .u8 (hdK n L b q 0 0), .int .u8 (hdK n L b q 0 1), .int .u8 (hdK n L b q 0 2), .int .u8 (hdK n L b q 0 3), .int .u8 (hdK n L b q 0 4), .int .u8 (hdK n L b q 0 5), .int .u8 (hdK n L b q 0 6), .int .u8 (hdK n L b q 0 7)]) (.agg #[.int .u8 (hdK n L b q 2 0), .int .u8 (hdK n L b q 2 1), .int .u8 (hdK n L b q 2 2), .int .u8 (hdK n L b q 2 3), .int .u8 (hdK n L b q 2 4), .int .u8 (hdK n L b q 2 5), .int .u8 (hdK n L b q 2 6), .int .u8 (hdK n L b q 2 7)])).run Try.prog W = .ok (.bool _) W := fun W => run_eql_dig8 W (hdK n L b q 0) (hdK n L b q 2) HW0.out.byte HW2.out.byte _ rfl
      clear hst
      generalize hdK n L b q 0 = h0 at *
      generalize hdK n L b q 1 = h1 at *
      generalize hdK n L b q 2 = h2 at *
      generalize ((List.range 8).map (fun i => UInt8.ofNat (h0 i)) == (List.range 8).map (fun i => UInt8.ofNat (h2 i))) = res at *
      generalize rdf n = f at *
      clear h hcap hl hg hk hk2
      generalize L.length = m at *
      go_enter Try.func36, Try.ntmps36
      go_wp2_with (first | (refine wpList_load_row rfl 25 _ rfl _ rfl 25 _ _ _ (HR0.out) Try.underlying25 rfl (by kernel_rfl) ?_) | (refine wpList_load_row rfl 27 _ rfl _ rfl 27 _ _ _ (HK0.out) Try.underlying27 rfl (by kernel_rfl) ?_) | fail)
      refine (HC.out _ (HT.out.kept HB0.out)).mono ?_
      rintro e w1 ⟨a1, k1, rfl, hb1⟩
      have HB1 := Lib.hid (HB0.out.trans (hb1.mono HB0.out.size))
      have HX2 := Lib.hid (RowAt.new w1 92 (callV (.slice a1 m k1) f h0 h1 h2))
      have HB2 := Lib.hid (HB1.out.alloc HB1.out.size (.cells (callV (.slice a1 m k1) f h0 h1 h2) 92))
      have HG0 := Lib.hid (call_range0 HX2.out)
      have HG1 := Lib.hid (call_range1 HX2.out)
      have HG2 := Lib.hid (call_range2 HX2.out)
      clear hb1 HR0 HK0 HB0 HC HT HB1
      simp only [callV] at HX2 HB2 HG0 HG1 HG2 ⊢
      go_wp2_with (first | (refine wpList_store_row rfl 92 _ _ rfl _ _ rfl rfl 92 _ (heap_at _ _ _ (by simp)) (by kernel_rfl) rfl (by kernel_rfl) ?_; rw [setRow_at _ _ _ _ _ (by simp)]) | (go_at_call 79; refine (callKind_any _ _).mono ?_; rintro e2 w2 ⟨rfl, rfl⟩; simp only [kp_1, kp_2, kb_1, kb_2, ks_1, ks_2]) | fail)
      generalize w1.alloc (.cells #[.slice a1 m k1, .int .u8 (f 0), .int .u8 (f 1), .int .u8 (f 2), .int .u8 (f 3), .int .u8 (f 4), .int .u8 (f 5), .int .u8 (f 6), .int .u8 (f 7), .int .u8 (h0 0), .int .u8 (h0 1), .int .u8 (h0 2), .int .u8 (h0 3), .int .u8 (h0 4), .int .u8 (h0 5), .int .u8 (h0 6), .int .u8 (h0 7), .int .u8 (h1 0), .int .u8 (h1 1), .int .u8 (h1 2), .int .u8 (h1 3), .int .u8 (h1 4), .int .u8 (h1 5), .int .u8 (h1 6), .int .u8 (h1 7), .int .u8 (h2 0), .int .u8 (h2 1), .int .u8 (h2 2), .int .u8 (h2 3), .int .u8 (h2 4), .int .u8 (h2 5), .int .u8 (h2 6), .int .u8 (h2 7)] 92) = w3 at *
      have HXA : Hid (∀ W', Below w3.heap.size w3 W' → (W'.cell? ⟨w1.heap.size, 9, none⟩ = some (.int .u8 (h0 0)) ∧ W'.cell? ⟨w1.heap.size, 10, none⟩ = some (.int .u8 (h0 1)) ∧ W'.cell? ⟨w1.heap.size, 11, none⟩ = some (.int .u8 (h0 2)) ∧ W'.cell? ⟨w1.heap.size, 12, none⟩ = some (.int .u8 (h0 3)) ∧ W'.cell? ⟨w1.heap.size, 13, none⟩ = some (.int .u8 (h0 4)) ∧ W'.cell? ⟨w1.heap.size, 14, none⟩ = some (.int .u8 (h0 5)) ∧ W'.cell? ⟨w1.heap.size, 15, none⟩ = some (.int .u8 (h0 6)) ∧ W'.cell? ⟨w1.heap.size, 16, none⟩ = some (.int .u8 (h0 7)) ∧ W'.cell? ⟨w1.heap.size, 25, none⟩ = some (.int .u8 (h2 0)) ∧ W'.cell? ⟨w1.heap.size, 26, none⟩ = some (.int .u8 (h2 1)) ∧ W'.cell? ⟨w1.heap.size, 27, none⟩ = some (.int .u8 (h2 2)) ∧ W'.cell? ⟨w1.heap.size, 28, none⟩ = some (.int .u8 (h2 3)) ∧ W'.cell? ⟨w1.heap.size, 29, none⟩ = some (.int .u8 (h2 4)) ∧ W'.cell? ⟨w1.heap.size, 30, none⟩ = some (.int .u8 (h2 5)) ∧ W'.cell? ⟨w1.heap.size, 31, none⟩ = some (.int .u8 (h2 6)) ∧ W'.cell? ⟨w1.heap.size, 32, none⟩ = some (.int .u8 (h2 7)) ∧ Below w3.heap.size w3 W')) := Lib.hid (fun W' h => by
        have hr := HX2.out.keep h HX2.out.lt
        exact ⟨hr.cell 9 rfl, hr.cell 10 rfl, hr.cell 11 rfl, hr.cell 12 rfl, hr.cell 13 rfl, hr.cell 14 rfl, hr.cell 15 rfl, hr.cell 16 rfl, hr.cell 25 rfl, hr.cell 26 rfl, hr.cell 27 rfl, hr.cell 28 rfl, hr.cell 29 rfl, hr.cell 30 rfl, hr.cell 31 rfl, hr.cell 32 rfl, h⟩)
      go_region_held3 (fun w' => w'.cell? ⟨w1.heap.size, 9, none⟩ = some (.int .u8 (h0 0)) ∧ w'.cell? ⟨w1.heap.size, 10, none⟩ = some (.int .u8 (h0 1)) ∧ w'.cell? ⟨w1.heap.size, 11, none⟩ = some (.int .u8 (h0 2)) ∧ w'.cell? ⟨w1.heap.size, 12, none⟩ = some (.int .u8 (h0 3)) ∧ w'.cell? ⟨w1.heap.size, 13, none⟩ = some (.int .u8 (h0 4)) ∧ w'.cell? ⟨w1.heap.size, 14, none⟩ = some (.int .u8 (h0 5)) ∧ w'.cell? ⟨w1.heap.size, 15, none⟩ = some (.int .u8 (h0 6)) ∧ w'.cell? ⟨w1.heap.size, 16, none⟩ = some (.int .u8 (h0 7)) ∧ w'.cell? ⟨w1.heap.size, 25, none⟩ = some (.int .u8 (h2 0)) ∧ w'.cell? ⟨w1.heap.size, 26, none⟩ = some (.int .u8 (h2 1)) ∧ w'.cell? ⟨w1.heap.size, 27, none⟩ = some (.int .u8 (h2 2)) ∧ w'.cell? ⟨w1.heap.size, 28, none⟩ = some (.int .u8 (h2 3)) ∧ w'.cell? ⟨w1.heap.size, 29, none⟩ = some (.int .u8 (h2 4)) ∧ w'.cell? ⟨w1.heap.size, 30, none⟩ = some (.int .u8 (h2 5)) ∧ w'.cell? ⟨w1.heap.size, 31, none⟩ = some (.int .u8 (h2 6)) ∧ w'.cell? ⟨w1.heap.size, 32, none⟩ = some (.int .u8 (h2 7)) ∧ Below w3.heap.size w3 w') (first | assumption | exact HXA.out _ (Below.refl _ _).drew) (first | fail)
      go_wp2
      go_ret2
      exact ⟨rfl, HB2.out.drew⟩
  · rcases kB_cases hk2 with rfl | rfl | rfl
    · have hst := eq8_str HW1.out HW0.out
      rw [show sameK n L b q (kN ⟨#[98]⟩) (kN ⟨#[112]⟩) = ((strOf n (hdK n L b q 1)).toList == (strOf n (hdK n L b q 0)).toList) from rfl, ← hst]
      have heq : ∀ W, (binOp .eql 87 (.agg #[.int .u8 (hdK n L b q 1 0), .int .u8 (hdK n L b q 1 1), .int .u8 (hdK n L b q 1 2), .int .u8 (hdK n L b q 1 3), .int .u8 (hdK n L b q 1 4), .int .u8 (hdK n L b q 1 5), .int .u8 (hdK n L b q 1 6), .int .u8 (hdK n L b q 1 7)]) (.agg #[.int .u8 (hdK n L b q 0 0), .int .u8 (hdK n L b q 0 1), .int .u8 (hdK n L b q 0 2), .int .u8 (hdK n L b q 0 3), .int .u8 (hdK n L b q 0 4), .int .u8 (hdK n L b q 0 5), .int .u8 (hdK n L b q 0 6), .int .u8 (hdK n L b q 0 7)])).run Try.prog W = .ok (.bool _) W := fun W => run_eql_dig8 W (hdK n L b q 1) (hdK n L b q 0) HW1.out.byte HW0.out.byte _ rfl
      clear hst
      generalize hdK n L b q 0 = h0 at *
      generalize hdK n L b q 1 = h1 at *
      generalize hdK n L b q 2 = h2 at *
      generalize ((List.range 8).map (fun i => UInt8.ofNat (h1 i)) == (List.range 8).map (fun i => UInt8.ofNat (h0 i))) = res at *
      generalize rdf n = f at *
      clear h hcap hl hg hk hk2
      generalize L.length = m at *
      go_enter Try.func36, Try.ntmps36
      go_wp2_with (first | (refine wpList_load_row rfl 25 _ rfl _ rfl 25 _ _ _ (HR0.out) Try.underlying25 rfl (by kernel_rfl) ?_) | (refine wpList_load_row rfl 27 _ rfl _ rfl 27 _ _ _ (HK0.out) Try.underlying27 rfl (by kernel_rfl) ?_) | fail)
      refine (HC.out _ (HT.out.kept HB0.out)).mono ?_
      rintro e w1 ⟨a1, k1, rfl, hb1⟩
      have HB1 := Lib.hid (HB0.out.trans (hb1.mono HB0.out.size))
      have HX2 := Lib.hid (RowAt.new w1 92 (callV (.slice a1 m k1) f h0 h1 h2))
      have HB2 := Lib.hid (HB1.out.alloc HB1.out.size (.cells (callV (.slice a1 m k1) f h0 h1 h2) 92))
      have HG0 := Lib.hid (call_range0 HX2.out)
      have HG1 := Lib.hid (call_range1 HX2.out)
      have HG2 := Lib.hid (call_range2 HX2.out)
      clear hb1 HR0 HK0 HB0 HC HT HB1
      simp only [callV] at HX2 HB2 HG0 HG1 HG2 ⊢
      go_wp2_with (first | (refine wpList_store_row rfl 92 _ _ rfl _ _ rfl rfl 92 _ (heap_at _ _ _ (by simp)) (by kernel_rfl) rfl (by kernel_rfl) ?_; rw [setRow_at _ _ _ _ _ (by simp)]) | (go_at_call 79; refine (callKind_any _ _).mono ?_; rintro e2 w2 ⟨rfl, rfl⟩; simp only [kp_1, kp_2, kb_1, kb_2, ks_1, ks_2]) | fail)
      generalize w1.alloc (.cells #[.slice a1 m k1, .int .u8 (f 0), .int .u8 (f 1), .int .u8 (f 2), .int .u8 (f 3), .int .u8 (f 4), .int .u8 (f 5), .int .u8 (f 6), .int .u8 (f 7), .int .u8 (h0 0), .int .u8 (h0 1), .int .u8 (h0 2), .int .u8 (h0 3), .int .u8 (h0 4), .int .u8 (h0 5), .int .u8 (h0 6), .int .u8 (h0 7), .int .u8 (h1 0), .int .u8 (h1 1), .int .u8 (h1 2), .int .u8 (h1 3), .int .u8 (h1 4), .int .u8 (h1 5), .int .u8 (h1 6), .int .u8 (h1 7), .int .u8 (h2 0), .int .u8 (h2 1), .int .u8 (h2 2), .int .u8 (h2 3), .int .u8 (h2 4), .int .u8 (h2 5), .int .u8 (h2 6), .int .u8 (h2 7)] 92) = w3 at *
      have HXA : Hid (∀ W', Below w3.heap.size w3 W' → (W'.cell? ⟨w1.heap.size, 9, none⟩ = some (.int .u8 (h0 0)) ∧ W'.cell? ⟨w1.heap.size, 10, none⟩ = some (.int .u8 (h0 1)) ∧ W'.cell? ⟨w1.heap.size, 11, none⟩ = some (.int .u8 (h0 2)) ∧ W'.cell? ⟨w1.heap.size, 12, none⟩ = some (.int .u8 (h0 3)) ∧ W'.cell? ⟨w1.heap.size, 13, none⟩ = some (.int .u8 (h0 4)) ∧ W'.cell? ⟨w1.heap.size, 14, none⟩ = some (.int .u8 (h0 5)) ∧ W'.cell? ⟨w1.heap.size, 15, none⟩ = some (.int .u8 (h0 6)) ∧ W'.cell? ⟨w1.heap.size, 16, none⟩ = some (.int .u8 (h0 7)) ∧ W'.cell? ⟨w1.heap.size, 17, none⟩ = some (.int .u8 (h1 0)) ∧ W'.cell? ⟨w1.heap.size, 18, none⟩ = some (.int .u8 (h1 1)) ∧ W'.cell? ⟨w1.heap.size, 19, none⟩ = some (.int .u8 (h1 2)) ∧ W'.cell? ⟨w1.heap.size, 20, none⟩ = some (.int .u8 (h1 3)) ∧ W'.cell? ⟨w1.heap.size, 21, none⟩ = some (.int .u8 (h1 4)) ∧ W'.cell? ⟨w1.heap.size, 22, none⟩ = some (.int .u8 (h1 5)) ∧ W'.cell? ⟨w1.heap.size, 23, none⟩ = some (.int .u8 (h1 6)) ∧ W'.cell? ⟨w1.heap.size, 24, none⟩ = some (.int .u8 (h1 7)) ∧ Below w3.heap.size w3 W')) := Lib.hid (fun W' h => by
        have hr := HX2.out.keep h HX2.out.lt
        exact ⟨hr.cell 9 rfl, hr.cell 10 rfl, hr.cell 11 rfl, hr.cell 12 rfl, hr.cell 13 rfl, hr.cell 14 rfl, hr.cell 15 rfl, hr.cell 16 rfl, hr.cell 17 rfl, hr.cell 18 rfl, hr.cell 19 rfl, hr.cell 20 rfl, hr.cell 21 rfl, hr.cell 22 rfl, hr.cell 23 rfl, hr.cell 24 rfl, h⟩)
      go_region_held3 (fun w' => w'.cell? ⟨w1.heap.size, 9, none⟩ = some (.int .u8 (h0 0)) ∧ w'.cell? ⟨w1.heap.size, 10, none⟩ = some (.int .u8 (h0 1)) ∧ w'.cell? ⟨w1.heap.size, 11, none⟩ = some (.int .u8 (h0 2)) ∧ w'.cell? ⟨w1.heap.size, 12, none⟩ = some (.int .u8 (h0 3)) ∧ w'.cell? ⟨w1.heap.size, 13, none⟩ = some (.int .u8 (h0 4)) ∧ w'.cell? ⟨w1.heap.size, 14, none⟩ = some (.int .u8 (h0 5)) ∧ w'.cell? ⟨w1.heap.size, 15, none⟩ = some (.int .u8 (h0 6)) ∧ w'.cell? ⟨w1.heap.size, 16, none⟩ = some (.int .u8 (h0 7)) ∧ w'.cell? ⟨w1.heap.size, 17, none⟩ = some (.int .u8 (h1 0)) ∧ w'.cell? ⟨w1.heap.size, 18, none⟩ = some (.int .u8 (h1 1)) ∧ w'.cell? ⟨w1.heap.size, 19, none⟩ = some (.int .u8 (h1 2)) ∧ w'.cell? ⟨w1.heap.size, 20, none⟩ = some (.int .u8 (h1 3)) ∧ w'.cell? ⟨w1.heap.size, 21, none⟩ = some (.int .u8 (h1 4)) ∧ w'.cell? ⟨w1.heap.size, 22, none⟩ = some (.int .u8 (h1 5)) ∧ w'.cell? ⟨w1.heap.size, 23, none⟩ = some (.int .u8 (h1 6)) ∧ w'.cell? ⟨w1.heap.size, 24, none⟩ = some (.int .u8 (h1 7)) ∧ Below w3.heap.size w3 w') (first | assumption | exact HXA.out _ (Below.refl _ _).drew) (first | fail)
      go_wp2
      go_ret2
      exact ⟨rfl, HB2.out.drew⟩
    · have hst := eq8_str HW1.out HW1.out
      rw [show sameK n L b q (kN ⟨#[98]⟩) (kN ⟨#[98]⟩) = ((strOf n (hdK n L b q 1)).toList == (strOf n (hdK n L b q 1)).toList) from rfl, ← hst]
      have heq : ∀ W, (binOp .eql 87 (.agg #[.int .u8 (hdK n L b q 1 0), .int .u8 (hdK n L b q 1 1), .int .u8 (hdK n L b q 1 2), .int .u8 (hdK n L b q 1 3), .int .u8 (hdK n L b q 1 4), .int .u8 (hdK n L b q 1 5), .int .u8 (hdK n L b q 1 6), .int .u8 (hdK n L b q 1 7)]) (.agg #[.int .u8 (hdK n L b q 1 0), .int .u8 (hdK n L b q 1 1), .int .u8 (hdK n L b q 1 2), .int .u8 (hdK n L b q 1 3), .int .u8 (hdK n L b q 1 4), .int .u8 (hdK n L b q 1 5), .int .u8 (hdK n L b q 1 6), .int .u8 (hdK n L b q 1 7)])).run Try.prog W = .ok (.bool _) W := fun W => run_eql_dig8 W (hdK n L b q 1) (hdK n L b q 1) HW1.out.byte HW1.out.byte _ rfl
      clear hst
      generalize hdK n L b q 0 = h0 at *
      generalize hdK n L b q 1 = h1 at *
      generalize hdK n L b q 2 = h2 at *
      generalize ((List.range 8).map (fun i => UInt8.ofNat (h1 i)) == (List.range 8).map (fun i => UInt8.ofNat (h1 i))) = res at *
      generalize rdf n = f at *
      clear h hcap hl hg hk hk2
      generalize L.length = m at *
      go_enter Try.func36, Try.ntmps36
      go_wp2_with (first | (refine wpList_load_row rfl 25 _ rfl _ rfl 25 _ _ _ (HR0.out) Try.underlying25 rfl (by kernel_rfl) ?_) | (refine wpList_load_row rfl 27 _ rfl _ rfl 27 _ _ _ (HK0.out) Try.underlying27 rfl (by kernel_rfl) ?_) | fail)
      refine (HC.out _ (HT.out.kept HB0.out)).mono ?_
      rintro e w1 ⟨a1, k1, rfl, hb1⟩
      have HB1 := Lib.hid (HB0.out.trans (hb1.mono HB0.out.size))
      have HX2 := Lib.hid (RowAt.new w1 92 (callV (.slice a1 m k1) f h0 h1 h2))
      have HB2 := Lib.hid (HB1.out.alloc HB1.out.size (.cells (callV (.slice a1 m k1) f h0 h1 h2) 92))
      have HG0 := Lib.hid (call_range0 HX2.out)
      have HG1 := Lib.hid (call_range1 HX2.out)
      have HG2 := Lib.hid (call_range2 HX2.out)
      clear hb1 HR0 HK0 HB0 HC HT HB1
      simp only [callV] at HX2 HB2 HG0 HG1 HG2 ⊢
      go_wp2_with (first | (refine wpList_store_row rfl 92 _ _ rfl _ _ rfl rfl 92 _ (heap_at _ _ _ (by simp)) (by kernel_rfl) rfl (by kernel_rfl) ?_; rw [setRow_at _ _ _ _ _ (by simp)]) | (go_at_call 79; refine (callKind_any _ _).mono ?_; rintro e2 w2 ⟨rfl, rfl⟩; simp only [kp_1, kp_2, kb_1, kb_2, ks_1, ks_2]) | fail)
      generalize w1.alloc (.cells #[.slice a1 m k1, .int .u8 (f 0), .int .u8 (f 1), .int .u8 (f 2), .int .u8 (f 3), .int .u8 (f 4), .int .u8 (f 5), .int .u8 (f 6), .int .u8 (f 7), .int .u8 (h0 0), .int .u8 (h0 1), .int .u8 (h0 2), .int .u8 (h0 3), .int .u8 (h0 4), .int .u8 (h0 5), .int .u8 (h0 6), .int .u8 (h0 7), .int .u8 (h1 0), .int .u8 (h1 1), .int .u8 (h1 2), .int .u8 (h1 3), .int .u8 (h1 4), .int .u8 (h1 5), .int .u8 (h1 6), .int .u8 (h1 7), .int .u8 (h2 0), .int .u8 (h2 1), .int .u8 (h2 2), .int .u8 (h2 3), .int .u8 (h2 4), .int .u8 (h2 5), .int .u8 (h2 6), .int .u8 (h2 7)] 92) = w3 at *
      have HXA : Hid (∀ W', Below w3.heap.size w3 W' → (W'.cell? ⟨w1.heap.size, 17, none⟩ = some (.int .u8 (h1 0)) ∧ W'.cell? ⟨w1.heap.size, 18, none⟩ = some (.int .u8 (h1 1)) ∧ W'.cell? ⟨w1.heap.size, 19, none⟩ = some (.int .u8 (h1 2)) ∧ W'.cell? ⟨w1.heap.size, 20, none⟩ = some (.int .u8 (h1 3)) ∧ W'.cell? ⟨w1.heap.size, 21, none⟩ = some (.int .u8 (h1 4)) ∧ W'.cell? ⟨w1.heap.size, 22, none⟩ = some (.int .u8 (h1 5)) ∧ W'.cell? ⟨w1.heap.size, 23, none⟩ = some (.int .u8 (h1 6)) ∧ W'.cell? ⟨w1.heap.size, 24, none⟩ = some (.int .u8 (h1 7)) ∧ Below w3.heap.size w3 W')) := Lib.hid (fun W' h => by
        have hr := HX2.out.keep h HX2.out.lt
        exact ⟨hr.cell 17 rfl, hr.cell 18 rfl, hr.cell 19 rfl, hr.cell 20 rfl, hr.cell 21 rfl, hr.cell 22 rfl, hr.cell 23 rfl, hr.cell 24 rfl, h⟩)
      go_region_held3 (fun w' => w'.cell? ⟨w1.heap.size, 17, none⟩ = some (.int .u8 (h1 0)) ∧ w'.cell? ⟨w1.heap.size, 18, none⟩ = some (.int .u8 (h1 1)) ∧ w'.cell? ⟨w1.heap.size, 19, none⟩ = some (.int .u8 (h1 2)) ∧ w'.cell? ⟨w1.heap.size, 20, none⟩ = some (.int .u8 (h1 3)) ∧ w'.cell? ⟨w1.heap.size, 21, none⟩ = some (.int .u8 (h1 4)) ∧ w'.cell? ⟨w1.heap.size, 22, none⟩ = some (.int .u8 (h1 5)) ∧ w'.cell? ⟨w1.heap.size, 23, none⟩ = some (.int .u8 (h1 6)) ∧ w'.cell? ⟨w1.heap.size, 24, none⟩ = some (.int .u8 (h1 7)) ∧ Below w3.heap.size w3 w') (first | assumption | exact HXA.out _ (Below.refl _ _).drew) (first | fail)
      go_wp2
      go_ret2
      exact ⟨rfl, HB2.out.drew⟩
    · have hst := eq8_str HW1.out HW2.out
      rw [show sameK n L b q (kN ⟨#[98]⟩) (kN ⟨#[115]⟩) = ((strOf n (hdK n L b q 1)).toList == (strOf n (hdK n L b q 2)).toList) from rfl, ← hst]
      have heq : ∀ W, (binOp .eql 87 (.agg #[.int .u8 (hdK n L b q 1 0), .int .u8 (hdK n L b q 1 1), .int .u8 (hdK n L b q 1 2), .int .u8 (hdK n L b q 1 3), .int .u8 (hdK n L b q 1 4), .int .u8 (hdK n L b q 1 5), .int .u8 (hdK n L b q 1 6), .int .u8 (hdK n L b q 1 7)]) (.agg #[.int .u8 (hdK n L b q 2 0), .int .u8 (hdK n L b q 2 1), .int .u8 (hdK n L b q 2 2), .int .u8 (hdK n L b q 2 3), .int .u8 (hdK n L b q 2 4), .int .u8 (hdK n L b q 2 5), .int .u8 (hdK n L b q 2 6), .int .u8 (hdK n L b q 2 7)])).run Try.prog W = .ok (.bool _) W := fun W => run_eql_dig8 W (hdK n L b q 1) (hdK n L b q 2) HW1.out.byte HW2.out.byte _ rfl
      clear hst
      generalize hdK n L b q 0 = h0 at *
      generalize hdK n L b q 1 = h1 at *
      generalize hdK n L b q 2 = h2 at *
      generalize ((List.range 8).map (fun i => UInt8.ofNat (h1 i)) == (List.range 8).map (fun i => UInt8.ofNat (h2 i))) = res at *
      generalize rdf n = f at *
      clear h hcap hl hg hk hk2
      generalize L.length = m at *
      go_enter Try.func36, Try.ntmps36
      go_wp2_with (first | (refine wpList_load_row rfl 25 _ rfl _ rfl 25 _ _ _ (HR0.out) Try.underlying25 rfl (by kernel_rfl) ?_) | (refine wpList_load_row rfl 27 _ rfl _ rfl 27 _ _ _ (HK0.out) Try.underlying27 rfl (by kernel_rfl) ?_) | fail)
      refine (HC.out _ (HT.out.kept HB0.out)).mono ?_
      rintro e w1 ⟨a1, k1, rfl, hb1⟩
      have HB1 := Lib.hid (HB0.out.trans (hb1.mono HB0.out.size))
      have HX2 := Lib.hid (RowAt.new w1 92 (callV (.slice a1 m k1) f h0 h1 h2))
      have HB2 := Lib.hid (HB1.out.alloc HB1.out.size (.cells (callV (.slice a1 m k1) f h0 h1 h2) 92))
      have HG0 := Lib.hid (call_range0 HX2.out)
      have HG1 := Lib.hid (call_range1 HX2.out)
      have HG2 := Lib.hid (call_range2 HX2.out)
      clear hb1 HR0 HK0 HB0 HC HT HB1
      simp only [callV] at HX2 HB2 HG0 HG1 HG2 ⊢
      go_wp2_with (first | (refine wpList_store_row rfl 92 _ _ rfl _ _ rfl rfl 92 _ (heap_at _ _ _ (by simp)) (by kernel_rfl) rfl (by kernel_rfl) ?_; rw [setRow_at _ _ _ _ _ (by simp)]) | (go_at_call 79; refine (callKind_any _ _).mono ?_; rintro e2 w2 ⟨rfl, rfl⟩; simp only [kp_1, kp_2, kb_1, kb_2, ks_1, ks_2]) | fail)
      generalize w1.alloc (.cells #[.slice a1 m k1, .int .u8 (f 0), .int .u8 (f 1), .int .u8 (f 2), .int .u8 (f 3), .int .u8 (f 4), .int .u8 (f 5), .int .u8 (f 6), .int .u8 (f 7), .int .u8 (h0 0), .int .u8 (h0 1), .int .u8 (h0 2), .int .u8 (h0 3), .int .u8 (h0 4), .int .u8 (h0 5), .int .u8 (h0 6), .int .u8 (h0 7), .int .u8 (h1 0), .int .u8 (h1 1), .int .u8 (h1 2), .int .u8 (h1 3), .int .u8 (h1 4), .int .u8 (h1 5), .int .u8 (h1 6), .int .u8 (h1 7), .int .u8 (h2 0), .int .u8 (h2 1), .int .u8 (h2 2), .int .u8 (h2 3), .int .u8 (h2 4), .int .u8 (h2 5), .int .u8 (h2 6), .int .u8 (h2 7)] 92) = w3 at *
      have HXA : Hid (∀ W', Below w3.heap.size w3 W' → (W'.cell? ⟨w1.heap.size, 17, none⟩ = some (.int .u8 (h1 0)) ∧ W'.cell? ⟨w1.heap.size, 18, none⟩ = some (.int .u8 (h1 1)) ∧ W'.cell? ⟨w1.heap.size, 19, none⟩ = some (.int .u8 (h1 2)) ∧ W'.cell? ⟨w1.heap.size, 20, none⟩ = some (.int .u8 (h1 3)) ∧ W'.cell? ⟨w1.heap.size, 21, none⟩ = some (.int .u8 (h1 4)) ∧ W'.cell? ⟨w1.heap.size, 22, none⟩ = some (.int .u8 (h1 5)) ∧ W'.cell? ⟨w1.heap.size, 23, none⟩ = some (.int .u8 (h1 6)) ∧ W'.cell? ⟨w1.heap.size, 24, none⟩ = some (.int .u8 (h1 7)) ∧ W'.cell? ⟨w1.heap.size, 25, none⟩ = some (.int .u8 (h2 0)) ∧ W'.cell? ⟨w1.heap.size, 26, none⟩ = some (.int .u8 (h2 1)) ∧ W'.cell? ⟨w1.heap.size, 27, none⟩ = some (.int .u8 (h2 2)) ∧ W'.cell? ⟨w1.heap.size, 28, none⟩ = some (.int .u8 (h2 3)) ∧ W'.cell? ⟨w1.heap.size, 29, none⟩ = some (.int .u8 (h2 4)) ∧ W'.cell? ⟨w1.heap.size, 30, none⟩ = some (.int .u8 (h2 5)) ∧ W'.cell? ⟨w1.heap.size, 31, none⟩ = some (.int .u8 (h2 6)) ∧ W'.cell? ⟨w1.heap.size, 32, none⟩ = some (.int .u8 (h2 7)) ∧ Below w3.heap.size w3 W')) := Lib.hid (fun W' h => by
        have hr := HX2.out.keep h HX2.out.lt
        exact ⟨hr.cell 17 rfl, hr.cell 18 rfl, hr.cell 19 rfl, hr.cell 20 rfl, hr.cell 21 rfl, hr.cell 22 rfl, hr.cell 23 rfl, hr.cell 24 rfl, hr.cell 25 rfl, hr.cell 26 rfl, hr.cell 27 rfl, hr.cell 28 rfl, hr.cell 29 rfl, hr.cell 30 rfl, hr.cell 31 rfl, hr.cell 32 rfl, h⟩)
      go_region_held3 (fun w' => w'.cell? ⟨w1.heap.size, 17, none⟩ = some (.int .u8 (h1 0)) ∧ w'.cell? ⟨w1.heap.size, 18, none⟩ = some (.int .u8 (h1 1)) ∧ w'.cell? ⟨w1.heap.size, 19, none⟩ = some (.int .u8 (h1 2)) ∧ w'.cell? ⟨w1.heap.size, 20, none⟩ = some (.int .u8 (h1 3)) ∧ w'.cell? ⟨w1.heap.size, 21, none⟩ = some (.int .u8 (h1 4)) ∧ w'.cell? ⟨w1.heap.size, 22, none⟩ = some (.int .u8 (h1 5)) ∧ w'.cell? ⟨w1.heap.size, 23, none⟩ = some (.int .u8 (h1 6)) ∧ w'.cell? ⟨w1.heap.size, 24, none⟩ = some (.int .u8 (h1 7)) ∧ w'.cell? ⟨w1.heap.size, 25, none⟩ = some (.int .u8 (h2 0)) ∧ w'.cell? ⟨w1.heap.size, 26, none⟩ = some (.int .u8 (h2 1)) ∧ w'.cell? ⟨w1.heap.size, 27, none⟩ = some (.int .u8 (h2 2)) ∧ w'.cell? ⟨w1.heap.size, 28, none⟩ = some (.int .u8 (h2 3)) ∧ w'.cell? ⟨w1.heap.size, 29, none⟩ = some (.int .u8 (h2 4)) ∧ w'.cell? ⟨w1.heap.size, 30, none⟩ = some (.int .u8 (h2 5)) ∧ w'.cell? ⟨w1.heap.size, 31, none⟩ = some (.int .u8 (h2 6)) ∧ w'.cell? ⟨w1.heap.size, 32, none⟩ = some (.int .u8 (h2 7)) ∧ Below w3.heap.size w3 w') (first | assumption | exact HXA.out _ (Below.refl _ _).drew) (first | fail)
      go_wp2
      go_ret2
      exact ⟨rfl, HB2.out.drew⟩
  · rcases kB_cases hk2 with rfl | rfl | rfl
    · have hst := eq8_str HW2.out HW0.out
      rw [show sameK n L b q (kN ⟨#[115]⟩) (kN ⟨#[112]⟩) = ((strOf n (hdK n L b q 2)).toList == (strOf n (hdK n L b q 0)).toList) from rfl, ← hst]
      have heq : ∀ W, (binOp .eql 87 (.agg #[.int .u8 (hdK n L b q 2 0), .int .u8 (hdK n L b q 2 1), .int .u8 (hdK n L b q 2 2), .int .u8 (hdK n L b q 2 3), .int .u8 (hdK n L b q 2 4), .int .u8 (hdK n L b q 2 5), .int .u8 (hdK n L b q 2 6), .int .u8 (hdK n L b q 2 7)]) (.agg #[.int .u8 (hdK n L b q 0 0), .int .u8 (hdK n L b q 0 1), .int .u8 (hdK n L b q 0 2), .int .u8 (hdK n L b q 0 3), .int .u8 (hdK n L b q 0 4), .int .u8 (hdK n L b q 0 5), .int .u8 (hdK n L b q 0 6), .int .u8 (hdK n L b q 0 7)])).run Try.prog W = .ok (.bool _) W := fun W => run_eql_dig8 W (hdK n L b q 2) (hdK n L b q 0) HW2.out.byte HW0.out.byte _ rfl
      clear hst
      generalize hdK n L b q 0 = h0 at *
      generalize hdK n L b q 1 = h1 at *
      generalize hdK n L b q 2 = h2 at *
      generalize ((List.range 8).map (fun i => UInt8.ofNat (h2 i)) == (List.range 8).map (fun i => UInt8.ofNat (h0 i))) = res at *
      generalize rdf n = f at *
      clear h hcap hl hg hk hk2
      generalize L.length = m at *
      go_enter Try.func36, Try.ntmps36
      go_wp2_with (first | (refine wpList_load_row rfl 25 _ rfl _ rfl 25 _ _ _ (HR0.out) Try.underlying25 rfl (by kernel_rfl) ?_) | (refine wpList_load_row rfl 27 _ rfl _ rfl 27 _ _ _ (HK0.out) Try.underlying27 rfl (by kernel_rfl) ?_) | fail)
      refine (HC.out _ (HT.out.kept HB0.out)).mono ?_
      rintro e w1 ⟨a1, k1, rfl, hb1⟩
      have HB1 := Lib.hid (HB0.out.trans (hb1.mono HB0.out.size))
      have HX2 := Lib.hid (RowAt.new w1 92 (callV (.slice a1 m k1) f h0 h1 h2))
      have HB2 := Lib.hid (HB1.out.alloc HB1.out.size (.cells (callV (.slice a1 m k1) f h0 h1 h2) 92))
      have HG0 := Lib.hid (call_range0 HX2.out)
      have HG1 := Lib.hid (call_range1 HX2.out)
      have HG2 := Lib.hid (call_range2 HX2.out)
      clear hb1 HR0 HK0 HB0 HC HT HB1
      simp only [callV] at HX2 HB2 HG0 HG1 HG2 ⊢
      go_wp2_with (first | (refine wpList_store_row rfl 92 _ _ rfl _ _ rfl rfl 92 _ (heap_at _ _ _ (by simp)) (by kernel_rfl) rfl (by kernel_rfl) ?_; rw [setRow_at _ _ _ _ _ (by simp)]) | (go_at_call 79; refine (callKind_any _ _).mono ?_; rintro e2 w2 ⟨rfl, rfl⟩; simp only [kp_1, kp_2, kb_1, kb_2, ks_1, ks_2]) | fail)
      generalize w1.alloc (.cells #[.slice a1 m k1, .int .u8 (f 0), .int .u8 (f 1), .int .u8 (f 2), .int .u8 (f 3), .int .u8 (f 4), .int .u8 (f 5), .int .u8 (f 6), .int .u8 (f 7), .int .u8 (h0 0), .int .u8 (h0 1), .int .u8 (h0 2), .int .u8 (h0 3), .int .u8 (h0 4), .int .u8 (h0 5), .int .u8 (h0 6), .int .u8 (h0 7), .int .u8 (h1 0), .int .u8 (h1 1), .int .u8 (h1 2), .int .u8 (h1 3), .int .u8 (h1 4), .int .u8 (h1 5), .int .u8 (h1 6), .int .u8 (h1 7), .int .u8 (h2 0), .int .u8 (h2 1), .int .u8 (h2 2), .int .u8 (h2 3), .int .u8 (h2 4), .int .u8 (h2 5), .int .u8 (h2 6), .int .u8 (h2 7)] 92) = w3 at *
      have HXA : Hid (∀ W', Below w3.heap.size w3 W' → (W'.cell? ⟨w1.heap.size, 9, none⟩ = some (.int .u8 (h0 0)) ∧ W'.cell? ⟨w1.heap.size, 10, none⟩ = some (.int .u8 (h0 1)) ∧ W'.cell? ⟨w1.heap.size, 11, none⟩ = some (.int .u8 (h0 2)) ∧ W'.cell? ⟨w1.heap.size, 12, none⟩ = some (.int .u8 (h0 3)) ∧ W'.cell? ⟨w1.heap.size, 13, none⟩ = some (.int .u8 (h0 4)) ∧ W'.cell? ⟨w1.heap.size, 14, none⟩ = some (.int .u8 (h0 5)) ∧ W'.cell? ⟨w1.heap.size, 15, none⟩ = some (.int .u8 (h0 6)) ∧ W'.cell? ⟨w1.heap.size, 16, none⟩ = some (.int .u8 (h0 7)) ∧ W'.cell? ⟨w1.heap.size, 25, none⟩ = some (.int .u8 (h2 0)) ∧ W'.cell? ⟨w1.heap.size, 26, none⟩ = some (.int .u8 (h2 1)) ∧ W'.cell? ⟨w1.heap.size, 27, none⟩ = some (.int .u8 (h2 2)) ∧ W'.cell? ⟨w1.heap.size, 28, none⟩ = some (.int .u8 (h2 3)) ∧ W'.cell? ⟨w1.heap.size, 29, none⟩ = some (.int .u8 (h2 4)) ∧ W'.cell? ⟨w1.heap.size, 30, none⟩ = some (.int .u8 (h2 5)) ∧ W'.cell? ⟨w1.heap.size, 31, none⟩ = some (.int .u8 (h2 6)) ∧ W'.cell? ⟨w1.heap.size, 32, none⟩ = some (.int .u8 (h2 7)) ∧ Below w3.heap.size w3 W')) := Lib.hid (fun W' h => by
        have hr := HX2.out.keep h HX2.out.lt
        exact ⟨hr.cell 9 rfl, hr.cell 10 rfl, hr.cell 11 rfl, hr.cell 12 rfl, hr.cell 13 rfl, hr.cell 14 rfl, hr.cell 15 rfl, hr.cell 16 rfl, hr.cell 25 rfl, hr.cell 26 rfl, hr.cell 27 rfl, hr.cell 28 rfl, hr.cell 29 rfl, hr.cell 30 rfl, hr.cell 31 rfl, hr.cell 32 rfl, h⟩)
      go_region_held3 (fun w' => w'.cell? ⟨w1.heap.size, 9, none⟩ = some (.int .u8 (h0 0)) ∧ w'.cell? ⟨w1.heap.size, 10, none⟩ = some (.int .u8 (h0 1)) ∧ w'.cell? ⟨w1.heap.size, 11, none⟩ = some (.int .u8 (h0 2)) ∧ w'.cell? ⟨w1.heap.size, 12, none⟩ = some (.int .u8 (h0 3)) ∧ w'.cell? ⟨w1.heap.size, 13, none⟩ = some (.int .u8 (h0 4)) ∧ w'.cell? ⟨w1.heap.size, 14, none⟩ = some (.int .u8 (h0 5)) ∧ w'.cell? ⟨w1.heap.size, 15, none⟩ = some (.int .u8 (h0 6)) ∧ w'.cell? ⟨w1.heap.size, 16, none⟩ = some (.int .u8 (h0 7)) ∧ w'.cell? ⟨w1.heap.size, 25, none⟩ = some (.int .u8 (h2 0)) ∧ w'.cell? ⟨w1.heap.size, 26, none⟩ = some (.int .u8 (h2 1)) ∧ w'.cell? ⟨w1.heap.size, 27, none⟩ = some (.int .u8 (h2 2)) ∧ w'.cell? ⟨w1.heap.size, 28, none⟩ = some (.int .u8 (h2 3)) ∧ w'.cell? ⟨w1.heap.size, 29, none⟩ = some (.int .u8 (h2 4)) ∧ w'.cell? ⟨w1.heap.size, 30, none⟩ = some (.int .u8 (h2 5)) ∧ w'.cell? ⟨w1.heap.size, 31, none⟩ = some (.int .u8 (h2 6)) ∧ w'.cell? ⟨w1.heap.size, 32, none⟩ = some (.int .u8 (h2 7)) ∧ Below w3.heap.size w3 w') (first | assumption | exact HXA.out _ (Below.refl _ _).drew) (first | fail)
      go_wp2
      go_ret2
      exact ⟨rfl, HB2.out.drew⟩
    · have hst := eq8_str HW2.out HW1.out
      rw [show sameK n L b q (kN ⟨#[115]⟩) (kN ⟨#[98]⟩) = ((strOf n (hdK n L b q 2)).toList == (strOf n (hdK n L b q 1)).toList) from rfl, ← hst]
      have heq : ∀ W, (binOp .eql 87 (.agg #[.int .u8 (hdK n L b q 2 0), .int .u8 (hdK n L b q 2 1), .int .u8 (hdK n L b q 2 2), .int .u8 (hdK n L b q 2 3), .int .u8 (hdK n L b q 2 4), .int .u8 (hdK n L b q 2 5), .int .u8 (hdK n L b q 2 6), .int .u8 (hdK n L b q 2 7)]) (.agg #[.int .u8 (hdK n L b q 1 0), .int .u8 (hdK n L b q 1 1), .int .u8 (hdK n L b q 1 2), .int .u8 (hdK n L b q 1 3), .int .u8 (hdK n L b q 1 4), .int .u8 (hdK n L b q 1 5), .int .u8 (hdK n L b q 1 6), .int .u8 (hdK n L b q 1 7)])).run Try.prog W = .ok (.bool _) W := fun W => run_eql_dig8 W (hdK n L b q 2) (hdK n L b q 1) HW2.out.byte HW1.out.byte _ rfl
      clear hst
      generalize hdK n L b q 0 = h0 at *
      generalize hdK n L b q 1 = h1 at *
      generalize hdK n L b q 2 = h2 at *
      generalize ((List.range 8).map (fun i => UInt8.ofNat (h2 i)) == (List.range 8).map (fun i => UInt8.ofNat (h1 i))) = res at *
      generalize rdf n = f at *
      clear h hcap hl hg hk hk2
      generalize L.length = m at *
      go_enter Try.func36, Try.ntmps36
      go_wp2_with (first | (refine wpList_load_row rfl 25 _ rfl _ rfl 25 _ _ _ (HR0.out) Try.underlying25 rfl (by kernel_rfl) ?_) | (refine wpList_load_row rfl 27 _ rfl _ rfl 27 _ _ _ (HK0.out) Try.underlying27 rfl (by kernel_rfl) ?_) | fail)
      refine (HC.out _ (HT.out.kept HB0.out)).mono ?_
      rintro e w1 ⟨a1, k1, rfl, hb1⟩
      have HB1 := Lib.hid (HB0.out.trans (hb1.mono HB0.out.size))
      have HX2 := Lib.hid (RowAt.new w1 92 (callV (.slice a1 m k1) f h0 h1 h2))
      have HB2 := Lib.hid (HB1.out.alloc HB1.out.size (.cells (callV (.slice a1 m k1) f h0 h1 h2) 92))
      have HG0 := Lib.hid (call_range0 HX2.out)
      have HG1 := Lib.hid (call_range1 HX2.out)
      have HG2 := Lib.hid (call_range2 HX2.out)
      clear hb1 HR0 HK0 HB0 HC HT HB1
      simp only [callV] at HX2 HB2 HG0 HG1 HG2 ⊢
      go_wp2_with (first | (refine wpList_store_row rfl 92 _ _ rfl _ _ rfl rfl 92 _ (heap_at _ _ _ (by simp)) (by kernel_rfl) rfl (by kernel_rfl) ?_; rw [setRow_at _ _ _ _ _ (by simp)]) | (go_at_call 79; refine (callKind_any _ _).mono ?_; rintro e2 w2 ⟨rfl, rfl⟩; simp only [kp_1, kp_2, kb_1, kb_2, ks_1, ks_2]) | fail)
      generalize w1.alloc (.cells #[.slice a1 m k1, .int .u8 (f 0), .int .u8 (f 1), .int .u8 (f 2), .int .u8 (f 3), .int .u8 (f 4), .int .u8 (f 5), .int .u8 (f 6), .int .u8 (f 7), .int .u8 (h0 0), .int .u8 (h0 1), .int .u8 (h0 2), .int .u8 (h0 3), .int .u8 (h0 4), .int .u8 (h0 5), .int .u8 (h0 6), .int .u8 (h0 7), .int .u8 (h1 0), .int .u8 (h1 1), .int .u8 (h1 2), .int .u8 (h1 3), .int .u8 (h1 4), .int .u8 (h1 5), .int .u8 (h1 6), .int .u8 (h1 7), .int .u8 (h2 0), .int .u8 (h2 1), .int .u8 (h2 2), .int .u8 (h2 3), .int .u8 (h2 4), .int .u8 (h2 5), .int .u8 (h2 6), .int .u8 (h2 7)] 92) = w3 at *
      have HXA : Hid (∀ W', Below w3.heap.size w3 W' → (W'.cell? ⟨w1.heap.size, 17, none⟩ = some (.int .u8 (h1 0)) ∧ W'.cell? ⟨w1.heap.size, 18, none⟩ = some (.int .u8 (h1 1)) ∧ W'.cell? ⟨w1.heap.size, 19, none⟩ = some (.int .u8 (h1 2)) ∧ W'.cell? ⟨w1.heap.size, 20, none⟩ = some (.int .u8 (h1 3)) ∧ W'.cell? ⟨w1.heap.size, 21, none⟩ = some (.int .u8 (h1 4)) ∧ W'.cell? ⟨w1.heap.size, 22, none⟩ = some (.int .u8 (h1 5)) ∧ W'.cell? ⟨w1.heap.size, 23, none⟩ = some (.int .u8 (h1 6)) ∧ W'.cell? ⟨w1.heap.size, 24, none⟩ = some (.int .u8 (h1 7)) ∧ W'.cell? ⟨w1.heap.size, 25, none⟩ = some (.int .u8 (h2 0)) ∧ W'.cell? ⟨w1.heap.size, 26, none⟩ = some (.int .u8 (h2 1)) ∧ W'.cell? ⟨w1.heap.size, 27, none⟩ = some (.int .u8 (h2 2)) ∧ W'.cell? ⟨w1.heap.size, 28, none⟩ = some (.int .u8 (h2 3)) ∧ W'.cell? ⟨w1.heap.size, 29, none⟩ = some (.int .u8 (h2 4)) ∧ W'.cell? ⟨w1.heap.size, 30, none⟩ = some (.int .u8 (h2 5)) ∧ W'.cell? ⟨w1.heap.size, 31, none⟩ = some (.int .u8 (h2 6)) ∧ W'.cell? ⟨w1.heap.size, 32, none⟩ = some (.int .u8 (h2 7)) ∧ Below w3.heap.size w3 W')) := Lib.hid (fun W' h => by
        have hr := HX2.out.keep h HX2.out.lt
        exact ⟨hr.cell 17 rfl, hr.cell 18 rfl, hr.cell 19 rfl, hr.cell 20 rfl, hr.cell 21 rfl, hr.cell 22 rfl, hr.cell 23 rfl, hr.cell 24 rfl, hr.cell 25 rfl, hr.cell 26 rfl, hr.cell 27 rfl, hr.cell 28 rfl, hr.cell 29 rfl, hr.cell 30 rfl, hr.cell 31 rfl, hr.cell 32 rfl, h⟩)
      go_region_held3 (fun w' => w'.cell? ⟨w1.heap.size, 17, none⟩ = some (.int .u8 (h1 0)) ∧ w'.cell? ⟨w1.heap.size, 18, none⟩ = some (.int .u8 (h1 1)) ∧ w'.cell? ⟨w1.heap.size, 19, none⟩ = some (.int .u8 (h1 2)) ∧ w'.cell? ⟨w1.heap.size, 20, none⟩ = some (.int .u8 (h1 3)) ∧ w'.cell? ⟨w1.heap.size, 21, none⟩ = some (.int .u8 (h1 4)) ∧ w'.cell? ⟨w1.heap.size, 22, none⟩ = some (.int .u8 (h1 5)) ∧ w'.cell? ⟨w1.heap.size, 23, none⟩ = some (.int .u8 (h1 6)) ∧ w'.cell? ⟨w1.heap.size, 24, none⟩ = some (.int .u8 (h1 7)) ∧ w'.cell? ⟨w1.heap.size, 25, none⟩ = some (.int .u8 (h2 0)) ∧ w'.cell? ⟨w1.heap.size, 26, none⟩ = some (.int .u8 (h2 1)) ∧ w'.cell? ⟨w1.heap.size, 27, none⟩ = some (.int .u8 (h2 2)) ∧ w'.cell? ⟨w1.heap.size, 28, none⟩ = some (.int .u8 (h2 3)) ∧ w'.cell? ⟨w1.heap.size, 29, none⟩ = some (.int .u8 (h2 4)) ∧ w'.cell? ⟨w1.heap.size, 30, none⟩ = some (.int .u8 (h2 5)) ∧ w'.cell? ⟨w1.heap.size, 31, none⟩ = some (.int .u8 (h2 6)) ∧ w'.cell? ⟨w1.heap.size, 32, none⟩ = some (.int .u8 (h2 7)) ∧ Below w3.heap.size w3 w') (first | assumption | exact HXA.out _ (Below.refl _ _).drew) (first | fail)
      go_wp2
      go_ret2
      exact ⟨rfl, HB2.out.drew⟩
    · have hst := eq8_str HW2.out HW2.out
      rw [show sameK n L b q (kN ⟨#[115]⟩) (kN ⟨#[115]⟩) = ((strOf n (hdK n L b q 2)).toList == (strOf n (hdK n L b q 2)).toList) from rfl, ← hst]
      have heq : ∀ W, (binOp .eql 87 (.agg #[.int .u8 (hdK n L b q 2 0), .int .u8 (hdK n L b q 2 1), .int .u8 (hdK n L b q 2 2), .int .u8 (hdK n L b q 2 3), .int .u8 (hdK n L b q 2 4), .int .u8 (hdK n L b q 2 5), .int .u8 (hdK n L b q 2 6), .int .u8 (hdK n L b q 2 7)]) (.agg #[.int .u8 (hdK n L b q 2 0), .int .u8 (hdK n L b q 2 1), .int .u8 (hdK n L b q 2 2), .int .u8 (hdK n L b q 2 3), .int .u8 (hdK n L b q 2 4), .int .u8 (hdK n L b q 2 5), .int .u8 (hdK n L b q 2 6), .int .u8 (hdK n L b q 2 7)])).run Try.prog W = .ok (.bool _) W := fun W => run_eql_dig8 W (hdK n L b q 2) (hdK n L b q 2) HW2.out.byte HW2.out.byte _ rfl
      clear hst
      generalize hdK n L b q 0 = h0 at *
      generalize hdK n L b q 1 = h1 at *
      generalize hdK n L b q 2 = h2 at *
      generalize ((List.range 8).map (fun i => UInt8.ofNat (h2 i)) == (List.range 8).map (fun i => UInt8.ofNat (h2 i))) = res at *
      generalize rdf n = f at *
      clear h hcap hl hg hk hk2
      generalize L.length = m at *
      go_enter Try.func36, Try.ntmps36
      go_wp2_with (first | (refine wpList_load_row rfl 25 _ rfl _ rfl 25 _ _ _ (HR0.out) Try.underlying25 rfl (by kernel_rfl) ?_) | (refine wpList_load_row rfl 27 _ rfl _ rfl 27 _ _ _ (HK0.out) Try.underlying27 rfl (by kernel_rfl) ?_) | fail)
      refine (HC.out _ (HT.out.kept HB0.out)).mono ?_
      rintro e w1 ⟨a1, k1, rfl, hb1⟩
      have HB1 := Lib.hid (HB0.out.trans (hb1.mono HB0.out.size))
      have HX2 := Lib.hid (RowAt.new w1 92 (callV (.slice a1 m k1) f h0 h1 h2))
      have HB2 := Lib.hid (HB1.out.alloc HB1.out.size (.cells (callV (.slice a1 m k1) f h0 h1 h2) 92))
      have HG0 := Lib.hid (call_range0 HX2.out)
      have HG1 := Lib.hid (call_range1 HX2.out)
      have HG2 := Lib.hid (call_range2 HX2.out)
      clear hb1 HR0 HK0 HB0 HC HT HB1
      simp only [callV] at HX2 HB2 HG0 HG1 HG2 ⊢
      go_wp2_with (first | (refine wpList_store_row rfl 92 _ _ rfl _ _ rfl rfl 92 _ (heap_at _ _ _ (by simp)) (by kernel_rfl) rfl (by kernel_rfl) ?_; rw [setRow_at _ _ _ _ _ (by simp)]) | (go_at_call 79; refine (callKind_any _ _).mono ?_; rintro e2 w2 ⟨rfl, rfl⟩; simp only [kp_1, kp_2, kb_1, kb_2, ks_1, ks_2]) | fail)
      generalize w1.alloc (.cells #[.slice a1 m k1, .int .u8 (f 0), .int .u8 (f 1), .int .u8 (f 2), .int .u8 (f 3), .int .u8 (f 4), .int .u8 (f 5), .int .u8 (f 6), .int .u8 (f 7), .int .u8 (h0 0), .int .u8 (h0 1), .int .u8 (h0 2), .int .u8 (h0 3), .int .u8 (h0 4), .int .u8 (h0 5), .int .u8 (h0 6), .int .u8 (h0 7), .int .u8 (h1 0), .int .u8 (h1 1), .int .u8 (h1 2), .int .u8 (h1 3), .int .u8 (h1 4), .int .u8 (h1 5), .int .u8 (h1 6), .int .u8 (h1 7), .int .u8 (h2 0), .int .u8 (h2 1), .int .u8 (h2 2), .int .u8 (h2 3), .int .u8 (h2 4), .int .u8 (h2 5), .int .u8 (h2 6), .int .u8 (h2 7)] 92) = w3 at *
      have HXA : Hid (∀ W', Below w3.heap.size w3 W' → (W'.cell? ⟨w1.heap.size, 25, none⟩ = some (.int .u8 (h2 0)) ∧ W'.cell? ⟨w1.heap.size, 26, none⟩ = some (.int .u8 (h2 1)) ∧ W'.cell? ⟨w1.heap.size, 27, none⟩ = some (.int .u8 (h2 2)) ∧ W'.cell? ⟨w1.heap.size, 28, none⟩ = some (.int .u8 (h2 3)) ∧ W'.cell? ⟨w1.heap.size, 29, none⟩ = some (.int .u8 (h2 4)) ∧ W'.cell? ⟨w1.heap.size, 30, none⟩ = some (.int .u8 (h2 5)) ∧ W'.cell? ⟨w1.heap.size, 31, none⟩ = some (.int .u8 (h2 6)) ∧ W'.cell? ⟨w1.heap.size, 32, none⟩ = some (.int .u8 (h2 7)) ∧ Below w3.heap.size w3 W')) := Lib.hid (fun W' h => by
        have hr := HX2.out.keep h HX2.out.lt
        exact ⟨hr.cell 25 rfl, hr.cell 26 rfl, hr.cell 27 rfl, hr.cell 28 rfl, hr.cell 29 rfl, hr.cell 30 rfl, hr.cell 31 rfl, hr.cell 32 rfl, h⟩)
      go_region_held3 (fun w' => w'.cell? ⟨w1.heap.size, 25, none⟩ = some (.int .u8 (h2 0)) ∧ w'.cell? ⟨w1.heap.size, 26, none⟩ = some (.int .u8 (h2 1)) ∧ w'.cell? ⟨w1.heap.size, 27, none⟩ = some (.int .u8 (h2 2)) ∧ w'.cell? ⟨w1.heap.size, 28, none⟩ = some (.int .u8 (h2 3)) ∧ w'.cell? ⟨w1.heap.size, 29, none⟩ = some (.int .u8 (h2 4)) ∧ w'.cell? ⟨w1.heap.size, 30, none⟩ = some (.int .u8 (h2 5)) ∧ w'.cell? ⟨w1.heap.size, 31, none⟩ = some (.int .u8 (h2 6)) ∧ w'.cell? ⟨w1.heap.size, 32, none⟩ = some (.int .u8 (h2 7)) ∧ Below w3.heap.size w3 w') (first | assumption | exact HXA.out _ (Below.refl _ _).drew) (first | fail)
      go_wp2
      go_ret2
      exact ⟨rfl, HB2.out.drew⟩
end Go.Proofs.Ytkhglknpcajmiaa
