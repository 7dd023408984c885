/- SameLead in the model; its law. -/
import Derived.Test.YtkhglknpcajmiaaQN
import Derived.Test.YtkhglknpcajmiaaQL
namespace Go.Proofs.Ytkhglknpcajmiaa
open Go.RowKit
set_option linter.unusedSimpArgs false
set_option linter.unusedVariables false

set_option maxRecDepth 100000 in
set_option maxHeartbeats 1000000 in
theorem sSameLead_no (s : ByteArray) (hs : s.size ≤ maxLen) (n : Int) (v : Value) (L : List (List Nat)) (b q r r2 : ByteArray) (hb : b.size ≤ maxLen) (hq : q.size ≤ maxLen) (w : World) (h : Txts w v L) (hl : L.length ≤ 2000000) (hsm : Small L) (hk : (askK s n L b q r && kB r2) = false) :
    Calls Try.prog 37 #[.agg #[.string s, .int .i64 n, v], .agg #[.string b, .string q], .string r, .string r2] w fun e w' => e = .returned (.tuple #[.bool false, .bool false]) ∧ Below w.heap.size w w' := by
  obtain ⟨a, cap, rfl, hcap, -⟩ := id h
  have HT := Lib.hid h
  have HR0 := Lib.hid ((RowAt.new w 25 #[.string s, .int .i64 n, .slice a L.length cap]).push (.cells #[.string b, .string q] 27))
  have HK0 : Hid (RowAt ((w.alloc (.cells #[.string s, .int .i64 n, .slice a L.length cap] 25)).alloc (.cells #[.string b, .string q] 27)) (w.heap.size + 1) 27 #[.string b, .string q]) := Lib.hid (by
    have := RowAt.new (w.alloc (.cells #[.string s, .int .i64 n, .slice a L.length cap] 25)) 27 #[.string b, .string q]
    simpa using this)
  have HB0 := Lib.hid (((Below.refl _ w).alloc (Nat.le_refl _) (.cells #[.string s, .int .i64 n, .slice a L.length cap] 25)).alloc (by simp) (.cells #[.string b, .string q] 27))
  have HA := Lib.hid (fun w h => l8Asked_any s hs n (.slice a L.length cap) L b q r hb hq w h hl hsm)
  have HC := Lib.hid (l8Call_any r2)
  have HKK := Lib.hid hk
  generalize askK s n L b q r = ka at *
  generalize kB r2 = kb at *
  clear h hcap hl hsm hb hq hk hs
  generalize L.length = m at *
  go_enter Try.func37, Try.ntmps37
  go_wp2_with (first | (refine wpList_load_row rfl 25 _ rfl _ rfl 25 _ _ _ (HR0.out) Try.underlying25 rfl (by kernel_rfl) ?_) | (refine wpList_load_row rfl 27 _ rfl _ rfl 27 _ _ _ (HK0.out) Try.underlying27 rfl (by kernel_rfl) ?_) | fail)
  refine (HA.out _ (HT.out.kept HB0.out)).mono ?_
  rintro e w1 ⟨rfl, hb1⟩
  have HR1 := Lib.hid (HR0.out.kept hb1)
  have HK1 := Lib.hid (HK0.out.kept hb1)
  have HB1 := Lib.hid (HB0.out.trans (hb1.mono HB0.out.size))
  clear hb1 HR0 HK0 HB0
  cases ka
  · go_wp2
    go_ret2
    exact ⟨rfl, HB1.out⟩
  · obtain rfl : kb = false := by have := HKK.out; rwa [Bool.true_and] at this
    go_wp2_with (first | (go_at_call 105; refine (HC.out _).mono ?_; rintro e2 w2 ⟨rfl, hw2⟩; rw [hw2]; clear hw2) | fail)
    go_ret2
    exact ⟨rfl, HB1.out⟩

set_option maxRecDepth 100000 in
set_option maxHeartbeats 1000000 in
theorem sSameLead_yes (s : ByteArray) (hs : s.size ≤ maxLen) (n : Nat) (v : Value) (L : List (List Nat)) (b q r r2 : ByteArray) (hb : b.size ≤ maxLen) (hq : q.size ≤ maxLen) (w : World) (h : Txts w v L) (hl : L.length ≤ 2000000) (hsm : Small L) (hg : goodK s n L b q = true) (hk : kB r = true) (hk2 : kB r2 = true) :
    Calls Try.prog 37 #[.agg #[.string s, .int .i64 n, v], .agg #[.string b, .string q], .string r, .string r2] w fun e w' => e = .returned (.tuple #[.bool (sameK n L b q (kN r) (kN r2)), .bool true]) ∧ Below w.heap.size w w' := by
  obtain ⟨a, cap, rfl, hcap, -⟩ := id h
  have HT := Lib.hid h
  have HR0 := Lib.hid ((RowAt.new w 25 #[.string s, .int .i64 n, .slice a L.length cap]).push (.cells #[.string b, .string q] 27))
  have HK0 : Hid (RowAt ((w.alloc (.cells #[.string s, .int .i64 n, .slice a L.length cap] 25)).alloc (.cells #[.string b, .string q] 27)) (w.heap.size + 1) 27 #[.string b, .string q]) := Lib.hid (by
    have := RowAt.new (w.alloc (.cells #[.string s, .int .i64 n, .slice a L.length cap] 25)) 27 #[.string b, .string q]
    simpa using this)
  have HB0 := Lib.hid (((Below.refl _ w).alloc (Nat.le_refl _) (.cells #[.string s, .int .i64 n, .slice a L.length cap] 25)).alloc (by simp) (.cells #[.string b, .string q] 27))
  have HA := Lib.hid (fun w h => l8Asked_any s hs n (.slice a L.length cap) L b q r hb hq w h hl hsm)
  rw [show askK s n L b q r = true by unfold askK; rw [hg, hk]; rfl] at HA
  have HC := Lib.hid (l8Call_any r2)
  rw [hk2] at HC
  have HH : Hid (∀ r, kB r = true → ∀ w, Txts w (.slice a L.length cap) L → Calls Try.prog 87 #[.agg #[.string s, .int .i64 n, .slice a L.length cap], .agg #[.string b, .string q], .string r] w fun e w' => e = .returned (.string ((fun r => strOf n (hdK n L b q (kN r))) r)) ∧ Below w.heap.size w w') := Lib.hid (fun r hr w h => l8Head_any s n (.slice a L.length cap) L b q r hg hr w h)
  rw [show sameK n L b q (kN r) (kN r2) = (((fun r => strOf n (hdK n L b q (kN r))) r).toList == ((fun r => strOf n (hdK n L b q (kN r))) r2).toList) from rfl]
  generalize (fun r => strOf n (hdK n L b q (kN r))) = tf at *
  have HK9 := Lib.hid hk
  have HK8 := Lib.hid hk2
  clear h hcap hl hsm hb hq hk hk2 hs hg
  generalize L.length = m at *
  go_enter Try.func37, Try.ntmps37
  go_wp2_with (first | (refine wpList_load_row rfl 25 _ rfl _ rfl 25 _ _ _ (HR0.out) Try.underlying25 rfl (by kernel_rfl) ?_) | (refine wpList_load_row rfl 27 _ rfl _ rfl 27 _ _ _ (HK0.out) Try.underlying27 rfl (by kernel_rfl) ?_) | fail)
  refine (HA.out _ (HT.out.kept HB0.out)).mono ?_
  rintro e w0 ⟨rfl, hb0⟩
  have HR1 := Lib.hid (HR0.out.kept hb0)
  have HK1 := Lib.hid (HK0.out.kept hb0)
  have HB1 := Lib.hid (HB0.out.trans (hb0.mono HB0.out.size))
  clear hb0 HR0 HK0 HB0
  go_wp2_with (first | (go_at_call 105; refine (HC.out _).mono ?_; rintro e2 w2 ⟨rfl, hw2⟩; rw [hw2]; clear hw2) | fail)
  have HX0 : Hid (∀ W', Below w0.heap.size w0 W' → (W'.cell? ⟨w.heap.size, 0, none⟩ = some (.string s) ∧ W'.cell? ⟨w.heap.size, 1, none⟩ = some (.int .i64 n) ∧ W'.cell? ⟨w.heap.size, 2, none⟩ = some (.slice a m cap) ∧ W'.cell? ⟨w.heap.size + 1, 0, none⟩ = some (.string b) ∧ W'.cell? ⟨w.heap.size + 1, 1, none⟩ = some (.string q) ∧ Below w0.heap.size w0 W')) := Lib.hid (fun W' h => by
    have hr := HR1.out.keep h HR1.out.lt
    have hk := HK1.out.keep h HK1.out.lt
    exact ⟨hr.cell 0 rfl, hr.cell 1 rfl, hr.cell 2 rfl, hk.cell 0 rfl, hk.cell 1 rfl, h⟩)
  have HF : Hid (∀ r, kB r = true → ∀ W', Below w0.heap.size w0 W' → Calls Try.prog 87 #[.agg #[.string s, .int .i64 n, .slice a m cap], .agg #[.string b, .string q], .string r] W' fun e w' => e = .returned (.string (tf r)) ∧ Below w0.heap.size w0 w') := Lib.hid (fun r hr W' h => (HH.out r hr W' ((HT.out.kept HB1.out).kept h)).mono fun e w' hw => ⟨hw.1, h.trans (hw.2.mono h.size)⟩)
  go_region_held3 (fun w' => w'.cell? ⟨w.heap.size, 0, none⟩ = some (.string s) ∧ w'.cell? ⟨w.heap.size, 1, none⟩ = some (.int .i64 n) ∧ w'.cell? ⟨w.heap.size, 2, none⟩ = some (.slice a m cap) ∧ w'.cell? ⟨w.heap.size + 1, 0, none⟩ = some (.string b) ∧ w'.cell? ⟨w.heap.size + 1, 1, none⟩ = some (.string q) ∧ Below w0.heap.size w0 w') (first | assumption | exact HX0.out _ (Below.refl _ _).drew) (first
    | (go_at_call 87; refine (HF.out _ HK8.out _ hb3).mono ?_; rintro e4 w4 ⟨rfl, hb4⟩; have hS4 := HX0.out _ hb4)
    | (go_at_call 87; refine (HF.out _ HK9.out _ (by first | exact (Below.refl _ _).drew | exact Below.refl _ _)).mono ?_; rintro e3 w3 ⟨rfl, hb3⟩; have hS3 := HX0.out _ hb3) | fail)
  go_wp2
  go_ret2
  exact ⟨rfl, HB1.out.trans (hb4.mono HB1.out.size)⟩
theorem bothSameLead (s : ByteArray) (hs : s.size ≤ maxLen) (n : Int) (L : List (List Nat)) (hl : L.length ≤ 2000000) (hsm : Small L) (b q : ByteArray) (hb : b.size ≤ maxLen) (hq : q.size ≤ maxLen) (r r2 : ByteArray) (hr : r.size ≤ maxLen) (hr2 : r2.size ≤ maxLen) :
    ∃ (t : Bool) (f : Bool), (∀ u w, Txts w u L → Calls Try.prog 36 #[.agg #[.string s, .int .i64 n, u], .agg #[.string b, .string q], .string r, .string r2] w fun e w' => e = .returned (.tuple #[.bool t, .bool f]) ∧ Below w.heap.size w w') ∧
      (∀ u w, Txts w u L → Calls Try.prog 37 #[.agg #[.string s, .int .i64 n, u], .agg #[.string b, .string q], .string r, .string r2] w fun e w' => e = .returned (.tuple #[.bool t, .bool f]) ∧ Below w.heap.size w w') := by
  cases hk : (askK s n L b q r && kB r2)
  · exact ⟨_, _, fun u w h => iSameLead_no s hs n u L b q r r2 w h hl hk, fun u w h => sSameLead_no s hs n u L b q r r2 hb hq w h hl hsm hk⟩
  · unfold askK at hk
    rw [Bool.and_eq_true, Bool.and_eq_true] at hk
    obtain ⟨k, rfl⟩ := goodK_cast hk.1.1
    exact ⟨_, _, fun u w h => iSameLead_yes s hs k u L b q r r2 w h hl hk.1.1 hk.1.2 hk.2, fun u w h => sSameLead_yes s hs k u L b q r r2 hb hq w h hl hsm hk.1.1 hk.1.2 hk.2⟩

end Go.Proofs.Ytkhglknpcajmiaa
