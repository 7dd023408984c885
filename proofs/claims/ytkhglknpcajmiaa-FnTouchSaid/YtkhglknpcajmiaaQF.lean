/- CallHead, CallHeads, l8Row, CallRow, CallOrder in the model. -/
import Derived.Test.YtkhglknpcajmiaaQD
import Derived.Test.YtkhglknpcajmiaaQB
namespace Go.Proofs.Ytkhglknpcajmiaa
open Go.RowKit
set_option linter.unusedSimpArgs false
set_option linter.unusedVariables false

set_option maxRecDepth 100000 in
set_option maxHeartbeats 1000000 in
theorem sCallHead_no (s : ByteArray) (hs : s.size ≤ maxLen) (n : Int) (v : Value) (L : List (List Nat)) (b q r : ByteArray) (hb : b.size ≤ maxLen) (hq : q.size ≤ maxLen) (w : World) (h : Txts w v L) (hl : L.length ≤ 2000000) (hsm : Small L) (hk : askK s n L b q r = false) :
    Calls Try.prog 20 #[.agg #[.string s, .int .i64 n, v], .agg #[.string b, .string q], .string r] w fun e w' => e = .returned (.tuple #[.string ⟨#[]⟩, .bool false]) ∧ Below w.heap.size w w' := by
  obtain ⟨a, cap, rfl, hcap, -⟩ := id h
  have HT := Lib.hid h
  have HR0 := Lib.hid ((RowAt.new w 25 #[.string s, .int .i64 n, .slice a L.length cap]).push (.cells #[.string b, .string q] 27))
  have HK0 : Hid (RowAt ((w.alloc (.cells #[.string s, .int .i64 n, .slice a L.length cap] 25)).alloc (.cells #[.string b, .string q] 27)) (w.heap.size + 1) 27 #[.string b, .string q]) := Lib.hid (by
    have := RowAt.new (w.alloc (.cells #[.string s, .int .i64 n, .slice a L.length cap] 25)) 27 #[.string b, .string q]
    simpa using this)
  have HB0 := Lib.hid (((Below.refl _ w).alloc (Nat.le_refl _) (.cells #[.string s, .int .i64 n, .slice a L.length cap] 25)).alloc (by simp) (.cells #[.string b, .string q] 27))
  have HA := Lib.hid (fun w h => l8Asked_any s hs n (.slice a L.length cap) L b q r hb hq w h hl hsm)
  rw [hk] at HA
  clear h hcap hl hsm hb hq hk hs
  generalize L.length = m at *
  go_enter Try.func20, Try.ntmps20
  go_wp2_with (first | (refine wpList_load_row rfl 25 _ rfl _ rfl 25 _ _ _ (HR0.out) Try.underlying25 rfl (by kernel_rfl) ?_) | (refine wpList_load_row rfl 27 _ rfl _ rfl 27 _ _ _ (HK0.out) Try.underlying27 rfl (by kernel_rfl) ?_) | fail)
  refine (HA.out _ (HT.out.kept HB0.out)).mono ?_
  rintro e w1 ⟨rfl, hb1⟩
  have HR1 := Lib.hid (HR0.out.kept hb1)
  have HK1 := Lib.hid (HK0.out.kept hb1)
  have HB1 := Lib.hid (HB0.out.trans (hb1.mono HB0.out.size))
  clear hb1 HR0 HK0 HB0
  go_wp2
  go_ret2
  exact ⟨rfl, HB1.out⟩

set_option maxRecDepth 100000 in
set_option maxHeartbeats 1000000 in
theorem sCallHead_yes (s : ByteArray) (hs : s.size ≤ maxLen) (n : Nat) (v : Value) (L : List (List Nat)) (b q r : ByteArray) (hb : b.size ≤ maxLen) (hq : q.size ≤ maxLen) (w : World) (h : Txts w v L) (hl : L.length ≤ 2000000) (hsm : Small L) (hg : goodK s n L b q = true) (hk : kB r = true) :
    Calls Try.prog 20 #[.agg #[.string s, .int .i64 n, v], .agg #[.string b, .string q], .string r] w fun e w' => e = .returned (.tuple #[.string (strOf n (hdK n L b q (kN r))), .bool true]) ∧ Below w.heap.size w w' := by
  obtain ⟨a, cap, rfl, hcap, -⟩ := id h
  have HT := Lib.hid h
  have HR0 := Lib.hid ((RowAt.new w 25 #[.string s, .int .i64 n, .slice a L.length cap]).push (.cells #[.string b, .string q] 27))
  have HK0 : Hid (RowAt ((w.alloc (.cells #[.string s, .int .i64 n, .slice a L.length cap] 25)).alloc (.cells #[.string b, .string q] 27)) (w.heap.size + 1) 27 #[.string b, .string q]) := Lib.hid (by
    have := RowAt.new (w.alloc (.cells #[.string s, .int .i64 n, .slice a L.length cap] 25)) 27 #[.string b, .string q]
    simpa using this)
  have HB0 := Lib.hid (((Below.refl _ w).alloc (Nat.le_refl _) (.cells #[.string s, .int .i64 n, .slice a L.length cap] 25)).alloc (by simp) (.cells #[.string b, .string q] 27))
  have HA := Lib.hid (fun w h => l8Asked_any s hs n (.slice a L.length cap) L b q r hb hq w h hl hsm)
  rw [show askK s n L b q r = true by unfold askK; rw [hg, hk]; rfl] at HA
  have HH := Lib.hid (fun w h => l8Head_any s n (.slice a L.length cap) L b q r hg hk w h)
  generalize strOf n (hdK n L b q (kN r)) = res at *
  clear h hcap hl hsm hb hq hk hg hs
  generalize L.length = m at *
  go_enter Try.func20, Try.ntmps20
  go_wp2_with (first | (refine wpList_load_row rfl 25 _ rfl _ rfl 25 _ _ _ (HR0.out) Try.underlying25 rfl (by kernel_rfl) ?_) | (refine wpList_load_row rfl 27 _ rfl _ rfl 27 _ _ _ (HK0.out) Try.underlying27 rfl (by kernel_rfl) ?_) | fail)
  refine (HA.out _ (HT.out.kept HB0.out)).mono ?_
  rintro e w1 ⟨rfl, hb1⟩
  have HR1 := Lib.hid (HR0.out.kept hb1)
  have HK1 := Lib.hid (HK0.out.kept hb1)
  have HB1 := Lib.hid (HB0.out.trans (hb1.mono HB0.out.size))
  clear hb1 HR0 HK0 HB0
  go_wp2_with (first | (refine wpList_load_row rfl 25 _ rfl _ rfl 25 _ _ _ (HR1.out) Try.underlying25 rfl (by kernel_rfl) ?_) | (refine wpList_load_row rfl 27 _ rfl _ rfl 27 _ _ _ (HK1.out) Try.underlying27 rfl (by kernel_rfl) ?_) | fail)
  refine (HH.out _ (HT.out.kept HB1.out)).mono ?_
  rintro e w2 ⟨rfl, hb2⟩
  have HR2 := Lib.hid (HR1.out.kept hb2)
  have HK2 := Lib.hid (HK1.out.kept hb2)
  have HB2 := Lib.hid (HB1.out.trans (hb2.mono HB1.out.size))
  clear hb2 HR1 HK1 HB1
  go_wp2
  go_ret2
  exact ⟨rfl, HB2.out⟩

set_option maxRecDepth 100000 in
set_option maxHeartbeats 1000000 in
theorem l8Row_any (s : ByteArray) (n : Nat) (v : Value) (L : List (List Nat)) (b q r : ByteArray) (hg : goodK s n L b q = true) (hr : kB r = true) (w : World) (h : Txts w v L) :
    Calls Try.prog 89 #[.agg #[.string s, .int .i64 n, v], .agg #[.string b, .string q], .string r] w fun e w' => e = .returned (.string (strOf n (efK n L b q (kN r)))) ∧ Below w.heap.size w w' := by
  obtain ⟨a, cap, rfl, hcap, -⟩ := id h
  have HT := Lib.hid h
  have HR0 := Lib.hid ((RowAt.new w 25 #[.string s, .int .i64 n, .slice a L.length cap]).push (.cells #[.string b, .string q] 27))
  have HK0 : Hid (RowAt ((w.alloc (.cells #[.string s, .int .i64 n, .slice a L.length cap] 25)).alloc (.cells #[.string b, .string q] 27)) (w.heap.size + 1) 27 #[.string b, .string q]) := Lib.hid (by
    have := RowAt.new (w.alloc (.cells #[.string s, .int .i64 n, .slice a L.length cap] 25)) 27 #[.string b, .string q]
    simpa using this)
  have HB0 := Lib.hid (((Below.refl _ w).alloc (Nat.le_refl _) (.cells #[.string s, .int .i64 n, .slice a L.length cap] 25)).alloc (by simp) (.cells #[.string b, .string q] 27))
  have hgm := (goodK_parts hg).1
  have h1 := (goodAll_len (goodM_parts hgm).1).1
  have HH := Lib.hid (fun w h => l8Head_any s n (.slice a L.length cap) L b q r hg hr w h)
  have HP := Lib.hid (fun w h => l4Head_any s n (.slice a L.length cap) L (goodM_parts hgm).1 w h)
  rw [← hdK_zero b q h1] at HP
  have HTU := Lib.hid (fun w => l1Turn_any n (hdK n L b q 0) _ (isStr_strOf n _ (fun i _ => (isRow_hdK hg 0).byte i)) (isRow_hdK hg 0) w)
  have hi := isRow_inv (isRow_hdK hg 0)
  have hk := isRow_hdK hg (kN r)
  have HTI : Hid (∀ w, Calls Try.prog 99 #[.string (strOf n (invF n (hdK n L b q 0))), .string (strOf n (hdK n L b q (kN r)))] w fun e w' => e = .returned (.string (strOf n (efK n L b q (kN r)))) ∧ Below w.heap.size w w') := Lib.hid (fun w => (l1Times_any n _ _ _ _ (isStr_strOf n _ (fun i _ => hi.byte i)) (isStr_strOf n _ (fun i _ => hk.byte i)) hi.eight (fun i hi => ⟨hk.lo i hi, hk.hi i hi⟩) w).mono fun e w' hw => by
    obtain ⟨rfl, rfl⟩ := hw
    refine ⟨?_, Below.refl _ _⟩
    unfold efK
    rw [strOf_mul])
  generalize strOf n (efK n L b q (kN r)) = res at *
  generalize strOf n (hdK n L b q (kN r)) = th at *
  generalize strOf n (invF n (hdK n L b q 0)) = ti at *
  generalize strOf n (hdK n L b q 0) = tp at *
  clear h hcap hg hr hgm h1 hi hk
  generalize L.length = m at *
  go_enter Try.func89, Try.ntmps89
  go_wp2_with fail
  generalize (w.alloc (.cells #[.string s, .int .i64 n, .slice a m cap] 25)).alloc (.cells #[.string b, .string q] 27) = w0 at *
  have HX0 : Hid (∀ W', Below w0.heap.size w0 W' → (W'.cell? ⟨w.heap.size, 0, none⟩ = some (.string s) ∧ W'.cell? ⟨w.heap.size, 1, none⟩ = some (.int .i64 n) ∧ W'.cell? ⟨w.heap.size, 2, none⟩ = some (.slice a m cap) ∧ W'.cell? ⟨w.heap.size + 1, 0, none⟩ = some (.string b) ∧ W'.cell? ⟨w.heap.size + 1, 1, none⟩ = some (.string q) ∧ Below w0.heap.size w0 W')) := Lib.hid (fun W' h => by
    have hr := HR0.out.keep h HR0.out.lt
    have hk := HK0.out.keep h HK0.out.lt
    exact ⟨hr.cell 0 rfl, hr.cell 1 rfl, hr.cell 2 rfl, hk.cell 0 rfl, hk.cell 1 rfl, h⟩)
  have HF1 : Hid (∀ W', Below w0.heap.size w0 W' → Calls Try.prog 97 #[.agg #[.string s, .int .i64 n, .slice a m cap]] W' fun e w' => e = .returned (.string tp) ∧ Below w0.heap.size w0 w') := Lib.hid (fun W' h => (HP.out W' ((HT.out.kept HB0.out).kept h)).mono fun e w' hw => ⟨hw.1, h.trans (hw.2.mono h.size)⟩)
  have HF2 : Hid (∀ W', Below w0.heap.size w0 W' → Calls Try.prog 142 #[.string tp] W' fun e w' => e = .returned (.string ti) ∧ Below w0.heap.size w0 w') := Lib.hid (fun W' h => (HTU.out W').mono fun e w' hw => ⟨hw.1, h.trans (hw.2.mono h.size)⟩)
  have HF3 : Hid (∀ W', Below w0.heap.size w0 W' → Calls Try.prog 87 #[.agg #[.string s, .int .i64 n, .slice a m cap], .agg #[.string b, .string q], .string r] W' fun e w' => e = .returned (.string th) ∧ Below w0.heap.size w0 w') := Lib.hid (fun W' h => (HH.out W' ((HT.out.kept HB0.out).kept h)).mono fun e w' hw => ⟨hw.1, h.trans (hw.2.mono h.size)⟩)
  have HF4 : Hid (∀ W', Below w0.heap.size w0 W' → Calls Try.prog 99 #[.string ti, .string th] W' fun e w' => e = .returned (.string res) ∧ Below w0.heap.size w0 w') := Lib.hid (fun W' h => (HTI.out W').mono fun e w' hw => ⟨hw.1, h.trans (hw.2.mono h.size)⟩)
  go_region_held3 (fun w' => w'.cell? ⟨w.heap.size, 0, none⟩ = some (.string s) ∧ w'.cell? ⟨w.heap.size, 1, none⟩ = some (.int .i64 n) ∧ w'.cell? ⟨w.heap.size, 2, none⟩ = some (.slice a m cap) ∧ w'.cell? ⟨w.heap.size + 1, 0, none⟩ = some (.string b) ∧ w'.cell? ⟨w.heap.size + 1, 1, none⟩ = some (.string q) ∧ Below w0.heap.size w0 w') (first | assumption | exact HX0.out _ (Below.refl _ _).drew) (first
    | (go_at_call 97; refine (HF1.out _ (by first | assumption | exact (Below.refl _ _).drew | exact Below.refl _ _)).mono ?_; rintro e3 w3 ⟨rfl, hb3⟩; have hS3 := HX0.out _ hb3)
    | (go_at_call 142; refine (HF2.out _ hb3).mono ?_; rintro e4 w4 ⟨rfl, hb4⟩; have hS4 := HX0.out _ hb4)
    | (go_at_call 87; refine (HF3.out _ hb4).mono ?_; rintro e5 w5 ⟨rfl, hb5⟩; have hS5 := HX0.out _ hb5)
    | (go_at_call 99; refine (HF4.out _ hb5).mono ?_; rintro e6 w6 ⟨rfl, hb6⟩; have hS6 := HX0.out _ hb6) | fail)
  go_wp2
  go_ret
  exact ⟨rfl, HB0.out.trans (hb6.mono HB0.out.size)⟩

set_option maxRecDepth 100000 in
set_option maxHeartbeats 1000000 in
theorem sCallRow_no (s : ByteArray) (hs : s.size ≤ maxLen) (n : Int) (v : Value) (L : List (List Nat)) (b q r : ByteArray) (hb : b.size ≤ maxLen) (hq : q.size ≤ maxLen) (w : World) (h : Txts w v L) (hl : L.length ≤ 2000000) (hsm : Small L) (hk : askK s n L b q r = false) :
    Calls Try.prog 22 #[.agg #[.string s, .int .i64 n, v], .agg #[.string b, .string q], .string r] w fun e w' => e = .returned (.tuple #[.string ⟨#[]⟩, .bool false]) ∧ Below w.heap.size w w' := by
  obtain ⟨a, cap, rfl, hcap, -⟩ := id h
  have HT := Lib.hid h
  have HR0 := Lib.hid ((RowAt.new w 25 #[.string s, .int .i64 n, .slice a L.length cap]).push (.cells #[.string b, .string q] 27))
  have HK0 : Hid (RowAt ((w.alloc (.cells #[.string s, .int .i64 n, .slice a L.length cap] 25)).alloc (.cells #[.string b, .string q] 27)) (w.heap.size + 1) 27 #[.string b, .string q]) := Lib.hid (by
    have := RowAt.new (w.alloc (.cells #[.string s, .int .i64 n, .slice a L.length cap] 25)) 27 #[.string b, .string q]
    simpa using this)
  have HB0 := Lib.hid (((Below.refl _ w).alloc (Nat.le_refl _) (.cells #[.string s, .int .i64 n, .slice a L.length cap] 25)).alloc (by simp) (.cells #[.string b, .string q] 27))
  have HA := Lib.hid (fun w h => l8Asked_any s hs n (.slice a L.length cap) L b q r hb hq w h hl hsm)
  rw [hk] at HA
  clear h hcap hl hsm hb hq hk hs
  generalize L.length = m at *
  go_enter Try.func22, Try.ntmps22
  go_wp2_with (first | (refine wpList_load_row rfl 25 _ rfl _ rfl 25 _ _ _ (HR0.out) Try.underlying25 rfl (by kernel_rfl) ?_) | (refine wpList_load_row rfl 27 _ rfl _ rfl 27 _ _ _ (HK0.out) Try.underlying27 rfl (by kernel_rfl) ?_) | fail)
  refine (HA.out _ (HT.out.kept HB0.out)).mono ?_
  rintro e w1 ⟨rfl, hb1⟩
  have HR1 := Lib.hid (HR0.out.kept hb1)
  have HK1 := Lib.hid (HK0.out.kept hb1)
  have HB1 := Lib.hid (HB0.out.trans (hb1.mono HB0.out.size))
  clear hb1 HR0 HK0 HB0
  go_wp2
  go_ret2
  exact ⟨rfl, HB1.out⟩

set_option maxRecDepth 100000 in
set_option maxHeartbeats 1000000 in
theorem sCallRow_yes (s : ByteArray) (hs : s.size ≤ maxLen) (n : Nat) (v : Value) (L : List (List Nat)) (b q r : ByteArray) (hb : b.size ≤ maxLen) (hq : q.size ≤ maxLen) (w : World) (h : Txts w v L) (hl : L.length ≤ 2000000) (hsm : Small L) (hg : goodK s n L b q = true) (hk : kB r = true) :
    Calls Try.prog 22 #[.agg #[.string s, .int .i64 n, v], .agg #[.string b, .string q], .string r] w fun e w' => e = .returned (.tuple #[.string (strOf n (efK n L b q (kN r))), .bool true]) ∧ Below w.heap.size w w' := by
  obtain ⟨a, cap, rfl, hcap, -⟩ := id h
  have HT := Lib.hid h
  have HR0 := Lib.hid ((RowAt.new w 25 #[.string s, .int .i64 n, .slice a L.length cap]).push (.cells #[.string b, .string q] 27))
  have HK0 : Hid (RowAt ((w.alloc (.cells #[.string s, .int .i64 n, .slice a L.length cap] 25)).alloc (.cells #[.string b, .string q] 27)) (w.heap.size + 1) 27 #[.string b, .string q]) := Lib.hid (by
    have := RowAt.new (w.alloc (.cells #[.string s, .int .i64 n, .slice a L.length cap] 25)) 27 #[.string b, .string q]
    simpa using this)
  have HB0 := Lib.hid (((Below.refl _ w).alloc (Nat.le_refl _) (.cells #[.string s, .int .i64 n, .slice a L.length cap] 25)).alloc (by simp) (.cells #[.string b, .string q] 27))
  have HA := Lib.hid (fun w h => l8Asked_any s hs n (.slice a L.length cap) L b q r hb hq w h hl hsm)
  rw [show askK s n L b q r = true by unfold askK; rw [hg, hk]; rfl] at HA
  have HH := Lib.hid (fun w h => l8Row_any s n (.slice a L.length cap) L b q r hg hk w h)
  generalize strOf n (efK n L b q (kN r)) = res at *
  clear h hcap hl hsm hb hq hk hg hs
  generalize L.length = m at *
  go_enter Try.func22, Try.ntmps22
  go_wp2_with (first | (refine wpList_load_row rfl 25 _ rfl _ rfl 25 _ _ _ (HR0.out) Try.underlying25 rfl (by kernel_rfl) ?_) | (refine wpList_load_row rfl 27 _ rfl _ rfl 27 _ _ _ (HK0.out) Try.underlying27 rfl (by kernel_rfl) ?_) | fail)
  refine (HA.out _ (HT.out.kept HB0.out)).mono ?_
  rintro e w1 ⟨rfl, hb1⟩
  have HR1 := Lib.hid (HR0.out.kept hb1)
  have HK1 := Lib.hid (HK0.out.kept hb1)
  have HB1 := Lib.hid (HB0.out.trans (hb1.mono HB0.out.size))
  clear hb1 HR0 HK0 HB0
  go_wp2_with (first | (refine wpList_load_row rfl 25 _ rfl _ rfl 25 _ _ _ (HR1.out) Try.underlying25 rfl (by kernel_rfl) ?_) | (refine wpList_load_row rfl 27 _ rfl _ rfl 27 _ _ _ (HK1.out) Try.underlying27 rfl (by kernel_rfl) ?_) | fail)
  refine (HH.out _ (HT.out.kept HB1.out)).mono ?_
  rintro e w2 ⟨rfl, hb2⟩
  have HR2 := Lib.hid (HR1.out.kept hb2)
  have HK2 := Lib.hid (HK1.out.kept hb2)
  have HB2 := Lib.hid (HB1.out.trans (hb2.mono HB1.out.size))
  clear hb2 HR1 HK1 HB1
  go_wp2
  go_ret2
  exact ⟨rfl, HB2.out⟩

set_option maxRecDepth 100000 in
set_option maxHeartbeats 1000000 in
theorem sCallOrder_no (s : ByteArray) (hs : s.size ≤ maxLen) (n : Int) (v : Value) (L : List (List Nat)) (b q r : ByteArray) (hb : b.size ≤ maxLen) (hq : q.size ≤ maxLen) (w : World) (h : Txts w v L) (hl : L.length ≤ 2000000) (hsm : Small L) (hk : askK s n L b q r = false) :
    Calls Try.prog 24 #[.agg #[.string s, .int .i64 n, v], .agg #[.string b, .string q], .string r] w fun e w' => e = .returned (.tuple #[.int .i64 0, .bool false]) ∧ Below w.heap.size w w' := by
  obtain ⟨a, cap, rfl, hcap, -⟩ := id h
  have HT := Lib.hid h
  have HR0 := Lib.hid ((RowAt.new w 25 #[.string s, .int .i64 n, .slice a L.length cap]).push (.cells #[.string b, .string q] 27))
  have HK0 : Hid (RowAt ((w.alloc (.cells #[.string s, .int .i64 n, .slice a L.length cap] 25)).alloc (.cells #[.string b, .string q] 27)) (w.heap.size + 1) 27 #[.string b, .string q]) := Lib.hid (by
    have := RowAt.new (w.alloc (.cells #[.string s, .int .i64 n, .slice a L.length cap] 25)) 27 #[.string b, .string q]
    simpa using this)
  have HB0 := Lib.hid (((Below.refl _ w).alloc (Nat.le_refl _) (.cells #[.string s, .int .i64 n, .slice a L.length cap] 25)).alloc (by simp) (.cells #[.string b, .string q] 27))
  have HA := Lib.hid (fun w h => l8Asked_any s hs n (.slice a L.length cap) L b q r hb hq w h hl hsm)
  rw [hk] at HA
  clear h hcap hl hsm hb hq hk hs
  generalize L.length = m at *
  go_enter Try.func24, Try.ntmps24
  go_wp2_with (first | (refine wpList_load_row rfl 25 _ rfl _ rfl 25 _ _ _ (HR0.out) Try.underlying25 rfl (by kernel_rfl) ?_) | (refine wpList_load_row rfl 27 _ rfl _ rfl 27 _ _ _ (HK0.out) Try.underlying27 rfl (by kernel_rfl) ?_) | fail)
  refine (HA.out _ (HT.out.kept HB0.out)).mono ?_
  rintro e w1 ⟨rfl, hb1⟩
  have HR1 := Lib.hid (HR0.out.kept hb1)
  have HK1 := Lib.hid (HK0.out.kept hb1)
  have HB1 := Lib.hid (HB0.out.trans (hb1.mono HB0.out.size))
  clear hb1 HR0 HK0 HB0
  go_wp2
  go_ret2
  exact ⟨rfl, HB1.out⟩

set_option maxRecDepth 100000 in
set_option maxHeartbeats 1000000 in
theorem sCallOrder_yes (s : ByteArray) (hs : s.size ≤ maxLen) (n : Nat) (v : Value) (L : List (List Nat)) (b q r : ByteArray) (hb : b.size ≤ maxLen) (hq : q.size ≤ maxLen) (w : World) (h : Txts w v L) (hl : L.length ≤ 2000000) (hsm : Small L) (hg : goodK s n L b q = true) (hk : kB r = true) (o : Nat) (ho : IsOrd n (efK n L b q (kN r)) o) :
    Calls Try.prog 24 #[.agg #[.string s, .int .i64 n, v], .agg #[.string b, .string q], .string r] w fun e w' => e = .returned (.tuple #[.int .i64 o, .bool true]) ∧ Below w.heap.size w w' := by
  obtain ⟨a, cap, rfl, hcap, -⟩ := id h
  have HT := Lib.hid h
  have HR0 := Lib.hid ((RowAt.new w 25 #[.string s, .int .i64 n, .slice a L.length cap]).push (.cells #[.string b, .string q] 27))
  have HK0 : Hid (RowAt ((w.alloc (.cells #[.string s, .int .i64 n, .slice a L.length cap] 25)).alloc (.cells #[.string b, .string q] 27)) (w.heap.size + 1) 27 #[.string b, .string q]) := Lib.hid (by
    have := RowAt.new (w.alloc (.cells #[.string s, .int .i64 n, .slice a L.length cap] 25)) 27 #[.string b, .string q]
    simpa using this)
  have HB0 := Lib.hid (((Below.refl _ w).alloc (Nat.le_refl _) (.cells #[.string s, .int .i64 n, .slice a L.length cap] 25)).alloc (by simp) (.cells #[.string b, .string q] 27))
  have HA := Lib.hid (fun w h => l8Asked_any s hs n (.slice a L.length cap) L b q r hb hq w h hl hsm)
  rw [show askK s n L b q r = true by unfold askK; rw [hg, hk]; rfl] at HA
  have HH := Lib.hid (fun w h => l8Row_any s n (.slice a L.length cap) L b q r hg hk w h)
  have HO := Lib.hid (l1Order_any n (efK n L b q (kN r)) (isRow_efK hg _) o ho)
  generalize strOf n (efK n L b q (kN r)) = res at *
  clear h hcap hl hsm hb hq hk hg hs ho
  generalize L.length = m at *
  go_enter Try.func24, Try.ntmps24
  go_wp2_with (first | (refine wpList_load_row rfl 25 _ rfl _ rfl 25 _ _ _ (HR0.out) Try.underlying25 rfl (by kernel_rfl) ?_) | (refine wpList_load_row rfl 27 _ rfl _ rfl 27 _ _ _ (HK0.out) Try.underlying27 rfl (by kernel_rfl) ?_) | fail)
  refine (HA.out _ (HT.out.kept HB0.out)).mono ?_
  rintro e w1 ⟨rfl, hb1⟩
  have HR1 := Lib.hid (HR0.out.kept hb1)
  have HK1 := Lib.hid (HK0.out.kept hb1)
  have HB1 := Lib.hid (HB0.out.trans (hb1.mono HB0.out.size))
  clear hb1 HR0 HK0 HB0
  go_wp2_with (first | (refine wpList_load_row rfl 25 _ rfl _ rfl 25 _ _ _ (HR1.out) Try.underlying25 rfl (by kernel_rfl) ?_) | (refine wpList_load_row rfl 27 _ rfl _ rfl 27 _ _ _ (HK1.out) Try.underlying27 rfl (by kernel_rfl) ?_) | fail)
  refine (HH.out _ (HT.out.kept HB1.out)).mono ?_
  rintro e w2 ⟨rfl, hb2⟩
  have HR2 := Lib.hid (HR1.out.kept hb2)
  have HK2 := Lib.hid (HK1.out.kept hb2)
  have HB2 := Lib.hid (HB1.out.trans (hb2.mono HB1.out.size))
  clear hb2 HR1 HK1 HB1
  go_wp2_with fail
  refine (HO.out _).mono ?_
  rintro e w3 ⟨rfl, rfl⟩
  go_wp2
  go_ret2
  exact ⟨rfl, HB2.out⟩

set_option maxRecDepth 100000 in
set_option maxHeartbeats 1000000 in
theorem sCallHeads_no (s : ByteArray) (hs : s.size ≤ maxLen) (n : Int) (v : Value) (L : List (List Nat)) (b q : ByteArray) (hb : b.size ≤ maxLen) (hq : q.size ≤ maxLen) (w : World) (h : Txts w v L) (hl : L.length ≤ 2000000) (hsm : Small L) (hg : goodK s n L b q = false) :
    Calls Try.prog 39 #[.agg #[.string s, .int .i64 n, v], .agg #[.string b, .string q]] w (TextsAny [] false w) := by
  obtain ⟨a, cap, rfl, hcap, -⟩ := id h
  have HT := Lib.hid h
  have HR0 := Lib.hid ((RowAt.new w 25 #[.string s, .int .i64 n, .slice a L.length cap]).push (.cells #[.string b, .string q] 27))
  have HK0 : Hid (RowAt ((w.alloc (.cells #[.string s, .int .i64 n, .slice a L.length cap] 25)).alloc (.cells #[.string b, .string q] 27)) (w.heap.size + 1) 27 #[.string b, .string q]) := Lib.hid (by
    have := RowAt.new (w.alloc (.cells #[.string s, .int .i64 n, .slice a L.length cap] 25)) 27 #[.string b, .string q]
    simpa using this)
  have HB0 := Lib.hid (((Below.refl _ w).alloc (Nat.le_refl _) (.cells #[.string s, .int .i64 n, .slice a L.length cap] 25)).alloc (by simp) (.cells #[.string b, .string q] 27))
  have HA := Lib.hid (fun w h => l8Good_any s hs n (.slice a L.length cap) L b q hb hq w h hl hsm)
  rw [hg] at HA
  clear h hcap hl hsm hb hq hg hs
  generalize L.length = m at *
  go_enter Try.func39, Try.ntmps39
  go_wp2_with (first | (refine wpList_load_row rfl 25 _ rfl _ rfl 25 _ _ _ (HR0.out) Try.underlying25 rfl (by kernel_rfl) ?_) | (refine wpList_load_row rfl 27 _ rfl _ rfl 27 _ _ _ (HK0.out) Try.underlying27 rfl (by kernel_rfl) ?_) | fail)
  refine (HA.out _ (HT.out.kept HB0.out)).mono ?_
  rintro e w1 ⟨rfl, hb1⟩
  have HR1 := Lib.hid (HR0.out.kept hb1)
  have HK1 := Lib.hid (HK0.out.kept hb1)
  have HB1 := Lib.hid (HB0.out.trans (hb1.mono HB0.out.size))
  clear hb1 HR0 HK0 HB0
  go_wp2
  go_ret2
  exact ⟨_, rfl, New.nil _ _ _, HB1.out⟩
end Go.Proofs.Ytkhglknpcajmiaa
