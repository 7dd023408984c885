/- CallHeads in the model, both of it. -/
import Derived.Test.YtkhglknpcajmiaaQH
import Derived.Test.YtkhglknpcajmiaaQL
namespace Go.Proofs.Ytkhglknpcajmiaa
open Go.RowKit
set_option linter.unusedSimpArgs false
set_option linter.unusedVariables false

theorem new_three (B : Nat) (W : World) (t0 t1 t2 : ByteArray) (hB : B ≤ W.heap.size) : New B (W.alloc (.cells #[.string t0, .string t1, .string t2] 9)) 9 (.slice (some ⟨W.heap.size, 0, none⟩) 3 3) [.string t0, .string t1, .string t2] :=
  New.of_row ⟨rfl, .inr ⟨W.heap.size, 3, #[.string t0, .string t1, .string t2], rfl, hB, heap_alloc_new _ _, Nat.le_refl _, by unfold maxLen; omega, rfl, rfl⟩⟩ rfl

set_option maxRecDepth 100000 in
set_option maxHeartbeats 1000000 in
theorem sCallHeads_yes (s : ByteArray) (hs : s.size ≤ maxLen) (n : Nat) (v : Value) (L : List (List Nat)) (b q : ByteArray) (hb : b.size ≤ maxLen) (hq : q.size ≤ maxLen) (w : World) (h : Txts w v L) (hl : L.length ≤ 2000000) (hsm : Small L) (hg : goodK s n L b q = true) :
    Calls Try.prog 39 #[.agg #[.string s, .int .i64 n, v], .agg #[.string b, .string q]] w (TextsAny (rowsL n [hdK n L b q 0, hdK n L b q 1, hdK n L b q 2]) true w) := by
  obtain ⟨a, cap, rfl, hcap, -⟩ := id h
  have HT := Lib.hid h
  have HR0 := Lib.hid ((RowAt.new w 25 #[.string s, .int .i64 n, .slice a L.length cap]).push (.cells #[.string b, .string q] 27))
  have HK0 : Hid (RowAt ((w.alloc (.cells #[.string s, .int .i64 n, .slice a L.length cap] 25)).alloc (.cells #[.string b, .string q] 27)) (w.heap.size + 1) 27 #[.string b, .string q]) := Lib.hid (by
    have := RowAt.new (w.alloc (.cells #[.string s, .int .i64 n, .slice a L.length cap] 25)) 27 #[.string b, .string q]
    simpa using this)
  have HB0 := Lib.hid (((Below.refl _ w).alloc (Nat.le_refl _) (.cells #[.string s, .int .i64 n, .slice a L.length cap] 25)).alloc (by simp) (.cells #[.string b, .string q] 27))
  have HA := Lib.hid (fun w h => l8Good_any s hs n (.slice a L.length cap) L b q hb hq w h hl hsm)
  rw [hg] at HA
  have HH : Hid (∀ r, kB r = true → ∀ w, Txts w (.slice a L.length cap) L → Calls Try.prog 87 #[.agg #[.string s, .int .i64 n, .slice a L.length cap], .agg #[.string b, .string q], .string r] w fun e w' => e = .returned (.string ((fun r => strOf n (hdK n L b q (kN r))) r)) ∧ Below w.heap.size w w') := Lib.hid (fun r hr w h => l8Head_any s n (.slice a L.length cap) L b q r hg hr w h)
  have hres : strs (rowsL n [hdK n L b q 0, hdK n L b q 1, hdK n L b q 2]) = [.string ((fun r => strOf n (hdK n L b q (kN r))) ⟨#[112]⟩), .string ((fun r => strOf n (hdK n L b q (kN r))) ⟨#[98]⟩), .string ((fun r => strOf n (hdK n L b q (kN r))) ⟨#[115]⟩)] := by
    simp only [strs, rowsL, List.map_cons, List.map_nil, txt_rowL]
    rfl
  unfold TextsAny
  rw [hres]
  generalize (fun r => strOf n (hdK n L b q (kN r))) = tf at *
  have hkp : kB ⟨#[112]⟩ = true := rfl
  have hkb : kB ⟨#[98]⟩ = true := rfl
  have hks : kB ⟨#[115]⟩ = true := rfl
  clear h hcap hl hsm hb hq hg hs hres
  generalize L.length = m at *
  go_enter Try.func39, Try.ntmps39
  go_wp2_with (first | (refine wpList_load_row rfl 25 _ rfl _ rfl 25 _ _ _ (HR0.out) Try.underlying25 rfl (by kernel_rfl) ?_) | (refine wpList_load_row rfl 27 _ rfl _ rfl 27 _ _ _ (HK0.out) Try.underlying27 rfl (by kernel_rfl) ?_) | fail)
  refine (HA.out _ (HT.out.kept HB0.out)).mono ?_
  rintro e w0 ⟨rfl, hb0⟩
  have HR1 := Lib.hid (HR0.out.kept hb0)
  have HK1 := Lib.hid (HK0.out.kept hb0)
  have HB1 := Lib.hid (HB0.out.trans (hb0.mono HB0.out.size))
  clear hb0 HR0 HK0 HB0
  go_wp2
  have HX0 : Hid (∀ W', Below w0.heap.size w0 W' → (W'.cell? ⟨w.heap.size, 0, none⟩ = some (.string s) ∧ W'.cell? ⟨w.heap.size, 1, none⟩ = some (.int .i64 n) ∧ W'.cell? ⟨w.heap.size, 2, none⟩ = some (.slice a m cap) ∧ W'.cell? ⟨w.heap.size + 1, 0, none⟩ = some (.string b) ∧ W'.cell? ⟨w.heap.size + 1, 1, none⟩ = some (.string q) ∧ Below w0.heap.size w0 W')) := Lib.hid (fun W' h => by
    have hr := HR1.out.keep h HR1.out.lt
    have hk := HK1.out.keep h HK1.out.lt
    exact ⟨hr.cell 0 rfl, hr.cell 1 rfl, hr.cell 2 rfl, hk.cell 0 rfl, hk.cell 1 rfl, h⟩)
  have HF : Hid (∀ r, kB r = true → ∀ W', Below w0.heap.size w0 W' → Calls Try.prog 87 #[.agg #[.string s, .int .i64 n, .slice a m cap], .agg #[.string b, .string q], .string r] W' fun e w' => e = .returned (.string (tf r)) ∧ Below w0.heap.size w0 w') := Lib.hid (fun r hr W' h => (HH.out r hr W' ((HT.out.kept HB1.out).kept h)).mono fun e w' hw => ⟨hw.1, h.trans (hw.2.mono h.size)⟩)
  go_region_held3 (fun w' => w'.cell? ⟨w.heap.size, 0, none⟩ = some (.string s) ∧ w'.cell? ⟨w.heap.size, 1, none⟩ = some (.int .i64 n) ∧ w'.cell? ⟨w.heap.size, 2, none⟩ = some (.slice a m cap) ∧ w'.cell? ⟨w.heap.size + 1, 0, none⟩ = some (.string b) ∧ w'.cell? ⟨w.heap.size + 1, 1, none⟩ = some (.string q) ∧ Below w0.heap.size w0 w') (first | assumption | exact HX0.out _ (Below.refl _ _).drew | exact HX0.out _ (hb5.alloc hb5.size _)) (first
    | (go_at_call 87; refine (HF.out _ (by first | exact hkp | exact hkb | exact hks) _ hb4).mono ?_; rintro e5 w5 ⟨rfl, hb5⟩; have hS5 := HX0.out _ hb5)
    | (go_at_call 87; refine (HF.out _ (by first | exact hkp | exact hkb | exact hks) _ hb3).mono ?_; rintro e4 w4 ⟨rfl, hb4⟩; have hS4 := HX0.out _ hb4)
    | (go_at_call 87; refine (HF.out _ (by first | exact hkp | exact hkb | exact hks) _ (by first | exact (Below.refl _ _).drew | exact Below.refl _ _)).mono ?_; rintro e3 w3 ⟨rfl, hb3⟩; have hS3 := HX0.out _ hb3) | fail)
  have HN5 := Lib.hid (new_three w.heap.size w5 (tf ⟨#[112]⟩) (tf ⟨#[98]⟩) (tf ⟨#[115]⟩) (HB1.out.trans (hb5.mono HB1.out.size)).size)
  have HB5 := Lib.hid ((HB1.out.trans (hb5.mono HB1.out.size)).alloc (HB1.out.trans (hb5.mono HB1.out.size)).size (.cells #[.string (tf ⟨#[112]⟩), .string (tf ⟨#[98]⟩), .string (tf ⟨#[115]⟩)] 9))
  go_wp2
  go_ret2
  exact ⟨_, rfl, HN5.out, HB5.out⟩
theorem bothCallHeads (s : ByteArray) (hs : s.size ≤ maxLen) (n : Int) (L : List (List Nat)) (hl : L.length ≤ 2000000) (hsm : Small L) (b q : ByteArray) (hb : b.size ≤ maxLen) (hq : q.size ≤ maxLen) :
    ∃ (P : List (List Nat)) (f : Bool), P.length ≤ 1000 ∧ (∀ u w, Txts w u L → Calls Try.prog 38 #[.agg #[.string s, .int .i64 n, u], .agg #[.string b, .string q]] w (TextsAny P f w)) ∧
      (∀ u w, Txts w u L → Calls Try.prog 39 #[.agg #[.string s, .int .i64 n, u], .agg #[.string b, .string q]] w (TextsAny P f w)) := by
  cases hk : goodK s n L b q
  · exact ⟨[], _, by simp, fun u w h => iCallHeads_no s hs n u L b q w h hl hk, fun u w h => sCallHeads_no s hs n u L b q hb hq w h hl hsm hk⟩
  · obtain ⟨k, rfl⟩ := goodK_cast hk
    exact ⟨_, _, by simp [rowsL], fun u w h => iCallHeads_yes s hs k u L b q w h hl hk, fun u w h => sCallHeads_yes s hs k u L b q hb hq w h hl hsm hk⟩
end Go.Proofs.Ytkhglknpcajmiaa
