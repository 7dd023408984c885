/- The heads of a touch in the model. -/
import Derived.Test.YtkhglknpcajmiaaXQ
namespace Go.Proofs.Ytkhglknpcajmiaa
open Go.RowKit
set_option linter.unusedSimpArgs false
set_option linter.unusedVariables false

theorem turnsT_at (n : Nat) (L : List (List Nat)) (b q t : ByteArray) (j : Nat) (h : j < (turnsT n L b q t).length) : (turnsT n L b q t)[j] = hdK n L b q (kcN (dg t j)) := by
  simp [turnsT, kindsT, lets]
theorem new_oneT (B : Nat) (W : World) (x : ByteArray) (hB : B ≤ W.heap.size) : New B (W.alloc (.cells #[.string x] 9)) 9 (.slice (some ⟨W.heap.size, 0, none⟩) 1 1) [.string x] :=
  New.of_row ⟨rfl, .inr ⟨W.heap.size, 1, #[.string x], rfl, hB, heap_alloc_new _ _, Nat.le_refl _, by unfold maxLen; omega, rfl, rfl⟩⟩ rfl

set_option maxRecDepth 100000 in
set_option maxHeartbeats 1000000 in
set_option maxHeartbeats 4000000 in
theorem l9Heads_any (s : ByteArray) (n : Nat) (v : Value) (L : List (List Nat)) (b q t : ByteArray) (hg : goodK s n L b q = true) (hgt : goodT t = true) (w : World) (h : Txts w v L) :
    Calls Try.prog 111 #[.agg #[.string s, .int .i64 n, v], .agg #[.string b, .string q], .string t] w (TextsOut (rowsL n (headsT n L b q t)) w) := by
  obtain ⟨a, cap, rfl, hcap, -⟩ := id h
  unfold TextsOut headsT headF
  have HT := Lib.hid h
  obtain ⟨h3, h8, hrows, h40, h1⟩ := goodM_nat (goodK_parts hg).1
  obtain ⟨ht1, ht60, hall⟩ := goodT_parts hgt
  have HRD := Lib.hid (l1Rounds_any n h8)
  have HHJ : Hid (∀ j (hj : j < (turnsT n L b q t).length), ∀ w, Txts w (.slice a L.length cap) L → Calls Try.prog 87 #[.agg #[.string s, .int .i64 n, .slice a L.length cap], .agg #[.string b, .string q], .string (t.extract j (j + 1))] w fun e w' => e = .returned (.string (strOf n (turnsT n L b q t)[j])) ∧ Below w.heap.size w w') := Lib.hid (fun j hj w h => by
    rw [turnsT_at]
    rw [turnsT_len] at hj
    have := l8Head_any s n (.slice a L.length cap) L b q (t.extract j (j + 1)) hg (by rw [sub_one t j hj, kB_one _ (dg_lt t j)]; exact hall j hj) w h
    rwa [sub_one t j hj, kN_one _ (dg_lt t j), ← sub_one t j hj] at this)
  have HTI : Hid (∀ f g, IsRow n f → IsRow n g → ∀ w, Calls Try.prog 99 #[.string (strOf n f), .string (strOf n g)] w fun e w' => e = .returned (.string (strOf n (mulR n f g))) ∧ Below w.heap.size w w') := Lib.hid (fun f g hf hg w => (l1Times_any n _ _ _ _ (isStr_strOf n _ (fun i hi => by have := hf.hi i hi; omega)) (isStr_strOf n _ (fun i hi => by have := hg.hi i hi; omega)) h8 (fun i hi => ⟨hg.lo i hi, hg.hi i hi⟩) w).mono (fun e w' hw => ⟨by rw [hw.1]; exact congrArg (fun x => Ending.returned (.string x)) (strOf_congr fun i hi => (mulR_at f g hi).symm), by rw [hw.2]; exact Below.refl _ _⟩))
  have HTR := Lib.hid (rows_turnsT hg t)
  have hlen := turnsT_len n L b q t
  have HRF := Lib.hid (isRow_rdf h3 h8)
  rw [← strOf_rdf] at HRD
  generalize hD : rowsL n (leadF n (turnsT n L b q t) (rdf n) ++ [endF n (turnsT n L b q t) (rdf n)]) = D
  have HD := Lib.hid hD
  generalize turnsT n L b q t = ts at *
  generalize rdf n = f at *
  have HR0 := Lib.hid ((RowAt.new w 25 #[.string s, .int .i64 n, .slice a L.length cap]).push (.cells #[.string b, .string q] 27))
  have HK0 : Hid (RowAt ((w.alloc (.cells #[.string s, .int .i64 n, .slice a L.length cap] 25)).alloc (.cells #[.string b, .string q] 27)) (w.heap.size + 1) 27 #[.string b, .string q]) := Lib.hid (by
    have := RowAt.new (w.alloc (.cells #[.string s, .int .i64 n, .slice a L.length cap] 25)) 27 #[.string b, .string q]
    simpa using this)
  have HB0 := Lib.hid (((Below.refl _ w).alloc (Nat.le_refl _) (.cells #[.string s, .int .i64 n, .slice a L.length cap] 25)).alloc (by simp) (.cells #[.string b, .string q] 27))
  obtain ⟨i0, hi0, hz0, hz1, hz2⟩ := info_parts infoText
  have I0 := Lib.hid (⟨hi0, hz0, hz1, hz2⟩ : _ ∧ _ ∧ _ ∧ _)
  obtain ⟨p, hp⟩ : ∃ p, t.size = p := ⟨_, rfl⟩
  have HP := Lib.hid hp
  have hpi : (t.size : Int) ≤ 60 := by omega
  rw [hp] at hlen ht60
  have HM := Lib.hid hlen
  clear h hcap hg hgt h3 h8 hrows h40 h1 ht1 hall hD hi0 hz0 hz1 hz2 hp hlen
  generalize L.length = m at *
  have c1 := HR0.out.cell 1 rfl
  go_enter Try.func111, Try.ntmps111
  go_wp2_with (first | (go_at_call 101; refine (HRD.out _).mono ?_; rintro e3 w3 ⟨rfl, rfl⟩) | fail)
  have hal := (Below.refl ((w.alloc (.cells #[.string s, .int .i64 n, .slice a m cap] 25)).alloc (.cells #[.string b, .string q] 27)).heap.size ((w.alloc (.cells #[.string s, .int .i64 n, .slice a m cap] 25)).alloc (.cells #[.string b, .string q] 27))).alloc (Nat.le_refl _) (.cells #[.string (strOf n f)] 9)
  have HR1 := Lib.hid (HR0.out.kept hal)
  have HK1 := Lib.hid (HK0.out.kept hal)
  have HB1 := Lib.hid (HB0.out.trans (hal.mono HB0.out.size))
  have hn1 := new_oneT w.heap.size ((w.alloc (.cells #[.string s, .int .i64 n, .slice a m cap] 25)).alloc (.cells #[.string b, .string q] 27)) (strOf n f) HB0.out.size
  simp only [World.size_alloc] at hn1
  have HN1 := Lib.hid (show New w.heap.size _ 9 (.slice (some ⟨w.heap.size + 1 + 1, 0, none⟩) 1 1) (strs ([] ++ [rowL n f])) from by
    rw [List.nil_append, show strs [rowL n f] = [.string (strOf n f)] by rw [← txt_rowL]; rfl]
    exact hn1)
  clear hal hn1 c1 HR0 HK0 HB0
  generalize ((w.alloc (.cells #[.string s, .int .i64 n, .slice a m cap] 25)).alloc (.cells #[.string b, .string q] 27)).alloc (.cells #[.string (strOf n f)] 9) = w2 at *
  go_loopg [7, 8, 9] p (fun qq r v i wr => ∃ (j : Nat) (A : List (List Nat)) (g : Nat → Nat), qq + j = p ∧ r = .string (strOf n g) ∧ i = .int .i64 j ∧ IsRow n g ∧ A.length = j ∧ A ++ rowsL n (leadF n (ts.drop j) g ++ [endF n (ts.drop j) g]) = D ∧ New w.heap.size wr 9 v (strs (A ++ [rowL n g])) ∧ RowAt wr w.heap.size 25 #[.string s, .int .i64 n, .slice a m cap] ∧ RowAt wr (w.heap.size + 1) 27 #[.string b, .string q] ∧ Below w.heap.size w wr)
  case atStart => exact ⟨0, [], f, by omega, rfl, rfl, HRF.out, rfl, by rw [List.drop_zero, List.nil_append]; exact HD.out, HN1.out, HR1.out, HK1.out, HB1.out⟩
  case round =>
    clear HRF HD HN1 HR1 HK1 HB1
    obtain ⟨j, A, g, hq, rfl, rfl, hg, hA, hD, hn, hr, hk, hb⟩ := hrel
    have HQ := Lib.hid hq
    have HG := Lib.hid hg
    have HAL := Lib.hid hA
    have HD := Lib.hid hD
    have HN := Lib.hid hn
    have HR := Lib.hid hr
    have HK := Lib.hid hk
    have HB := Lib.hid hb
    obtain ⟨av, kv, rfl, -⟩ := hn.own.view
    rw [strs_len, List.length_append, hA] at HN ⊢
    clear hq hg hA hD hn hr hk hb
    by_cases hlt : j < p
    · have hjx : j < ts.length := by rw [HM.out]; exact hlt
      have hD := HD.out
      rw [List.drop_eq_getElem_cons hjx] at hD
      have hrow := HTR.out _ (List.getElem_mem hjx)
      have HHC := Lib.hid (HHJ.out j hjx)
      generalize ts[j] = x at *
      have hDD : (A ++ [rowL n g]) ++ rowsL n (leadF n (ts.drop (j + 1)) (mulR n g x) ++ [endF n (ts.drop (j + 1)) (mulR n g x)]) = D := by
        rw [← hD]
        simp [leadF, endF, rowsL]
      have HDD := Lib.hid hDD
      have HG2 := Lib.hid (isRow_mul HG.out hrow)
      have HTI2 := Lib.hid (HTI.out g x HG.out hrow)
      generalize strOf n x = tx at *
      generalize hg2 : mulR n g x = g2 at *
      have hji : (j : Int) < t.size := by have := HP.out; omega
      have hj1 : (j : Int) + 1 ≤ t.size := by omega
      have hj0 : (0 : Int) ≤ j := by omega
      have hsn : strs (A ++ [rowL n g]) ++ [.string (strOf n g2)] = strs ((A ++ [rowL n g]) ++ [rowL n g2]) := by rw [← txt_rowL]; simp [strs]
      have HSN := Lib.hid hsn
      clear hD hDD hrow hjx hg2 hsn
      generalize strOf n g = tg at *
      have hj2 : (j : Int) ≤ (j : Int) + 1 := by omega
      have hj3 : (0 : Int) ≤ (j : Int) + 1 := by omega
      have hj4 : (j : Int) ≤ t.size := by omega
      have hj5 : ((j : Int) + 1).toNat = j + 1 := by omega
      have hwp : IntKind.i64.wrap ((j : Int) + 1) = (j : Int) + 1 := IntWalk.i64_in _ (by omega)
      have HXA : Hid (∀ W', Below wr.heap.size wr W' → (W'.cell? ⟨w.heap.size, 0, none⟩ = some (.string s) ∧ W'.cell? ⟨w.heap.size, 1, none⟩ = some (.int .i64 n) ∧ W'.cell? ⟨w.heap.size, 2, none⟩ = some (.slice a m cap) ∧ W'.cell? ⟨w.heap.size + 1, 0, none⟩ = some (.string b) ∧ W'.cell? ⟨w.heap.size + 1, 1, none⟩ = some (.string q) ∧ Below wr.heap.size wr W')) := Lib.hid (fun W' h => by
        have h1 := HR.out.keep h HR.out.lt
        have h2 := HK.out.keep h HK.out.lt
        exact ⟨h1.cell 0 rfl, h1.cell 1 rfl, h1.cell 2 rfl, h2.cell 0 rfl, h2.cell 1 rfl, h⟩)
      have HF1 : Hid (∀ W', Below wr.heap.size wr W' → Calls Try.prog 87 #[.agg #[.string s, .int .i64 n, .slice a m cap], .agg #[.string b, .string q], .string (t.extract j (j + 1))] W' fun e w' => e = .returned (.string tx) ∧ Below wr.heap.size wr w') := Lib.hid (fun W' h => (HHC.out W' ((HT.out.kept HB.out).kept h)).mono fun e w' hw => ⟨hw.1, h.trans (hw.2.mono h.size)⟩)
      have HF2 : Hid (∀ W', Below wr.heap.size wr W' → Calls Try.prog 99 #[.string tg, .string tx] W' fun e w' => e = .returned (.string (strOf n g2)) ∧ Below wr.heap.size wr w') := Lib.hid (fun W' h => (HTI2.out W').mono fun e w' hw => ⟨hw.1, h.trans (hw.2.mono h.size)⟩)
      go_wp2
      go_region_held3 (fun w' => w'.cell? ⟨w.heap.size, 0, none⟩ = some (.string s) ∧ w'.cell? ⟨w.heap.size, 1, none⟩ = some (.int .i64 n) ∧ w'.cell? ⟨w.heap.size, 2, none⟩ = some (.slice a m cap) ∧ w'.cell? ⟨w.heap.size + 1, 0, none⟩ = some (.string b) ∧ w'.cell? ⟨w.heap.size + 1, 1, none⟩ = some (.string q) ∧ Below wr.heap.size wr w') (first | assumption | exact HXA.out _ (Below.refl _ _).drew) (first
        | (go_at_call 87; refine (HF1.out _ (by first | exact (Below.refl _ _).drew | exact Below.refl _ _)).mono ?_; rintro e4 w4 ⟨rfl, hb4⟩; have hS4 := HXA.out _ hb4)
        | (go_at_call 99; refine (HF2.out _ hb4).mono ?_; rintro e5 w5 ⟨rfl, hb5⟩; have hS5 := HXA.out _ hb5)
        | fail)
      have HR5 := Lib.hid (HR.out.kept hb5)
      have HK5 := Lib.hid (HK.out.kept hb5)
      have HN5 := Lib.hid (HN.out.kept hb5)
      have HB5 := Lib.hid (HB.out.trans (hb5.mono HB.out.size))
      clear hS4 hS5 hb4 hb5 HXA HF1 HF2 HR HK HN HB HHC HTI2
      have hal : (strs (A ++ [rowL n g])).length ≤ 70 := by rw [strs_len, List.length_append, HAL.out]; simp; omega
      have hal2 : (strs (A ++ [rowL n g])).length = j + 1 := by rw [strs_len, List.length_append, HAL.out]; rfl
      have HAL2 := Lib.hid hal
      clear hal hal2
      generalize hgg : strOf n g2 = tg2 at *
      have HGG := Lib.hid hgg
      clear hgg
      go_wp2_with (first | (at_builtin; refine wpList_app1 rfl (.tmp 31) (.tmp 33) 23 rfl 9 i0 (.string ⟨#[]⟩) 16 Try.underlying23 I0.out.1 I0.out.2.1 I0.out.2.2.1 I0.out.2.2.2 rfl w.heap.size w _ (strs (A ++ [rowL n g])) rfl HN5.out rfl rfl HB5.out.size HB5.out (by have := HAL2.out; omega) (by omega) ?_) | fail)
      intro v7 w7 hn7 hk7 hb7 _
      rw [HSN.out] at hn7
      have HR7 := Lib.hid (hk7.row HR5.out (HN5.out.apartRow HR5.out (by decide)))
      have HK7 := Lib.hid (hk7.row HK5.out (HN5.out.apartRow HK5.out (by decide)))
      have HN7 := Lib.hid hn7
      have HB7 := Lib.hid hb7
      clear hn7 hk7 hb7 HR5 HK5 HN5 HB5
      go_wp2
      go_roundg (p - (j + 1))
      case measure => have := HQ.out; omega
      case rel => exact ⟨j + 1, A ++ [rowL n g], g2, by have := HQ.out; omega, by rw [HGG.out], by go_num, HG2.out, by rw [List.length_append, HAL.out]; rfl, HDD.out, HN7.out, HR7.out, HK7.out, HB7.out⟩
    · obtain rfl : j = p := by have := HQ.out; omega
      have hji : ¬ (j : Int) < t.size := by have := HP.out; omega
      have hD := HD.out
      rw [List.drop_eq_nil_of_le (by rw [HM.out]; exact Nat.le_refl _)] at hD
      have hD2 : A ++ [rowL n g] = D := hD
      have hn := HN.out
      rw [hD2] at hn
      have HN2 := Lib.hid hn
      clear hD hD2 hn HN
      go_wp2
      go_ret
      exact ⟨_, rfl, HN2.out, HB.out⟩
end Go.Proofs.Ytkhglknpcajmiaa

