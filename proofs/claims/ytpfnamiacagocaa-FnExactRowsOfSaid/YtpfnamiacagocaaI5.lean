/- RowsOf in the program. -/
import Derived.Test.YtpfnamiacagocaaI4
namespace Go.Proofs.Ytpfnamiacagocaa
open Go.RowKit
set_option linter.unusedSimpArgs false
set_option linter.unusedVariables false

noncomputable def colsB (F : List (List Int)) : Bool := (List.range (lk F 0).length).all (colB F)
noncomputable def rowsB (F : List (List Int)) : Bool := (decide (3 ≤ F.length) && decide (F.length ≤ 8)) && (eqB F && colsB F)
/-- row number i, as letters -/
def rowI (F : List (List Int)) (i : Nat) : List Nat := rowL F.length (invF F.length (cF F F.length i))
noncomputable def rowsT (F : List (List Int)) : List (List Nat) := if rowsB F = true then (List.range (lk F 0).length).map (rowI F) else []
theorem colsB_no {F : List (List Int)} {i : Nat} (hi : i < (lk F 0).length) (h : colB F i = false) : colsB F = false := by
  unfold colsB
  rw [List.all_eq_false]
  exact ⟨i, List.mem_range.2 hi, by simp [h]⟩
theorem colsB_yes {F : List (List Int)} (h : ∀ i, i < (lk F 0).length → colB F i = true) : colsB F = true := by
  unfold colsB
  rw [List.all_eq_true]
  exact fun i hi => h i (List.mem_range.1 hi)
theorem upto_one (f : Nat → List Nat) (j : Nat) : (List.range (j + 1)).map f = (List.range j).map f ++ [f j] := by simp [List.range_succ]

set_option maxRecDepth 100000 in
set_option maxHeartbeats 1000000 in
theorem iRowsOf_any (v : Value) (F : List (List Int)) (w : World) (h : LLI w v F) (hl : F.length ≤ 2000000) (hm : ∀ k, (lk F k).length ≤ 9223372036854775807) :
    Calls Try.prog 18 #[v] w (TextsAny (rowsT F) (rowsB F) w) := by
  obtain ⟨n, hn⟩ : ∃ n, F.length = n := ⟨_, rfl⟩
  have HL := Lib.hid h
  have HEQ := Lib.hid (fun w h => equallyLong_any v F w h hl hm)
  have hGS := fun w => goodStage_any (n : Int) w
  obtain ⟨a, cap, rfl, -⟩ := id h
  have hni : (n : Int) ≤ 2000000 := by omega
  by_cases hst : 3 ≤ n ∧ n ≤ 8
  · rw [show (decide (3 ≤ (n : Int)) && decide ((n : Int) ≤ 8)) = true from by
      rw [Bool.and_eq_true, decide_eq_true_eq, decide_eq_true_eq]; omega] at hGS
    have HGS := Lib.hid hGS
    have hb : rowsB F = (eqB F && colsB F) := by
      unfold rowsB
      rw [hn, decide_eq_true hst.1, decide_eq_true hst.2]
      rfl
    rw [hn]
    by_cases heq : eqB F = true
    · have hlong := eqB_of heq
      have hl0 := hlong 0 (by omega)
      rw [heq, Bool.true_and] at hb
      rw [heq] at HEQ
      have HRA := Lib.hid (fun i (hi : i < (lk F 0).length) w h => rowAt_any (.slice a F.length cap) F i w h (by omega) (by omega) (fun k hk => by have := hlong k hk; omega) hm)
      unfold CutOut at HRA
      rw [hn] at HRA HEQ HL
      have HROW : Hid (∀ i, colB F i = true → ∀ w, Calls Try.prog 67 #[.agg (dig8 (invF n (cF F n i)))] w fun e w' => e = .returned (.string (txt (rowI F i))) ∧ Below w.heap.size w w') := Lib.hid (fun i hi w => by
        have hr := colB_row hi
        rw [hn] at hr
        have := row_any n _ (isDig_of (isRow_inv hr)) w
        unfold rowI
        rw [txt_rowL, hn]
        exact this)
      have hlen0 : (lk F 0).length = (lk F 0).length := rfl
      obtain ⟨res, hres⟩ : ∃ b, colsB F = b := ⟨_, rfl⟩
      have HCN : Hid (∀ i, i < (lk F 0).length → colB F i = false → res = false) := Lib.hid (fun i hi h => by rw [← hres]; exact colsB_no hi h)
      have HCY : Hid ((∀ i, i < (lk F 0).length → colB F i = true) → res = true) := Lib.hid (fun h => by rw [← hres]; exact colsB_yes h)
      have hT : rowsT F = if res = true then (List.range (lk F 0).length).map (rowI F) else [] := by
        unfold rowsT
        rw [hb, hres]
      obtain ⟨out, hout⟩ : ∃ o, (if res = true then (List.range (lk F 0).length).map (rowI F) else []) = o := ⟨_, rfl⟩
      rw [hT, hb, hres, hout]
      have HON : Hid (res = false → out = []) := Lib.hid (fun h => by rw [← hout, h]; rfl)
      have HOY : Hid (res = true → out = (List.range (lk F 0).length).map (rowI F)) := Lib.hid (fun h => by rw [← hout, h]; rfl)
      generalize hll : (lk F 0).length = m at *
      have HLL := Lib.hid hll
      have hmi : (m : Int) ≤ 800 := by omega
      obtain ⟨i0, hi0, hz0, hz1, hz2⟩ := info_parts infoText
      have I0 := Lib.hid (⟨hi0, hz0, hz1, hz2⟩ : _ ∧ _ ∧ _ ∧ _)
      have HN3 := Lib.hid (show 3 ≤ F.length by omega)
      have h0n : (0 : Int) < (n : Int) := by omega
      clear hi0 hz0 hz1 hz2 hb hT hres hout hlong hl0 heq h hl hm hst hlen0 hll
      have H0 : Hid (∀ wr, Below w.heap.size w wr → ∃ ad a0 k0, a = some ad ∧ wr.cell? ad = some (.slice a0 m k0)) := Lib.hid (fun wr hb => by
        obtain ⟨a', cap', hv, ha⟩ := HL.out.kept hb
        injection hv with e1 e2 e3
        subst e1 e3
        obtain ⟨ad, rfl, had, hc⟩ := ha (by have := HN3.out; omega)
        obtain ⟨u0, c0, hu0⟩ := hc 0 (by have := HN3.out; omega)
        obtain ⟨a0, k0, rfl, -⟩ := hu0
        refine ⟨ad, a0, k0, rfl, ?_⟩
        have e0 : ad.add 0 = ad := by
          rcases ad with ⟨b, o, x⟩
          unfold Addr.add
          split <;> simp_all
        rw [e0, HLL.out] at c0
        exact c0)
      obtain ⟨ad, a0, k0, rfl, c00⟩ := H0.out w (Below.refl _ _)
      clear H0
      go_enter Try.func18, Try.ntmps18
      go_wp2_with (first | (go_at_call 64; refine (HGS.out _).mono ?_; rintro e w1 ⟨rfl, rfl⟩) | (go_at_call 65; refine (HEQ.out _ HL.out).mono ?_; rintro e w1 ⟨rfl, rfl⟩) | fail)
      go_loopg [4, 21] m (fun q ov x wr => ∃ j : Nat, q + j = m ∧ x = .int .i64 j ∧ (∀ t, t < j → colB F t = true) ∧ New w.heap.size wr 9 ov (strs ((List.range j).map (rowI F))) ∧ Below w.heap.size w wr)
      case atStart => exact ⟨0, by omega, rfl, fun t ht => absurd ht (by omega), New.nil _ _ _, Below.refl _ _⟩
      case round =>
        obtain ⟨j, hq, rfl, hok, hnw, hb⟩ := hrel
        have HOK := Lib.hid hok
        have HN := Lib.hid hnw
        have HB := Lib.hid hb
        have hsz : w.heap.size ≤ wr.heap.size := hb.size
        obtain ⟨a9, c9, hv9, -⟩ := hnw.own.view
        subst hv9
        clear hok hnw hb
        by_cases hlt : j < m
        · have hji : (j : Int) < m := by omega
          have HC := Lib.hid (HRA.out j hlt wr (HL.out.kept HB.out))
          cases hcol : colB F j
          · have hr := HCN.out j hlt hcol
            have ho := HON.out hr
            subst hr
            subst ho
            rw [hcol] at HC
            clear hcol
            go_wp2_with fail
            refine HC.out.mono ?_
            rintro e w5 ⟨g, rfl, -, hb5⟩
            have HB5 := Lib.hid (HB.out.trans (hb5.mono hsz))
            have HB6 := Lib.hid (HB5.out.alloc HB5.out.size (.cells (dig8 g) 68))
            clear hb5
            simp only [dig8] at HB6 ⊢
            go_wp2_with (first | (refine wpList_store_row rfl 68 _ _ rfl _ _ rfl rfl 68 _ (heap_at _ _ _ (by simp)) (by kernel_rfl) rfl (by kernel_rfl) ?_; rw [setRow_at _ _ _ _ _ (by simp)]) | fail)
            go_ret2
            exact ⟨_, rfl, New.nil _ _ _, HB6.out⟩
          · have HRW := Lib.hid (HROW.out j hcol)
            have HOK2 : Hid (∀ t, t < j + 1 → colB F t = true) := Lib.hid (fun t ht => by
              by_cases e : t = j
              · rw [e]; exact hcol
              · exact HOK.out t (by omega))
            rw [hcol] at HC
            have HSN : Hid (strs ((List.range j).map (rowI F)) ++ [.string (txt (rowI F j))] = strs ((List.range (j + 1)).map (rowI F))) := Lib.hid (by rw [upto_one, strs_snoc])
            have hlen : (strs ((List.range j).map (rowI F))).length ≤ 100000 := by rw [strs_len, List.length_map, List.length_range]; omega
            have HLEN := Lib.hid hlen
            generalize (List.range j).map (rowI F) = acc at *
            generalize invF n (cF F n j) = iv at *
            generalize txt (rowI F j) = tx at *
            clear hcol hlen
            go_wp2_with fail
            refine HC.out.mono ?_
            rintro e w5 ⟨g, rfl, hg, hb5⟩
            rw [hg trivial]
            have HB5 := Lib.hid (HB.out.trans (hb5.mono hsz))
            have HB6 := Lib.hid (HB5.out.alloc HB5.out.size (.cells (dig8 iv) 68))
            have HN6 := Lib.hid ((HN.out.kept hb5).kept ((Below.refl _ _).alloc (Nat.le_refl _) (.cells (dig8 iv) 68)))
            have HR6 := Lib.hid (RowAt.new w5 68 (dig8 iv))
            clear hb5 hg HN HB
            simp only [dig8] at HB6 HN6 HR6 HRW ⊢
            go_wp2_with (first | (refine wpList_store_row rfl 68 _ _ rfl _ _ rfl rfl 68 _ (heap_at _ _ _ (by simp)) (by kernel_rfl) rfl (by kernel_rfl) ?_; rw [setRow_at _ _ _ _ _ (by simp)]) | (refine wpList_load_row rfl 68 _ rfl _ rfl 68 _ _ _ (HR6.out) Try.underlying68 rfl (by kernel_rfl) ?_) | fail)
            refine (HRW.out _).mono ?_
            rintro e w7 ⟨rfl, hb7⟩
            have HB7 := Lib.hid (HB6.out.trans (hb7.mono HB6.out.size))
            have HN7 := Lib.hid (HN6.out.kept hb7)
            have hs7 := HB7.out.size
            clear hb7 HB6 HN6
            go_wp2_with (first | (at_builtin; refine wpList_app1 rfl (.tmp 32) (.tmp 35) 24 rfl 9 i0 (.string ⟨#[]⟩) 16 Try.underlying24 I0.out.1 I0.out.2.1 I0.out.2.2.1 I0.out.2.2.2 rfl w.heap.size w _ _ rfl HN7.out rfl rfl hs7 HB7.out HLEN.out (by omega) ?_) | fail)
            intro v8 w8 hn8 hk8 hb8 hs8
            rw [HSN.out] at hn8
            have HN8 := Lib.hid hn8
            have HB8 := Lib.hid hb8
            clear hn8 hk8 hb8
            go_wp2
            go_roundg (m - (j + 1))
            case measure => omega
            case rel => exact ⟨j + 1, by omega, by go_num, HOK2.out, HN8.out, HB8.out⟩
        · obtain rfl : j = m := by omega
          have hr := HCY.out (fun i hi => HOK.out i hi)
          have ho := HOY.out hr
          subst hr
          generalize (List.range j).map (rowI F) = acc at *
          subst ho
          go_wp2
          go_ret2
          exact ⟨_, rfl, HN.out, HB.out⟩
    · have hf : eqB F = false := by simpa using heq
      have hb2 : rowsB F = false := by rw [hb, hf]; rfl
      have hT : rowsT F = [] := by unfold rowsT; rw [hb2]; rfl
      rw [hT, hb2]
      rw [hf, hn] at HEQ
      rw [hn] at HL
      clear hb hb2 hT heq hf h hl hm hst
      go_enter Try.func18, Try.ntmps18
      go_wp2_with (first | (go_at_call 64; refine (HGS.out _).mono ?_; rintro e w1 ⟨rfl, rfl⟩) | (go_at_call 65; refine (HEQ.out _ HL.out).mono ?_; rintro e w1 ⟨rfl, rfl⟩) | fail)
      go_ret2
      exact ⟨_, rfl, New.nil _ _ _, Below.refl _ _⟩
  · have hst2 : (decide (3 ≤ (n : Int)) && decide ((n : Int) ≤ 8)) = false := by
      cases h1 : decide (3 ≤ (n : Int))
      · rfl
      · cases h2 : decide ((n : Int) ≤ 8)
        · rfl
        · rw [decide_eq_true_eq] at h1 h2
          exact absurd ⟨by omega, by omega⟩ hst
    have hst3 : (decide (3 ≤ n) && decide (n ≤ 8)) = false := by
      cases h1 : decide (3 ≤ n)
      · rfl
      · cases h2 : decide (n ≤ 8)
        · rfl
        · rw [decide_eq_true_eq] at h1 h2
          exact absurd ⟨h1, h2⟩ hst
    rw [hst2] at hGS
    have HGS := Lib.hid hGS
    have hb2 : rowsB F = false := by unfold rowsB; rw [hn, hst3]; rfl
    have hT : rowsT F = [] := by unfold rowsT; rw [hb2]; rfl
    rw [hT, hb2, hn]
    clear hb2 hT h hl hm hst hst2 hst3 hGS
    go_enter Try.func18, Try.ntmps18
    go_wp2_with (first | (go_at_call 64; refine (HGS.out _).mono ?_; rintro e w1 ⟨rfl, rfl⟩) | fail)
    go_ret2
    exact ⟨_, rfl, New.nil _ _ _, Below.refl _ _⟩
end Go.Proofs.Ytpfnamiacagocaa
