/- MeetIn in the model, and the law. -/
import Derived.Test.YtnoepobbecobbaaUQ
import Derived.Test.YtnoepobbecobbaaCB
import Derived.Test.YtnoepobbecobbaaSCQ
import Derived.Test.YtnoepobbecobbaaMSB
import Derived.BigQuiet
import Derived.Deep.RegionHeld3
namespace Go.Proofs.Ytnoepobbecobbaa
open Go.RowKit
set_option linter.unusedSimpArgs false
set_option linter.unusedVariables false

set_option maxRecDepth 100000 in
set_option maxHeartbeats 1000000 in
theorem sMeetIn_any (v0 v1 : Value) (L M : List (List Nat)) (w : World) (h0 : Txts w v0 L) (h1 : Txts w v1 M) (hl0 : L.length ≤ 2000000) (hl1 : M.length ≤ 2000000) (hs0 : ∀ l ∈ L, l.length ≤ maxLen) (hs1 : ∀ l ∈ M, l.length ≤ maxLen) :
    Calls Try.prog 40 #[v0, v1] w (TextsAny (meetL L M) (meetB L M) w) := by
  have HQ0 : Hid (∀ nq, Calls Try.prog 59 #[v0] (w.drewN nq) fun e w'' => e = .returned (.bool (listB L)) ∧ ∃ m, w'' = (w.drewN nq).drewN m) := Lib.hid (fun nq => l6RowsS_any v0 L _ (h0.kept (below_drewN (Below.refl _ _) nq)) hl0 hs0)
  have HQ1 : Hid (∀ nq, Calls Try.prog 59 #[v1] (w.drewN nq) fun e w'' => e = .returned (.bool (listB M)) ∧ ∃ m, w'' = (w.drewN nq).drewN m) := Lib.hid (fun nq => l6RowsS_any v1 M _ (h1.kept (below_drewN (Below.refl _ _) nq)) hl1 hs1)
  unfold TextsAny
  by_cases hb0 : listB L = true
  · by_cases hb1 : listB M = true
    · rw [hb0] at HQ0
      rw [hb1] at HQ1
      by_cases hcl : clashB L M = true
      · have hB : meetB L M = false := by unfold meetB; rw [hcl]; simp
        rw [meetL_no hB, hB]
        unfold clashB at hcl
        simp only [Bool.and_eq_true, decide_eq_true_eq, Bool.not_eq_true', decide_eq_false_iff_not] at hcl
        obtain ⟨⟨hp0, hp1⟩, hne⟩ := hcl
        obtain ⟨a0, k0, rfl, hk0, -⟩ := id h0
        obtain ⟨a1, k1, rfl, hk1, -⟩ := id h1
        obtain ⟨g0, o0, s0, rfl, hg0, c0, hz0⟩ := txts_first h0 hp0
        obtain ⟨g1, o1, s1, rfl, hg1, c1, hz1⟩ := txts_first h1 hp1
        have hnz : ((s0.size : Int) != (s1.size : Int)) = true := by rw [hz0, hz1, bne_iff_ne]; omega
        have hp0i : (0 : Int) < (L.length : Int) := by omega
        have hp1i : (0 : Int) < (M.length : Int) := by omega
        have K0 := Lib.hid c0
        have K1 := Lib.hid c1
        generalize L.length = m0 at *
        generalize M.length = m1 at *
        clear h0 h1 hl0 hl1 hs0 hs1 hb0 hb1 hk0 hk1 hz0 hz1 hne hB
        skip
        skip
        go_enter Try.func40, Try.ntmps40
        go_wp2
        go_quiet (first | (go_at_call 59; with_reducible exact Calls.quiet_of (HQ1.out _)) | (go_at_call 59; with_reducible exact Calls.quiet_of (HQ0.out _)) | fail)
        have HB6 := Lib.hid (below_drewN (Below.refl w.heap.size w) nq)
        go_wp2
        go_ret2
        exact ⟨_, rfl, New.nil _ _ _, HB6.out⟩
      · have hcl : clashB L M = false := by simpa using hcl
        have hB : meetB L M = true := by unfold meetB; rw [hcl, hb0, hb1]; rfl
        rw [meetL_yes hB, hB]
        obtain ⟨hq0, hq1⟩ := meet_rows hb0 hb1 hcl
        have hr0 := rowsB_rows hq0
        have hr1 := rowsB_rows hq1
        have hl8 : (rF L).length ≤ 1000 := by have := rowsB_len hq0; rw [rF_len]; omega
        have hm8 : (rF M).length ≤ 1000 := by have := rowsB_len hq1; rw [rF_len]; omega
        have t0 : Txts w v0 (rowsL (meetN L M) (rF L)) := Txts.rows h0 hq0
        have HT1 : Hid (∀ w', Below w.heap.size w w' → Txts w' v1 (rowsL (meetN L M) (rF M))) := Lib.hid (fun w' hb => Txts.rows (h1.kept hb) hq1)
        have hfl : (rF L).length = L.length := rF_len L
        generalize meetN L M = n at *
        have hcase : (L.length = 0) ∨ (0 < L.length ∧ M.length = 0) ∨ (0 < L.length ∧ 0 < M.length ∧ firstN L = firstN M) := by
          unfold clashB at hcl
          by_cases p0 : 0 < L.length
          · by_cases p1 : 0 < M.length
            · rw [decide_eq_true p0, decide_eq_true p1] at hcl
              exact .inr (.inr ⟨p0, p1, by simpa using hcl⟩)
            · exact .inr (.inl ⟨p0, by omega⟩)
          · exact .inl (by omega)
        generalize rF L = fs at *
        generalize rF M = gs at *
        have HHAS := Lib.hid (fun x (hx : IsRow n x) w' hb => l1HasS_any n v1 gs hr1 hm8 x hx w' (HT1.out w' hb))
        have HFACT : Hid (∃ (a0 a1 : Option Addr) (k0 k1 m0 m1 : Nat), v0 = .slice a0 m0 k0 ∧ v1 = .slice a1 m1 k1 ∧ fs.length = m0 ∧ (0 < m0 → ∃ g off, a0 = some ⟨g, off, none⟩ ∧ g < w.heap.size ∧ ∀ j (hj : j < fs.length), w.cell? ⟨g, off + j, none⟩ = some (.string (strOf n fs[j]))) ∧
            (m0 = 0 ∨ (0 < m0 ∧ m1 = 0) ∨ (0 < m0 ∧ 0 < m1 ∧ ∃ g0 o0 s0 g1 o1 s1, a0 = some ⟨g0, o0, none⟩ ∧ a1 = some ⟨g1, o1, none⟩ ∧ g0 < w.heap.size ∧ g1 < w.heap.size ∧ w.cell? ⟨g0, o0, none⟩ = some (.string s0) ∧ w.cell? ⟨g1, o1, none⟩ = some (.string s1) ∧ ((s0.size : Int) != (s1.size : Int)) = false))) := Lib.hid (by
          obtain ⟨a0, k0, rfl, hk0, -⟩ := id h0
          obtain ⟨a1, k1, rfl, hk1, -⟩ := id h1
          refine ⟨a0, a1, k0, k1, L.length, M.length, rfl, rfl, hfl, fun hp => ?_, ?_⟩
          · obtain ⟨a', c', e', _, ha'⟩ := t0
            injection e' with e1 e2 e3
            obtain ⟨g', o', e4, hg', hc'⟩ := ha' (by rw [rowsL_len, hfl]; exact hp)
            refine ⟨g', o', by rw [e1]; exact e4, hg', fun j hj => ?_⟩
            rw [hc' j (by rw [rowsL_len]; exact hj), rowsL, List.getD_eq_getElem?_getD, List.getElem?_map, List.getElem?_eq_getElem hj, Option.map_some, Option.getD_some, txt_rowL]
          · rcases hcase with h | h | ⟨p0, p1, hz⟩
            · exact .inl h
            · exact .inr (.inl h)
            · obtain ⟨g0, o0, s0, e0, hg0, c0, hz0⟩ := txts_first h0 p0
              obtain ⟨g1, o1, s1, e1, hg1, c1, hz1⟩ := txts_first h1 p1
              exact .inr (.inr ⟨p0, p1, g0, o0, s0, g1, o1, s1, e0, e1, hg0, hg1, c0, c1, by rw [hz0, hz1, hz]; simp⟩))
        have HR0 := Lib.hid hr0
        have HL8 := Lib.hid hl8
        clear h0 h1 hl0 hl1 hs0 hs1 hb0 hb1 hB hcl hq0 hq1 hr0 hr1 hl8 hm8 hcase t0 HT1 hfl
        obtain ⟨a0, a1, k0, k1, m0, m1, rfl, rfl, hm, ha, hc⟩ := HFACT.out
        have HM := Lib.hid hm
        have HA := Lib.hid ha
        have hm0i : (m0 : Int) ≤ 1000 := by have := HL8.out; omega
        obtain ⟨i0, hi0, hz0, hz1, hz2⟩ := info_parts infoText
        have I0 := Lib.hid (⟨hi0, hz0, hz1, hz2⟩ : _ ∧ _ ∧ _ ∧ _)
        clear HFACT hm ha hi0 hz0 hz1 hz2
        rcases hc with rfl | ⟨hp0, rfl⟩ | ⟨hp0, hp1, g0, o0, s0, g1, o1, s1, rfl, rfl, hg0, hg1, c0, c1, hnz⟩
        · skip
          skip
          go_enter Try.func40, Try.ntmps40
          go_wp2
          go_quiet (first | (go_at_call 59; with_reducible exact Calls.quiet_of (HQ1.out _)) | (go_at_call 59; with_reducible exact Calls.quiet_of (HQ0.out _)) | fail)
          have HB6 := Lib.hid (below_drewN (Below.refl w.heap.size w) nq)
          generalize w.drewN nq = w6 at *
          go_wp2
          go_loopg [6, 40] 0 (fun q ov i wr => ∃ j : Nat, q + j = 0 ∧ i = .int .i64 j ∧ New w.heap.size wr 9 ov (strs (rowsL n (stayF gs (fs.take j)))) ∧ Below w.heap.size w wr)
          case atStart => exact ⟨0, by omega, rfl, New.nil _ _ _, HB6.out⟩
          case round =>
            clear HB6
            obtain ⟨j, hq, rfl, hn, hb⟩ := hrel
            have HQ := Lib.hid hq
            have HN := Lib.hid hn
            have HB := Lib.hid hb
            obtain ⟨ua, uc, rfl, -⟩ := hn.own.view
            clear hq hn hb
            by_cases hlt : j < 0
            · exact absurd hlt (Nat.not_lt_zero _)
            · have hjm : j = 0 := by have := HQ.out; omega
              have HE : Hid (stayF gs (fs.take j) = stayF gs fs) := Lib.hid (by rw [List.take_of_length_le (by rw [HM.out]; omega)])
              have hji : ¬ (j : Int) < (0 : Int) := by omega
              clear hjm
              go_wp2
              go_ret2
              exact ⟨_, rfl, by rw [← HE.out]; exact HN.out, HB.out⟩
        · have hp0i : (0 : Int) < (m0 : Int) := by omega
          skip
          skip
          go_enter Try.func40, Try.ntmps40
          go_wp2
          go_quiet (first | (go_at_call 59; with_reducible exact Calls.quiet_of (HQ1.out _)) | (go_at_call 59; with_reducible exact Calls.quiet_of (HQ0.out _)) | fail)
          have HB6 := Lib.hid (below_drewN (Below.refl w.heap.size w) nq)
          generalize w.drewN nq = w6 at *
          go_wp2
          go_loopg [6, 40] m0 (fun q ov i wr => ∃ j : Nat, q + j = m0 ∧ i = .int .i64 j ∧ New w.heap.size wr 9 ov (strs (rowsL n (stayF gs (fs.take j)))) ∧ Below w.heap.size w wr)
          case atStart => exact ⟨0, by omega, rfl, New.nil _ _ _, HB6.out⟩
          case round =>
            clear HB6
            obtain ⟨j, hq, rfl, hn, hb⟩ := hrel
            have HQ := Lib.hid hq
            have HN := Lib.hid hn
            have HB := Lib.hid hb
            obtain ⟨ua, uc, rfl, -⟩ := hn.own.view
            clear hq hn hb
            by_cases hlt : j < m0
            · obtain ⟨q', rfl⟩ : ∃ q', gk = q' + 1 := ⟨gk - 1, by have := HQ.out; omega⟩
              obtain ⟨ga, oa, hae, hga, hcc⟩ := HA.out (by omega)
              have hjx : j < fs.length := by rw [HM.out]; exact hlt
              have c1 := (HB.out.cell (p := ⟨ga, oa + j, none⟩) hga).trans (hcc j hjx)
              clear hcc
              cases hae
              have hrow := HR0.out _ (List.getElem_mem hjx)
              have HH := Lib.hid (HHAS.out fs[j] hrow _ HB.out)
              have hstep := stay_step (S := gs) (xs := fs) j hjx
              have hsl := stay_len gs (fs.take j)
              rw [List.length_take] at hsl
              have HSL : Hid ((stayF gs (fs.take j)).length ≤ 1000) := Lib.hid (by have := HL8.out; omega)
              have hji : (j : Int) < (m0 : Int) := by omega
              obtain ⟨x, hxx⟩ : ∃ x, fs[j] = x := ⟨_, rfl⟩
              rw [hxx] at c1 HH hstep
              have SX := Lib.hid (txt_rowL n x)
              generalize strOf n x = sx at *
              clear hrow hxx hsl
              cases hin : inB x gs
              · rw [hin] at HH hstep
                have HST : Hid (stayF gs (fs.take (j + 1)) = stayF gs (fs.take j)) := Lib.hid (by rw [hstep]; simp)
                clear hin hstep
                go_wp2_with fail
                refine HH.out.mono ?_
                rintro e w7 ⟨rfl, hb7⟩
                have HB7 := Lib.hid (HB.out.trans (hb7.mono HB.out.size))
                have HN7 := Lib.hid (HN.out.kept hb7)
                clear hb7 HB HN
                go_wp2
                go_roundg q'
                case measure => have := HQ.out; omega
                case rel => exact ⟨j + 1, by have := HQ.out; omega, by go_num, by rw [HST.out]; exact HN7.out, HB7.out⟩
              · rw [hin] at HH hstep
                have HST : Hid (rowsL n (stayF gs (fs.take (j + 1))) = rowsL n (stayF gs (fs.take j)) ++ [rowL n x]) := Lib.hid (by rw [hstep]; simp [rowsL])
                clear hin hstep
                go_wp2_with fail
                refine HH.out.mono ?_
                rintro e w7 ⟨rfl, hb7⟩
                have HB7 := Lib.hid (HB.out.trans (hb7.mono HB.out.size))
                have HN7 := Lib.hid (HN.out.kept hb7)
                clear hb7 HB HN
                go_wp2_with (at_builtin; refine wpList_app1 rfl (.tmp 47) (.tmp 49) 22 rfl 9 i0 (.string ⟨#[]⟩) 16 Try.underlying22 I0.out.1 I0.out.2.1 I0.out.2.2.1 I0.out.2.2.2 rfl w.heap.size w _ _ rfl HN7.out rfl rfl HB7.out.size HB7.out (by rw [strs_len, rowsL_len]; have := HSL.out; omega) (by omega) ?_)
                intro v8 w8 hn8 _ hb8 _
                rw [← SX.out, strs_snoc, ← HST.out] at hn8
                have HN8 := Lib.hid hn8
                have HB8 := Lib.hid hb8
                obtain ⟨ua8, uc8, rfl, -⟩ := hn8.own.view
                clear hn8 hb8 HN7 HB7
                go_wp2
                go_roundg q'
                case measure => have := HQ.out; omega
                case rel => exact ⟨j + 1, by have := HQ.out; omega, by go_num, HN8.out, HB8.out⟩
            · have hjm : j = m0 := by have := HQ.out; omega
              have HE : Hid (stayF gs (fs.take j) = stayF gs fs) := Lib.hid (by rw [List.take_of_length_le (by rw [HM.out]; omega)])
              have hji : ¬ (j : Int) < (m0 : Int) := by omega
              clear hjm
              go_wp2
              go_ret2
              exact ⟨_, rfl, by rw [← HE.out]; exact HN.out, HB.out⟩
        · have hp0i : (0 : Int) < (m0 : Int) := by omega
          have hp1i : (0 : Int) < (m1 : Int) := by omega
          skip
          skip
          go_enter Try.func40, Try.ntmps40
          go_wp2
          go_quiet (first | (go_at_call 59; with_reducible exact Calls.quiet_of (HQ1.out _)) | (go_at_call 59; with_reducible exact Calls.quiet_of (HQ0.out _)) | fail)
          have HB6 := Lib.hid (below_drewN (Below.refl w.heap.size w) nq)
          generalize w.drewN nq = w6 at *
          go_wp2
          go_loopg [6, 40] m0 (fun q ov i wr => ∃ j : Nat, q + j = m0 ∧ i = .int .i64 j ∧ New w.heap.size wr 9 ov (strs (rowsL n (stayF gs (fs.take j)))) ∧ Below w.heap.size w wr)
          case atStart => exact ⟨0, by omega, rfl, New.nil _ _ _, HB6.out⟩
          case round =>
            clear HB6
            obtain ⟨j, hq, rfl, hn, hb⟩ := hrel
            have HQ := Lib.hid hq
            have HN := Lib.hid hn
            have HB := Lib.hid hb
            obtain ⟨ua, uc, rfl, -⟩ := hn.own.view
            clear hq hn hb
            by_cases hlt : j < m0
            · obtain ⟨q', rfl⟩ : ∃ q', gk = q' + 1 := ⟨gk - 1, by have := HQ.out; omega⟩
              obtain ⟨ga, oa, hae, hga, hcc⟩ := HA.out (by omega)
              have hjx : j < fs.length := by rw [HM.out]; exact hlt
              have c1 := (HB.out.cell (p := ⟨ga, oa + j, none⟩) hga).trans (hcc j hjx)
              clear hcc
              cases hae
              have hrow := HR0.out _ (List.getElem_mem hjx)
              have HH := Lib.hid (HHAS.out fs[j] hrow _ HB.out)
              have hstep := stay_step (S := gs) (xs := fs) j hjx
              have hsl := stay_len gs (fs.take j)
              rw [List.length_take] at hsl
              have HSL : Hid ((stayF gs (fs.take j)).length ≤ 1000) := Lib.hid (by have := HL8.out; omega)
              have hji : (j : Int) < (m0 : Int) := by omega
              obtain ⟨x, hxx⟩ : ∃ x, fs[j] = x := ⟨_, rfl⟩
              rw [hxx] at c1 HH hstep
              have SX := Lib.hid (txt_rowL n x)
              generalize strOf n x = sx at *
              clear hrow hxx hsl
              cases hin : inB x gs
              · rw [hin] at HH hstep
                have HST : Hid (stayF gs (fs.take (j + 1)) = stayF gs (fs.take j)) := Lib.hid (by rw [hstep]; simp)
                clear hin hstep
                go_wp2_with fail
                refine HH.out.mono ?_
                rintro e w7 ⟨rfl, hb7⟩
                have HB7 := Lib.hid (HB.out.trans (hb7.mono HB.out.size))
                have HN7 := Lib.hid (HN.out.kept hb7)
                clear hb7 HB HN
                go_wp2
                go_roundg q'
                case measure => have := HQ.out; omega
                case rel => exact ⟨j + 1, by have := HQ.out; omega, by go_num, by rw [HST.out]; exact HN7.out, HB7.out⟩
              · rw [hin] at HH hstep
                have HST : Hid (rowsL n (stayF gs (fs.take (j + 1))) = rowsL n (stayF gs (fs.take j)) ++ [rowL n x]) := Lib.hid (by rw [hstep]; simp [rowsL])
                clear hin hstep
                go_wp2_with fail
                refine HH.out.mono ?_
                rintro e w7 ⟨rfl, hb7⟩
                have HB7 := Lib.hid (HB.out.trans (hb7.mono HB.out.size))
                have HN7 := Lib.hid (HN.out.kept hb7)
                clear hb7 HB HN
                go_wp2_with (at_builtin; refine wpList_app1 rfl (.tmp 47) (.tmp 49) 22 rfl 9 i0 (.string ⟨#[]⟩) 16 Try.underlying22 I0.out.1 I0.out.2.1 I0.out.2.2.1 I0.out.2.2.2 rfl w.heap.size w _ _ rfl HN7.out rfl rfl HB7.out.size HB7.out (by rw [strs_len, rowsL_len]; have := HSL.out; omega) (by omega) ?_)
                intro v8 w8 hn8 _ hb8 _
                rw [← SX.out, strs_snoc, ← HST.out] at hn8
                have HN8 := Lib.hid hn8
                have HB8 := Lib.hid hb8
                obtain ⟨ua8, uc8, rfl, -⟩ := hn8.own.view
                clear hn8 hb8 HN7 HB7
                go_wp2
                go_roundg q'
                case measure => have := HQ.out; omega
                case rel => exact ⟨j + 1, by have := HQ.out; omega, by go_num, HN8.out, HB8.out⟩
            · have hjm : j = m0 := by have := HQ.out; omega
              have HE : Hid (stayF gs (fs.take j) = stayF gs fs) := Lib.hid (by rw [List.take_of_length_le (by rw [HM.out]; omega)])
              have hji : ¬ (j : Int) < (m0 : Int) := by omega
              clear hjm
              go_wp2
              go_ret2
              exact ⟨_, rfl, by rw [← HE.out]; exact HN.out, HB.out⟩
    · have hb1 : listB M = false := by simpa using hb1
      have hB : meetB L M = false := by unfold meetB; rw [hb1]; simp
      rw [meetL_no hB, hB]
      rw [hb0] at HQ0
      rw [hb1] at HQ1
      obtain ⟨a0, k0, rfl, hk0, -⟩ := id h0
      obtain ⟨a1, k1, rfl, hk1, -⟩ := id h1
      clear h0 h1 hl0 hl1 hs0 hs1 hb0 hb1 hk0 hk1 hB
      skip
      skip
      go_enter Try.func40, Try.ntmps40
      go_wp2
      go_quiet (first | (go_at_call 59; with_reducible exact Calls.quiet_of (HQ1.out _)) | (go_at_call 59; with_reducible exact Calls.quiet_of (HQ0.out _)) | fail)
      have HB6 := Lib.hid (below_drewN (Below.refl w.heap.size w) nq)
      go_wp2
      go_ret2
      exact ⟨_, rfl, New.nil _ _ _, HB6.out⟩
  · have hb0 : listB L = false := by simpa using hb0
    have hB : meetB L M = false := by unfold meetB; rw [hb0]; simp
    rw [meetL_no hB, hB]
    rw [hb0] at HQ0
    obtain ⟨a0, k0, rfl, hk0, -⟩ := id h0
    obtain ⟨a1, k1, rfl, hk1, -⟩ := id h1
    clear h0 h1 hl0 hl1 hs0 hs1 hb0 hk0 hk1 hB
    skip
    skip
    go_enter Try.func40, Try.ntmps40
    go_wp2
    go_quiet (first | (go_at_call 59; with_reducible exact Calls.quiet_of (HQ1.out _)) | (go_at_call 59; with_reducible exact Calls.quiet_of (HQ0.out _)) | fail)
    have HB5 := Lib.hid (below_drewN (Below.refl w.heap.size w) nq)
    go_wp2
    go_ret2
    exact ⟨_, rfl, New.nil _ _ _, HB5.out⟩

theorem meetL_len (L M : List (List Nat)) : (meetL L M).length ≤ 1000 := by
  by_cases h : meetB L M = true
  · rw [meetL_yes h, rowsL_len]
    have h1 := stay_len (rF M) (rF L)
    rw [rF_len] at h1
    unfold meetB at h
    simp only [Bool.and_eq_true] at h
    have := rowsB_len h.1.1
    omega
  · rw [meetL_no (by simpa using h)]
    simp
theorem bothMeetIn (L M : List (List Nat)) (hl0 : L.length ≤ 2000000) (hs0 : ∀ l ∈ L, l.length ≤ maxLen) (hl1 : M.length ≤ 2000000) (hs1 : ∀ l ∈ M, l.length ≤ maxLen) :
    ∃ P b, P.length ≤ 1000 ∧ (∀ u v w, Txts w u L → Txts w v M → Calls Try.prog 41 #[u, v] w (TextsAny P b w)) ∧ (∀ u v w, Txts w u L → Txts w v M → Calls Try.prog 40 #[u, v] w (TextsAny P b w)) :=
  ⟨meetL L M, meetB L M, meetL_len L M, fun u v w h0 h1 => iMeetIn_any u v L M w h0 h1 hl0 hl1 hs0 hs1, fun u v w h0 h1 => sMeetIn_any u v L M w h0 h1 hl0 hl1 hs0 hs1⟩

set_option maxRecDepth 100000 in
set_option maxHeartbeats 1000000 in
theorem lawMeetIn (v0 : Value) (ss0 : List ByteArray) (v1 : Value) (ss1 : List ByteArray) (W : World) (hA0 : Arg W v0 ss0) (hy0 : ss0.length ≤ maxLen ∧ ∀ s ∈ ss0, s.size ≤ maxLen) (hA1 : Arg W v1 ss1) (hy1 : ss1.length ≤ maxLen ∧ ∀ s ∈ ss1, s.size ≤ maxLen) :
    Calls Try.prog 11 #[v0, v1] W fun e w' => e = .returned (.bool true) ∧ Below W.heap.size W w' := by
  have hz0 : ∀ w, Arg w v0 ss0 → (0 : Int) ≤ 1048576 → (1048576 : Int) ≤ 1048576 → Calls _ _ _ w _ := fun w h h0 h1 => szStringS_any v0 ss0 w h hy0.1 hy0.2 (1048576) h0 h1
  have hlen0 := szAll_len (ss := ss0) (left := 1048576)
  have hsm0 := letss_small (ss := ss0) (left := 1048576)
  have hle0 := szAll_left (ss := ss0) (left := 1048576)
  generalize hzz0 : szAll ss0 1048576 = z0 at *
  have hz1 : ∀ w, Arg w v1 ss1 → (0 : Int) ≤ z0 → (z0 : Int) ≤ 1048576 → Calls _ _ _ w _ := fun w h h0 h1 => szStringS_any v1 ss1 w h hy1.1 hy1.2 (z0) h0 h1
  have hlen1 := szAll_len (ss := ss1) (left := z0)
  have hsm1 := letss_small (ss := ss1) (left := z0)
  have hle1 := szAll_left (ss := ss1) (left := z0)
  generalize hzz1 : szAll ss1 z0 = z1 at *
  by_cases hneg0 : z0 < 0
  · clear hlen0 hsm0 hle0 hlen1 hsm1 hle1
    go_enter Try.func11, Try.ntmps11
    go_wp2_with fail
    refine (hz0 _ hA0 (by omega) (by omega)).mono ?_
    rintro e w0 ⟨rfl, rfl⟩
    go_wp2
    go_ret
    exact ⟨rfl, Below.refl _ _⟩
  have hn0 := hlen0 (by omega)
  have hsm0 := hsm0 (by omega) (by omega)
  have hle0 := hle0 (by omega)
  have hss0 : ss0.length ≤ 1048576 := by omega
  have HS0 : Hid (∀ w, Arg w v0 ss0 → Calls Try.prog 15 #[v0] w _) := Lib.hid (fun w h => toStringS_any v0 ss0 w h (by omega))
  have HZ0 := Lib.hid hz0
  have hll0 := letss_len ss0
  generalize letss ss0 = L0 at *
  have hL0 : L0.length ≤ 1048576 := by omega
  have HA0 := Lib.hid hA0
  by_cases hneg1 : z1 < 0
  · clear hlen1 hsm1 hle1
    go_enter Try.func11, Try.ntmps11
    go_wp2_with fail
    refine (hz0 _ hA0 (by omega) (by omega)).mono ?_
    rintro e w0 ⟨rfl, rfl⟩
    go_wp2_with fail
    refine (hz1 _ hA1 (by omega) (by omega)).mono ?_
    rintro e w0 ⟨rfl, rfl⟩
    go_wp2
    go_ret
    exact ⟨rfl, Below.refl _ _⟩
  have hn1 := hlen1 (by omega)
  have hsm1 := hsm1 (by omega) (by omega)
  have hle1 := hle1 (by omega)
  have hss1 : ss1.length ≤ 1048576 := by omega
  have HS1 : Hid (∀ w, Arg w v1 ss1 → Calls Try.prog 15 #[v1] w _) := Lib.hid (fun w h => toStringS_any v1 ss1 w h (by omega))
  have HZ1 := Lib.hid hz1
  have hll1 := letss_len ss1
  generalize letss ss1 = L1 at *
  have hL1 : L1.length ≤ 1048576 := by omega
  have HA1 := Lib.hid hA1
  obtain ⟨P, b, hPL, hI, hM⟩ := bothMeetIn L0 L1 (by omega) hsm0 (by omega) hsm1
  have HI := Lib.hid hI
  have HM := Lib.hid hM
  have hqs0 : L0.length + L1.length ≤ 1048576 := by omega
  clear hI hM hz0 hlen0 hy0 hll0 hA0 hsm0 hz1 hlen1 hy1 hll1 hA1 hsm1 
  obtain ⟨q0, hq0⟩ : ∃ n, L0.length = n := ⟨_, rfl⟩
  rw [hq0] at hL0
  have HQ0 := Lib.hid hq0
  clear hq0
  have hqi0 : (q0 : Int) ≤ 1048576 := by omega
  obtain ⟨q1, hq1⟩ : ∃ n, L1.length = n := ⟨_, rfl⟩
  rw [hq1] at hL1
  have HQ1 := Lib.hid hq1
  clear hq1
  have hqi1 : (q1 : Int) ≤ 1048576 := by omega
  have hqs : q0 + q1 ≤ 1048576 := by have h1 := HQ0.out; have h2 := HQ1.out; omega
  obtain ⟨m, hm⟩ : ∃ m, P.length = m := ⟨_, rfl⟩
  rw [hm] at hPL
  have HMM := Lib.hid hm
  clear hm
  have hmi : (m : Int) ≤ 1000 := by omega
  cases b
  all_goals
    go_enter Try.func11, Try.ntmps11
    go_wp2_with fail
    refine (HZ0.out _ HA0.out (by omega) (by omega)).mono ?_
    rintro e w0 ⟨rfl, rfl⟩
    go_wp2_with fail
    refine (HZ1.out _ HA1.out (by omega) (by omega)).mono ?_
    rintro e w0 ⟨rfl, rfl⟩
    clear HZ0 HZ1
    go_wp2_with fail
    refine (HS0.out _ HA0.out).mono ?_
    rintro e w1 ⟨va0, rfl, hn1, hb1⟩
    have B1 := Lib.hid hb1
    have Ta0_1 := Lib.hid hn1
    clear hn1 hb1
    go_wp2_with fail
    refine (HS1.out _ (HA1.out.kept B1.out)).mono ?_
    rintro e w2 ⟨va1, rfl, hn2, hb2⟩
    have B2 := Lib.hid (B1.out.trans (hb2.mono B1.out.size))
    have Ta0_2 := Lib.hid (Ta0_1.out.kept hb2)
    have Ta1_2 := Lib.hid hn2
    clear hn2 hb2 B1 Ta0_1
    go_wp2_with fail
    refine (HM.out va0 va1 _ Ta0_2.out.own.txts Ta1_2.out.own.txts).mono ?_
    rintro e w3 ⟨v2, rfl, hn3, hb3⟩
    have B3 := Lib.hid (B2.out.trans (hb3.mono B2.out.size))
    have Ta0_3 := Lib.hid (Ta0_2.out.kept hb3)
    have Ta1_3 := Lib.hid (Ta1_2.out.kept hb3)
    have R_3 := Lib.hid hn3.own
    clear hn3 hb3 B2 Ta0_2 Ta1_2
    clear Ta0_3
    clear Ta1_3
    have BB := B3
    clear B3
    have R0 := R_3
    go_wp2_with fail
    refine (HS0.out _ (HA0.out.kept BB.out)).mono ?_
    rintro e w4 ⟨vx0, rfl, hn4, hb4⟩
    have B4 := Lib.hid hb4
    have R_4 := Lib.hid (R_3.out.kept hb4)
    have Tx0_4 := Lib.hid hn4
    clear hn4 hb4 R_3
    go_wp2_with fail
    refine (HS1.out _ (HA1.out.kept (BB.out.trans (B4.out.mono BB.out.size)))).mono ?_
    rintro e w5 ⟨vx1, rfl, hn5, hb5⟩
    have AX : Hid (∀ g, vx1.ownBlock = some g → vx0.ownBlock ≠ some g) := Lib.hid (fun g hg h3 => by
      have h1 := hn5.base g hg
      have h2 := Tx0_4.out.own.lt g h3
      omega)
    have B5 := Lib.hid (B4.out.trans (hb5.mono B4.out.size))
    have R_5 := Lib.hid (R_4.out.kept hb5)
    have Tx0_5 := Lib.hid (Tx0_4.out.kept hb5)
    have Tx1_5 := Lib.hid (hn5.lower B4.out.size)
    clear hn5 hb5 B4 R_4 Tx0_4
    have SZX := Lib.hid B5.out.size
    go_wp2_with fail
    refine (HI.out vx0 vx1 _ Tx0_5.out.own.txts Tx1_5.out.own.txts).mono ?_
    rintro e w6 ⟨v4, rfl, hn4, hb4⟩
    have AP0 : Hid (∀ g, v4.ownBlock = some g → vx0.ownBlock ≠ some g) := Lib.hid (fun g hg h3 => by
      have h1 := hn4.base g hg
      have h2 := Tx0_5.out.own.lt g h3
      omega)
    have AP1 : Hid (∀ g, v4.ownBlock = some g → vx1.ownBlock ≠ some g) := Lib.hid (fun g hg h3 => by
      have h1 := hn4.base g hg
      have h2 := Tx1_5.out.own.lt g h3
      omega)
    have SZ6 := Lib.hid hb4.size
    have B6 := Lib.hid (B5.out.trans (hb4.mono B5.out.size))
    have R_6 := Lib.hid (R_5.out.kept hb4)
    have Tx0_6 := Lib.hid (Tx0_5.out.kept hb4)
    have Tx1_6 := Lib.hid (Tx1_5.out.kept hb4)
    have G_6 := Lib.hid hn4
    clear hn4 hb4 B5 R_5 Tx0_5 Tx1_5
    go_wp2_with fail
    refine (eqStringS_same v4 v2 P _ G_6.out.own R_6.out (by rw [HMM.out]; omega)).mono ?_
    rintro e w7 ⟨rfl, d7, hd7⟩
    have B7 : Hid (Below w3.heap.size w3 w7) := by rw [hd7]; exact below_drewN B6.out _
    have R_7 := Lib.hid (R_6.out.drewN d7)
    rw [← hd7] at R_7
    have Tx0_7 := Lib.hid (Tx0_6.out.drewN d7)
    rw [← hd7] at Tx0_7
    have Tx1_7 := Lib.hid (Tx1_6.out.drewN d7)
    rw [← hd7] at Tx1_7
    have G_7 := Lib.hid (G_6.out.drewN d7)
    rw [← hd7] at G_7
    have SZ7 : Hid (w5.heap.size ≤ w7.heap.size) := by rw [hd7]; exact SZ6.out
    clear hd7 SZ6 B6 R_6 Tx0_6 Tx1_6 G_6
    go_wp2_with fail
    refine (HS0.out _ (HA0.out.kept (BB.out.trans (B7.out.mono BB.out.size)))).mono ?_
    rintro e w8 ⟨vy0, rfl, hn8, hb8⟩
    have B8 := Lib.hid (B7.out.trans (hb8.mono B7.out.size))
    have R_8 := Lib.hid (R_7.out.kept hb8)
    have Tx0_8 := Lib.hid (Tx0_7.out.kept hb8)
    have Tx1_8 := Lib.hid (Tx1_7.out.kept hb8)
    have G_8 := Lib.hid (G_7.out.kept hb8)
    have Ty_8 := Lib.hid hn8.own
    have SZ8 := Lib.hid (Nat.le_trans SZ7.out hb8.size)
    clear hn8 hb8 B7 SZ7 R_7 Tx0_7 Tx1_7 G_7
    go_wp2_with fail
    refine (eqStringS_same vx0 vy0 L0 _ Tx0_8.out.own Ty_8.out (by rw [HQ0.out]; omega)).mono ?_
    rintro e w9 ⟨rfl, d9, hd9⟩
    have B9 : Hid (Below w3.heap.size w3 w9) := by rw [hd9]; exact below_drewN B8.out _
    have R_9 := Lib.hid (R_8.out.drewN d9)
    rw [← hd9] at R_9
    have Tx0_9 := Lib.hid (Tx0_8.out.drewN d9)
    rw [← hd9] at Tx0_9
    have Tx1_9 := Lib.hid (Tx1_8.out.drewN d9)
    rw [← hd9] at Tx1_9
    have G_9 := Lib.hid (G_8.out.drewN d9)
    rw [← hd9] at G_9
    have Ty_9 := Lib.hid (Ty_8.out.drewN d9)
    rw [← hd9] at Ty_9
    have SZ9 : Hid (w5.heap.size ≤ w9.heap.size) := by rw [hd9]; exact SZ8.out
    clear hd9 SZ8 B8 R_8 Tx0_8 Tx1_8 G_8 Ty_8
    clear Ty_9
    go_wp2_with fail
    refine (HS1.out _ (HA1.out.kept (BB.out.trans (B9.out.mono BB.out.size)))).mono ?_
    rintro e w10 ⟨vy1, rfl, hn10, hb10⟩
    have B10 := Lib.hid (B9.out.trans (hb10.mono B9.out.size))
    have R_10 := Lib.hid (R_9.out.kept hb10)
    have Tx0_10 := Lib.hid (Tx0_9.out.kept hb10)
    have Tx1_10 := Lib.hid (Tx1_9.out.kept hb10)
    have G_10 := Lib.hid (G_9.out.kept hb10)
    have Ty_10 := Lib.hid hn10.own
    have SZ10 := Lib.hid (Nat.le_trans SZ9.out hb10.size)
    clear hn10 hb10 B9 SZ9 R_9 Tx0_9 Tx1_9 G_9
    go_wp2_with fail
    refine (eqStringS_same vx1 vy1 L1 _ Tx1_10.out.own Ty_10.out (by rw [HQ1.out]; omega)).mono ?_
    rintro e w11 ⟨rfl, d11, hd11⟩
    have B11 : Hid (Below w3.heap.size w3 w11) := by rw [hd11]; exact below_drewN B10.out _
    have R_11 := Lib.hid (R_10.out.drewN d11)
    rw [← hd11] at R_11
    have Tx0_11 := Lib.hid (Tx0_10.out.drewN d11)
    rw [← hd11] at Tx0_11
    have Tx1_11 := Lib.hid (Tx1_10.out.drewN d11)
    rw [← hd11] at Tx1_11
    have G_11 := Lib.hid (G_10.out.drewN d11)
    rw [← hd11] at G_11
    have Ty_11 := Lib.hid (Ty_10.out.drewN d11)
    rw [← hd11] at Ty_11
    have SZ11 : Hid (w5.heap.size ≤ w11.heap.size) := by rw [hd11]; exact SZ10.out
    clear hd11 SZ10 B10 R_10 Tx0_10 Tx1_10 G_10 Ty_10
    clear Ty_11
    go_wp2_with fail
    refine (markStringS_full w3.heap.size vx0 L0 1 _ Tx0_11.out B11.out.size (by rw [HQ0.out]; omega) (by omega) (by omega)).mono ?_
    rintro e w12 ⟨rfl, _, hb12, hk12⟩
    have B12 := Lib.hid (B11.out.trans hb12)
    have R_12 := Lib.hid (R_11.out.under R0.out.lt hb12)
    have G_12 : Hid (New w5.heap.size w12 9 v4 (strs P)) := Lib.hid ⟨G_11.out.own.besides hk12 AP0.out, G_11.out.base⟩
    have Tx1_12 : Hid (New w3.heap.size w12 9 vx1 (strs L1)) := Lib.hid ⟨Tx1_11.out.own.besides hk12 AX.out, Tx1_11.out.base⟩
    have SZ12 := Lib.hid (Nat.le_trans SZ11.out hb12.size)
    rw [HQ0.out]
    clear hb12 hk12 B11 SZ11 R_11 G_11 Tx1_11 Tx0_11
    go_wp2_with fail
    refine (markStringS_big w3.heap.size vx1 L1 (1 + q0) _ (by go_num) Tx1_12.out B12.out.size (by rw [HQ1.out]; omega) (by omega) (by omega)).mono ?_
    rintro e w13 ⟨rfl, _, hb13, hk13⟩
    have B13 := Lib.hid (B12.out.trans hb13)
    have R_13 := Lib.hid (R_12.out.under R0.out.lt hb13)
    have G_13 : Hid (New w5.heap.size w13 9 v4 (strs P)) := Lib.hid ⟨G_12.out.own.besides hk13 AP1.out, G_12.out.base⟩
    have SZ13 := Lib.hid (Nat.le_trans SZ12.out hb13.size)
    rw [HQ1.out]
    clear hb13 hk13 B12 SZ12 R_12 G_12 Tx1_12
    have hnn : ¬ (((1 + q0 : Nat) : Int) + (q1 : Nat) < 0) := by omega
    have hnn2 : ¬ ((1 : Int) + (q0 : Nat) + (q1 : Nat) < 0) := by omega
    go_wp2_with fail
    refine (eqStringS_same v4 v2 P _ G_13.out.own R_13.out (by rw [HMM.out]; omega)).mono ?_
    rintro e w14 ⟨rfl, d14, hd14⟩
    have B14 : Hid (Below w3.heap.size w3 w14) := by rw [hd14]; exact below_drewN B13.out _
    have R_14 := Lib.hid (R_13.out.drewN d14)
    rw [← hd14] at R_14
    have G_14 := Lib.hid (G_13.out.drewN d14)
    rw [← hd14] at G_14
    have SZ14 : Hid (w5.heap.size ≤ w14.heap.size) := by rw [hd14]; exact SZ13.out
    clear hd14 SZ13 B13 R_13 G_13
    go_wp2_with fail
    refine (markStringS_full w5.heap.size v4 P 1 _ G_14.out SZ14.out (by rw [HMM.out]; omega) (by omega) (by omega)).mono ?_
    rintro e w15 ⟨rfl, hn15, hb15, _⟩
    rw [HMM.out] at hn15
    have B15 := Lib.hid (B14.out.trans (hb15.mono SZX.out))
    have R_15 := Lib.hid (R_14.out.under (fun g hg => Nat.lt_of_lt_of_le (R0.out.lt g hg) SZX.out) hb15)
    have G_15 := Lib.hid hn15
    rw [HMM.out]
    clear hn15 hb15 B14 R_14 G_14
    go_wp2_with fail
    refine (heldStringS_any v4 m 1 _ G_15.out.own (by omega) (by omega) (by omega)).mono ?_
    rintro e w16 ⟨rfl, hb16⟩
    have B16 := Lib.hid (B15.out.trans (hb16.mono B15.out.size))
    have R_16 := Lib.hid (R_15.out.kept hb16)
    have G_16 := Lib.hid (G_15.out.kept hb16)
    clear hb16 B15 R_15 G_15
    have hmm : ¬ ((1 : Int) + (m : Nat) < 0) := by omega
    go_wp2_with fail
    refine (HS0.out _ (HA0.out.kept (BB.out.trans (B16.out.mono BB.out.size)))).mono ?_
    rintro e w17 ⟨vh0, rfl, hn17, hb17⟩
    have B17 := Lib.hid (B16.out.trans (hb17.mono B16.out.size))
    have R_17 := Lib.hid (R_16.out.kept hb17)
    have G_17 := Lib.hid (G_16.out.kept hb17)
    have Th0_17 := Lib.hid hn17
    clear hn17 hb17 B16 R_16 G_16
    go_wp2_with fail
    refine (HS1.out _ (HA1.out.kept (BB.out.trans (B17.out.mono BB.out.size)))).mono ?_
    rintro e w18 ⟨vh1, rfl, hn18, hb18⟩
    have B18 := Lib.hid (B17.out.trans (hb18.mono B17.out.size))
    have R_18 := Lib.hid (R_17.out.kept hb18)
    have G_18 := Lib.hid (G_17.out.kept hb18)
    have Th0_18 := Lib.hid (Th0_17.out.kept hb18)
    have Th1_18 := Lib.hid hn18
    clear hn18 hb18 B17 R_17 G_17 Th0_17
    go_wp2_with fail
    refine (HI.out vh0 vh1 _ Th0_18.out.own.txts Th1_18.out.own.txts).mono ?_
    rintro e w19 ⟨v13, rfl, hn19, hb19⟩
    have B19 := Lib.hid (B18.out.trans (hb19.mono B18.out.size))
    have R_19 := Lib.hid (R_18.out.kept hb19)
    have G_19 := Lib.hid (G_18.out.kept hb19)
    have Th0_19 := Lib.hid (Th0_18.out.kept hb19)
    have Th1_19 := Lib.hid (Th1_18.out.kept hb19)
    have H_19 := Lib.hid hn19.own
    clear hn19 hb19 B18 R_18 G_18 Th0_18 Th1_18
    clear Th0_19
    clear Th1_19
    go_wp2_with fail
    refine (eqStringS_same v13 v2 P _ H_19.out R_19.out (by rw [HMM.out]; omega)).mono ?_
    rintro e w20 ⟨rfl, d20, hd20⟩
    have B20 : Hid (Below w3.heap.size w3 w20) := by rw [hd20]; exact below_drewN B19.out _
    have G_20 : Hid (New w5.heap.size w20 9 v4 (strs (smarks 1 m))) := by rw [hd20]; exact G_19.out.drewN _
    clear hd20 B19 R_19 G_19 H_19
    go_wp2_with fail
    refine (heldStringS_any v4 m 1 _ G_20.out.own (by omega) (by omega) (by omega)).mono ?_
    rintro e w21 ⟨rfl, hb21⟩
    have B21 := Lib.hid (B20.out.trans (hb21.mono B20.out.size))
    have G_21 := Lib.hid (G_20.out.kept hb21)
    clear hb21 B20 G_20
    go_wp2
    go_ret
    exact ⟨rfl, BB.out.trans (B21.out.mono BB.out.size)⟩
end Go.Proofs.Ytnoepobbecobbaa
