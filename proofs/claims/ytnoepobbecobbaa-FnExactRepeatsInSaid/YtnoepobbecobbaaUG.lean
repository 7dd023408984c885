/- RepeatsIn, in the program and in the model. -/
import Derived.Test.YtnoepobbecobbaaUB
import Derived.Test.YtnoepobbecobbaaSC
namespace Go.Proofs.Ytnoepobbecobbaa
open Go.RowKit
set_option linter.unusedSimpArgs false
set_option linter.unusedVariables false

noncomputable def uptoP (fs : List (Nat → Nat)) (j : Nat) : List (List Nat) := (allP fs j).take 100
noncomputable def rpL (L : List (List Nat)) : List (List Nat) := if listB L = true then repF (rF L) else []
theorem rpL_yes {L : List (List Nat)} (h : listB L = true) : rpL L = uptoP (rF L) (rF L).length := by
  unfold rpL
  rw [if_pos h]
  rfl
theorem rpL_no {L : List (List Nat)} (h : listB L = false) : rpL L = [] := by
  unfold rpL
  rw [h]
  rfl
theorem numsV_two (j k : Nat) : ints (numsV [j, k]) = [Value.int .i64 (j : Int), Value.int .i64 (k : Int)] := rfl

set_option maxRecDepth 100000 in
set_option maxHeartbeats 1000000 in
theorem iRepeatsIn_any (v : Value) (L : List (List Nat)) (w : World) (h : Txts w v L) (hl : L.length ≤ 2000000) (hs : ∀ l ∈ L, l.length ≤ maxLen) :
    Calls Try.prog 19 #[v] w (ListsN (rpL L) (listB L) w) := by
  have HC := Lib.hid (iGoodRows_any v L w h hl hs)
  unfold ListsN
  by_cases hb : listB L = true
  · rw [rpL_yes hb, hb]
    rw [hb] at HC
    have hrows := rowsB_rows hb
    have hmt : Txts w v (rowsL (firstN L) (rF L)) := Txts.rows h hb
    obtain ⟨m, hfl⟩ : ∃ m, (rF L).length = m := ⟨_, rfl⟩
    have hm8 : m ≤ 800 := by have := rowsB_len hb; rw [← hfl, rF_len]; omega
    generalize firstN L = n at *
    generalize rF L = fs at *
    obtain ⟨a, cap, rfl, hcap, ha⟩ := hmt
    rw [rowsL_len, hfl] at ha
    rw [rowsL_len, hfl] at HC ⊢
    have HA : Hid (0 < m → ∃ g off, a = some ⟨g, off, none⟩ ∧ g < w.heap.size ∧ ∀ j (hj : j < fs.length), w.cell? ⟨g, off + j, none⟩ = some (.string (strOf n fs[j]))) := Lib.hid (fun h0 => by
      obtain ⟨g', o', e', hg', hc'⟩ := ha h0
      refine ⟨g', o', e', hg', fun j hj => ?_⟩
      rw [hc' j (by rw [← hfl]; exact hj), rowsL, List.getD_eq_getElem?_getD, List.getElem?_map, List.getElem?_eq_getElem hj, Option.map_some, Option.getD_some, txt_rowL])
    have hmi : (m : Int) ≤ 800 := by omega
    have HR := Lib.hid hrows
    have HFL := Lib.hid hfl
    obtain ⟨i0, hi0, hz0, hz1, hz2⟩ := info_parts infoInts
    have I0 := Lib.hid (⟨hi0, hz0, hz1, hz2⟩ : _ ∧ _ ∧ _ ∧ _)
    clear h hl hs hb hrows hfl hcap ha hi0 hz0 hz1 hz2
    go_enter Try.func19, Try.ntmps19
    go_wp2_with fail
    refine HC.out.mono ?_
    rintro e w1 ⟨rfl, hb1⟩
    have HB1 := Lib.hid hb1
    clear hb1 HC
    go_wp2
    go_loopg [4, 12] m (fun q ov i wr => ∃ (j : Nat) (vs : List Value), q + j = m ∧ i = .int .i64 j ∧ Lists w.heap.size wr ov vs (uptoP fs j).length (lkN (uptoP fs j)) ∧ Below w.heap.size w wr)
    case atStart => exact ⟨0, [], by omega, rfl, Lists.nil _ _ _, HB1.out⟩
    case round =>
      clear HB1
      obtain ⟨j, vs, hq, rfl, hls, hb⟩ := hrel
      have HQ := Lib.hid hq
      have HLS := Lib.hid hls
      have HB := Lib.hid hb
      obtain ⟨oa, oc, rfl, -⟩ := hls.view
      clear hq hls hb
      by_cases hlt : j < m
      · obtain ⟨q2, rfl⟩ : ∃ q', gk = q' + 1 := ⟨gk - 1, by have := HQ.out; omega⟩
        have hji : (j : Int) < (m : Int) := by omega
        have HST : Hid (uptoP fs j = nowP fs j (j + 1)) := Lib.hid (nowP_first fs j).symm
        go_wp2
        go_loopg [4, 6] (m - (j + 1)) (fun q ov i wr => ∃ (k : Nat) (vs : List Value), q + k = m ∧ j + 1 ≤ k ∧ i = .int .i64 k ∧ Lists w.heap.size wr ov vs (nowP fs j k).length (lkN (nowP fs j k)) ∧ Below w.heap.size w wr)
        case atStart => exact ⟨j + 1, vs, by omega, by omega, by go_num, by rw [← HST.out]; exact HLS.out, HB.out⟩
        case round =>
          clear HLS HB HST
          obtain ⟨k, vs, hq, hjk, rfl, hls, hb⟩ := hrel
          have HQ3 := Lib.hid hq
          have HLS := Lib.hid hls
          have HB := Lib.hid hb
          have hcl := nowP_len fs j k
          obtain ⟨oa, oc, rfl, -⟩ := hls.view
          clear hq hls hb
          by_cases hlk : k < m
          · by_cases hfull : (nowP fs j k).length < 100
            · obtain ⟨q3, rfl⟩ : ∃ q', gk = q' + 1 := ⟨gk - 1, by have := HQ3.out; omega⟩
              obtain ⟨g, off, rfl, hg, hc⟩ := HA.out (by omega)
              have hjx : j < fs.length := by rw [HFL.out]; exact hlt
              have hkx : k < fs.length := by rw [HFL.out]; exact hlk
              have c1 := (HB.out.cell (p := ⟨g, off + j, none⟩) hg).trans (hc j hjx)
              have c2 := (HB.out.cell (p := ⟨g, off + k, none⟩) hg).trans (hc k hkx)
              have hr1 := HR.out _ (List.getElem_mem hjx)
              have hr2 := HR.out _ (List.getElem_mem hkx)
              have hki : (k : Int) < (m : Int) := by omega
              have hfi : ((nowP fs j k).length : Int) < 100 := by omega
              by_cases he : fs[j] = fs[k]
              · have HY : Hid (nowP fs j (k + 1) = nowP fs j k ++ [[j, k]]) := Lib.hid (nowP_yes hfull (by omega) (by rw [List.getElem?_eq_getElem hjx, List.getElem?_eq_getElem hkx, he]))
                rw [← he] at c2
                have hss : ((strOf n fs[j]).toList == (strOf n fs[j]).toList) = true := by simp
                generalize strOf n fs[j] = sj at *
                have HBD := Lib.hid (drawnBelow HB.out)
                clear hr1 hr2 he hc hjx hkx
                go_wp2
                go_quiet (fail)
                have HLD := Lib.hid (HLS.out.kept (below_drewN (Below.refl _ _) nq))
                have HBE := Lib.hid (HBD.out nq)
                clear HLS HB HBD
                generalize wr.drewN nq = wd at *
                have HIN := Lib.hid (Own.lit wd 3 (ints (numsV [j, k])) (by rw [numsV_two]; simp))
                rw [numsV_two] at HIN
                obtain ⟨o1, ho1⟩ : ∃ o1, Obj.cells #[Value.int .i64 (j : Int), Value.int .i64 (k : Int)] 3 = o1 := ⟨_, rfl⟩
                obtain ⟨o2, ho2⟩ : ∃ o2, Obj.cells #[Value.slice (some ⟨wd.heap.size, 0, none⟩) 2 2] 34 = o2 := ⟨_, rfl⟩
                have hal : Below wd.heap.size wd ((wd.alloc o1).alloc o2) := ((Below.refl _ _).alloc (Nat.le_refl _) o1).alloc (by simp) o2
                have HB4 := Lib.hid (HBE.out.trans (hal.mono HBE.out.size))
                have HL4 := Lib.hid (HLD.out.kept hal)
                have HIN2 : Hid (New wd.heap.size ((wd.alloc o1).alloc o2) 3 (.slice (some ⟨wd.heap.size, 0, none⟩) 2 2) (ints (numsV [j, k]))) := Lib.hid ⟨by
                  have := HIN.out
                  rw [show (Obj.cells ([Value.int .i64 (j : Int), Value.int .i64 (k : Int)] : List Value).toArray 3) = o1 from ho1] at this
                  exact this.alloc o2, fun g hg => by
                  have : wd.heap.size = g := by simpa [Value.ownBlock] using hg
                  omega⟩
                have HNW : Hid (∀ i y, [Value.slice (some ⟨wd.heap.size, 0, none⟩) 2 2][i]? = some y → ((wd.alloc o1).alloc o2).cell? ((⟨wd.heap.size + 1, 0, none⟩ : Addr).add i) = some y) := Lib.hid (fun i y hy => by
                  have hi0 : i = 0 := by
                    have := (List.getElem?_eq_some_iff.1 hy).1
                    simpa using this
                  subst hi0
                  simp at hy
                  subst hy
                  rw [show (⟨wd.heap.size + 1, 0, none⟩ : Addr).add 0 = ⟨wd.heap.size + 1, 0, none⟩ from rfl, ← ho2]
                  simp)
                have HLT : Hid (∀ i g, i < (nowP fs j k).length → (vs.getD i nilV).ownBlock = some g → g < wd.heap.size) := Lib.hid (fun i g hi hg => (HLD.out.inner i hi).lt g hg)
                have HWS := Lib.hid HBE.out.size
                clear hal
                subst ho1 ho2
                go_wp2_with (at_builtin; refine wpList_appN rfl (.tmp 37) (.tmp 41) 29 rfl 34 i0 (.slice none 0 0) 24 Try.underlying29 I0.out.1 I0.out.2.1 I0.out.2.2.1 I0.out.2.2.2 rfl w.heap.size w _ vs rfl HL4.out.newN ⟨wd.heap.size + 1, 0, none⟩ 1 1 [Value.slice (some ⟨wd.heap.size, 0, none⟩) 2 2] rfl rfl HNW.out (fun u hu => by simp at hu; subst hu; rfl) HB4.out.size HB4.out (by rw [HL4.out.len]; omega) (by omega) ?_)
                intro v7 w7 hn7 hk7 hb7 _ _
                have HL7 := Lib.hid ((HL4.out.more6 HIN2.out HWS.out HLT.out hn7 hk7).congr (lkN_snoc (nowP fs j k) [j, k]))
                have HB7 := Lib.hid hb7
                obtain ⟨ua7, uc7, rfl, -⟩ := HL7.out.view
                clear hn7 hk7 hb7 HL4 HLD HB4 HIN HIN2 HNW
                go_wp2
                go_roundg q3
                case measure => have := HQ3.out; omega
                case rel => exact ⟨k + 1, _, by have := HQ3.out; omega, by omega, by go_num, by rw [HY.out, List.length_append]; exact HL7.out, HB7.out⟩
              · have HY : Hid (nowP fs j (k + 1) = nowP fs j k) := Lib.hid (nowP_no (by rw [List.getElem?_eq_getElem hjx, List.getElem?_eq_getElem hkx]; exact fun h => he (Option.some.inj h)))
                have hss := str_other hr1 hr2 (fun e => he e)
                generalize strOf n fs[j] = sj at *
                generalize strOf n fs[k] = sk at *
                clear hr1 hr2 he hc hjx hkx
                go_wp2
                go_quiet (fail)
                go_wp2
                go_roundg q3
                case measure => have := HQ3.out; omega
                case rel => exact ⟨k + 1, vs, by have := HQ3.out; omega, by omega, by go_num, by rw [HY.out]; exact HLS.out.kept (below_drewN (Below.refl _ _) _), drawnBelow HB.out _⟩
            · have HF : Hid (nowP fs j k = uptoP fs (j + 1)) := Lib.hid (nowP_full hfull (by rw [HFL.out]; omega))
              have hki : (k : Int) < (m : Int) := by omega
              have hfi : ¬ ((nowP fs j k).length : Int) < 100 := by omega
              clear hfull
              go_wp2
              go_roundg q2
              case measure => have := HQ.out; omega
              case rel => exact ⟨j + 1, vs, by have := HQ.out; omega, by go_num, by rw [← HF.out]; exact HLS.out, HB.out⟩
          · have hkm : k = m := by have := HQ3.out; omega
            have HF : Hid (nowP fs j k = uptoP fs (j + 1)) := Lib.hid (by rw [hkm, ← HFL.out]; exact nowP_last fs j)
            have hki : ¬ (k : Int) < (m : Int) := by omega
            clear hkm
            go_wp2
            go_roundg q2
            case measure => have := HQ.out; omega
            case rel => exact ⟨j + 1, vs, by have := HQ.out; omega, by go_num, by rw [← HF.out]; exact HLS.out, HB.out⟩
      · obtain rfl : j = m := by have := HQ.out; omega
        have HJ := Lib.hid HFL.out.symm
        clear hlt
        go_wp2
        go_ret2
        exact ⟨_, vs, rfl, HLS.out, HB.out⟩
  · have hb : listB L = false := by simpa using hb
    rw [rpL_no hb, hb]
    rw [hb] at HC
    clear h hl hs hb
    go_enter Try.func19, Try.ntmps19
    go_wp2_with fail
    refine HC.out.mono ?_
    rintro e w1 ⟨rfl, hb1⟩
    go_wp2
    go_ret2
    exact ⟨_, [], rfl, Lists.nil _ _ _, hb1⟩

set_option maxRecDepth 100000 in
set_option maxHeartbeats 1000000 in
theorem sRepeatsIn_any (v : Value) (L : List (List Nat)) (w : World) (h : Txts w v L) (hl : L.length ≤ 2000000) (hs : ∀ l ∈ L, l.length ≤ maxLen) :
    Calls Try.prog 18 #[v] w (ListsN (rpL L) (listB L) w) := by
  have HC := Lib.hid (l6Rows_any v L w h hl hs)
  unfold ListsN
  by_cases hb : listB L = true
  · rw [rpL_yes hb, hb]
    rw [hb] at HC
    have hrows := rowsB_rows hb
    have hmt : Txts w v (rowsL (firstN L) (rF L)) := Txts.rows h hb
    obtain ⟨m, hfl⟩ : ∃ m, (rF L).length = m := ⟨_, rfl⟩
    have hm8 : m ≤ 800 := by have := rowsB_len hb; rw [← hfl, rF_len]; omega
    generalize firstN L = n at *
    generalize rF L = fs at *
    obtain ⟨a, cap, rfl, hcap, ha⟩ := hmt
    rw [rowsL_len, hfl] at ha
    rw [rowsL_len, hfl] at HC ⊢
    have HA : Hid (0 < m → ∃ g off, a = some ⟨g, off, none⟩ ∧ g < w.heap.size ∧ ∀ j (hj : j < fs.length), w.cell? ⟨g, off + j, none⟩ = some (.string (strOf n fs[j]))) := Lib.hid (fun h0 => by
      obtain ⟨g', o', e', hg', hc'⟩ := ha h0
      refine ⟨g', o', e', hg', fun j hj => ?_⟩
      rw [hc' j (by rw [← hfl]; exact hj), rowsL, List.getD_eq_getElem?_getD, List.getElem?_map, List.getElem?_eq_getElem hj, Option.map_some, Option.getD_some, txt_rowL])
    have hmi : (m : Int) ≤ 800 := by omega
    have HR := Lib.hid hrows
    have HFL := Lib.hid hfl
    obtain ⟨i0, hi0, hz0, hz1, hz2⟩ := info_parts infoInts
    have I0 := Lib.hid (⟨hi0, hz0, hz1, hz2⟩ : _ ∧ _ ∧ _ ∧ _)
    clear h hl hs hb hrows hfl hcap ha hi0 hz0 hz1 hz2
    go_enter Try.func18, Try.ntmps18
    go_wp2_with fail
    refine HC.out.mono ?_
    rintro e w1 ⟨rfl, hb1⟩
    have HB1 := Lib.hid hb1
    clear hb1 HC
    go_wp2
    go_loopg [4, 12] m (fun q ov i wr => ∃ (j : Nat) (vs : List Value), q + j = m ∧ i = .int .i64 j ∧ Lists w.heap.size wr ov vs (uptoP fs j).length (lkN (uptoP fs j)) ∧ Below w.heap.size w wr)
    case atStart => exact ⟨0, [], by omega, rfl, Lists.nil _ _ _, HB1.out⟩
    case round =>
      clear HB1
      obtain ⟨j, vs, hq, rfl, hls, hb⟩ := hrel
      have HQ := Lib.hid hq
      have HLS := Lib.hid hls
      have HB := Lib.hid hb
      obtain ⟨oa, oc, rfl, -⟩ := hls.view
      clear hq hls hb
      by_cases hlt : j < m
      · obtain ⟨q2, rfl⟩ : ∃ q', gk = q' + 1 := ⟨gk - 1, by have := HQ.out; omega⟩
        have hji : (j : Int) < (m : Int) := by omega
        have HST : Hid (uptoP fs j = nowP fs j (j + 1)) := Lib.hid (nowP_first fs j).symm
        go_wp2
        go_loopg [4, 6] (m - (j + 1)) (fun q ov i wr => ∃ (k : Nat) (vs : List Value), q + k = m ∧ j + 1 ≤ k ∧ i = .int .i64 k ∧ Lists w.heap.size wr ov vs (nowP fs j k).length (lkN (nowP fs j k)) ∧ Below w.heap.size w wr)
        case atStart => exact ⟨j + 1, vs, by omega, by omega, by go_num, by rw [← HST.out]; exact HLS.out, HB.out⟩
        case round =>
          clear HLS HB HST
          obtain ⟨k, vs, hq, hjk, rfl, hls, hb⟩ := hrel
          have HQ3 := Lib.hid hq
          have HLS := Lib.hid hls
          have HB := Lib.hid hb
          have hcl := nowP_len fs j k
          obtain ⟨oa, oc, rfl, -⟩ := hls.view
          clear hq hls hb
          by_cases hlk : k < m
          · by_cases hfull : (nowP fs j k).length < 100
            · obtain ⟨q3, rfl⟩ : ∃ q', gk = q' + 1 := ⟨gk - 1, by have := HQ3.out; omega⟩
              obtain ⟨g, off, rfl, hg, hc⟩ := HA.out (by omega)
              have hjx : j < fs.length := by rw [HFL.out]; exact hlt
              have hkx : k < fs.length := by rw [HFL.out]; exact hlk
              have c1 := (HB.out.cell (p := ⟨g, off + j, none⟩) hg).trans (hc j hjx)
              have c2 := (HB.out.cell (p := ⟨g, off + k, none⟩) hg).trans (hc k hkx)
              have hr1 := HR.out _ (List.getElem_mem hjx)
              have hr2 := HR.out _ (List.getElem_mem hkx)
              have hki : (k : Int) < (m : Int) := by omega
              have hfi : ((nowP fs j k).length : Int) < 100 := by omega
              by_cases he : fs[j] = fs[k]
              · have HY : Hid (nowP fs j (k + 1) = nowP fs j k ++ [[j, k]]) := Lib.hid (nowP_yes hfull (by omega) (by rw [List.getElem?_eq_getElem hjx, List.getElem?_eq_getElem hkx, he]))
                rw [← he] at c2
                have hss : ((strOf n fs[j]).toList == (strOf n fs[j]).toList) = true := by simp
                generalize strOf n fs[j] = sj at *
                have HBD := Lib.hid (drawnBelow HB.out)
                clear hr1 hr2 he hc hjx hkx
                go_wp2
                go_quiet (fail)
                have HLD := Lib.hid (HLS.out.kept (below_drewN (Below.refl _ _) nq))
                have HBE := Lib.hid (HBD.out nq)
                clear HLS HB HBD
                generalize wr.drewN nq = wd at *
                have HIN := Lib.hid (Own.lit wd 3 (ints (numsV [j, k])) (by rw [numsV_two]; simp))
                rw [numsV_two] at HIN
                obtain ⟨o1, ho1⟩ : ∃ o1, Obj.cells #[Value.int .i64 (j : Int), Value.int .i64 (k : Int)] 3 = o1 := ⟨_, rfl⟩
                obtain ⟨o2, ho2⟩ : ∃ o2, Obj.cells #[Value.slice (some ⟨wd.heap.size, 0, none⟩) 2 2] 34 = o2 := ⟨_, rfl⟩
                have hal : Below wd.heap.size wd ((wd.alloc o1).alloc o2) := ((Below.refl _ _).alloc (Nat.le_refl _) o1).alloc (by simp) o2
                have HB4 := Lib.hid (HBE.out.trans (hal.mono HBE.out.size))
                have HL4 := Lib.hid (HLD.out.kept hal)
                have HIN2 : Hid (New wd.heap.size ((wd.alloc o1).alloc o2) 3 (.slice (some ⟨wd.heap.size, 0, none⟩) 2 2) (ints (numsV [j, k]))) := Lib.hid ⟨by
                  have := HIN.out
                  rw [show (Obj.cells ([Value.int .i64 (j : Int), Value.int .i64 (k : Int)] : List Value).toArray 3) = o1 from ho1] at this
                  exact this.alloc o2, fun g hg => by
                  have : wd.heap.size = g := by simpa [Value.ownBlock] using hg
                  omega⟩
                have HNW : Hid (∀ i y, [Value.slice (some ⟨wd.heap.size, 0, none⟩) 2 2][i]? = some y → ((wd.alloc o1).alloc o2).cell? ((⟨wd.heap.size + 1, 0, none⟩ : Addr).add i) = some y) := Lib.hid (fun i y hy => by
                  have hi0 : i = 0 := by
                    have := (List.getElem?_eq_some_iff.1 hy).1
                    simpa using this
                  subst hi0
                  simp at hy
                  subst hy
                  rw [show (⟨wd.heap.size + 1, 0, none⟩ : Addr).add 0 = ⟨wd.heap.size + 1, 0, none⟩ from rfl, ← ho2]
                  simp)
                have HLT : Hid (∀ i g, i < (nowP fs j k).length → (vs.getD i nilV).ownBlock = some g → g < wd.heap.size) := Lib.hid (fun i g hi hg => (HLD.out.inner i hi).lt g hg)
                have HWS := Lib.hid HBE.out.size
                clear hal
                subst ho1 ho2
                go_wp2_with (at_builtin; refine wpList_appN rfl (.tmp 37) (.tmp 41) 29 rfl 34 i0 (.slice none 0 0) 24 Try.underlying29 I0.out.1 I0.out.2.1 I0.out.2.2.1 I0.out.2.2.2 rfl w.heap.size w _ vs rfl HL4.out.newN ⟨wd.heap.size + 1, 0, none⟩ 1 1 [Value.slice (some ⟨wd.heap.size, 0, none⟩) 2 2] rfl rfl HNW.out (fun u hu => by simp at hu; subst hu; rfl) HB4.out.size HB4.out (by rw [HL4.out.len]; omega) (by omega) ?_)
                intro v7 w7 hn7 hk7 hb7 _ _
                have HL7 := Lib.hid ((HL4.out.more6 HIN2.out HWS.out HLT.out hn7 hk7).congr (lkN_snoc (nowP fs j k) [j, k]))
                have HB7 := Lib.hid hb7
                obtain ⟨ua7, uc7, rfl, -⟩ := HL7.out.view
                clear hn7 hk7 hb7 HL4 HLD HB4 HIN HIN2 HNW
                go_wp2
                go_roundg q3
                case measure => have := HQ3.out; omega
                case rel => exact ⟨k + 1, _, by have := HQ3.out; omega, by omega, by go_num, by rw [HY.out, List.length_append]; exact HL7.out, HB7.out⟩
              · have HY : Hid (nowP fs j (k + 1) = nowP fs j k) := Lib.hid (nowP_no (by rw [List.getElem?_eq_getElem hjx, List.getElem?_eq_getElem hkx]; exact fun h => he (Option.some.inj h)))
                have hss := str_other hr1 hr2 (fun e => he e)
                generalize strOf n fs[j] = sj at *
                generalize strOf n fs[k] = sk at *
                clear hr1 hr2 he hc hjx hkx
                go_wp2
                go_quiet (fail)
                go_wp2
                go_roundg q3
                case measure => have := HQ3.out; omega
                case rel => exact ⟨k + 1, vs, by have := HQ3.out; omega, by omega, by go_num, by rw [HY.out]; exact HLS.out.kept (below_drewN (Below.refl _ _) _), drawnBelow HB.out _⟩
            · have HF : Hid (nowP fs j k = uptoP fs (j + 1)) := Lib.hid (nowP_full hfull (by rw [HFL.out]; omega))
              have hki : (k : Int) < (m : Int) := by omega
              have hfi : ¬ ((nowP fs j k).length : Int) < 100 := by omega
              clear hfull
              go_wp2
              go_roundg q2
              case measure => have := HQ.out; omega
              case rel => exact ⟨j + 1, vs, by have := HQ.out; omega, by go_num, by rw [← HF.out]; exact HLS.out, HB.out⟩
          · have hkm : k = m := by have := HQ3.out; omega
            have HF : Hid (nowP fs j k = uptoP fs (j + 1)) := Lib.hid (by rw [hkm, ← HFL.out]; exact nowP_last fs j)
            have hki : ¬ (k : Int) < (m : Int) := by omega
            clear hkm
            go_wp2
            go_roundg q2
            case measure => have := HQ.out; omega
            case rel => exact ⟨j + 1, vs, by have := HQ.out; omega, by go_num, by rw [← HF.out]; exact HLS.out, HB.out⟩
      · obtain rfl : j = m := by have := HQ.out; omega
        have HJ := Lib.hid HFL.out.symm
        clear hlt
        go_wp2
        go_ret2
        exact ⟨_, vs, rfl, HLS.out, HB.out⟩
  · have hb : listB L = false := by simpa using hb
    rw [rpL_no hb, hb]
    rw [hb] at HC
    clear h hl hs hb
    go_enter Try.func18, Try.ntmps18
    go_wp2_with fail
    refine HC.out.mono ?_
    rintro e w1 ⟨rfl, hb1⟩
    go_wp2
    go_ret2
    exact ⟨_, [], rfl, Lists.nil _ _ _, hb1⟩
end Go.Proofs.Ytnoepobbecobbaa
