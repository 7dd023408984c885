/- ReadNotation in the model: the walk. -/
import Derived.Test.YtdflpkkcjbdpfaaDoorV3
namespace Go.Proofs.YtdflpkkcjbdpfaaDoor
open Go.RowKit
set_option linter.unusedSimpArgs false

theorem LS.keepB {b : Nat} {W W' : World} {v : Value} {vs : List Value} {ll : List (List (List Nat))} (h : LS (b + 1) W v vs ll) (hk : Keep (W.heap.size) b W W') : LS (b + 1) W' v vs ll := by
  have hin : ∀ e u xs, New (b + 1) W e u xs → New (b + 1) W' e u xs := fun e u xs hu => ⟨hu.own.block fun g hg => hk.block g (hu.own.lt g hg) (by have := hu.base g hg; omega), hu.base⟩
  exact ⟨hin _ _ _ h.own, h.len, h.one, fun i hi => by obtain ⟨u, h1, h2⟩ := h.inner i hi; exact ⟨u, h1, hin _ _ _ h2⟩⟩
theorem Keep.less {B C b : Nat} {W W' : World} (h : Keep B b W W') (hC : C ≤ B) : Keep C b W W' := ⟨h.os, h.tape, h.output, h.size, fun k hk hne => h.block k (by omega) hne⟩
set_option maxRecDepth 100000 in
set_option maxHeartbeats 1000000 in
theorem sRead_in (n : Nat) (h3 : 3 ≤ n) (h8 : n ≤ 8) (s : ByteArray) (w : World) (hs0 : 1 ≤ s.size) (hs : s.size ≤ 200) :
    Calls Tryd.prog 27 #[.int .i64 n, .string s] w (ReadRes (readP n s) w) := by
  have hin : (decide ((3 : Int) ≤ n) && decide ((n : Int) ≤ 8)) = true := by simp; omega
  have HIN := Lib.hid hin
  have hemp : s.toList.isEmpty = false := by
    rw [empty_lets]
    have := lets_len s
    rw [decide_eq_false_iff_not]
    intro h
    rw [h] at this
    simp at this
    omega
  have h2 : (s.size : Int) ≤ 200 := by omega
  have hd3 : decide ((200 : Int) < s.size) = false := by rw [decide_eq_false_iff_not]; omega
  have hn9 : (3 : Int) ≤ n ∧ (n : Int) ≤ 8 := by omega
  have hl9 : ¬ (s.size = 0 ∨ 200 < s.size) := by omega
  have hbad := fun q => readP_bad (q := q) hn9 hl9
  have hmany := fun bs => readP_many (bs := bs) hn9 hl9
  have hok := fun bs => readP_ok (bs := bs) hn9 hl9
  rw [show ((n : Int)).toNat = n by simp] at hbad hmany hok
  have HBAD := Lib.hid hbad
  have HMANY := Lib.hid hmany
  have HOK := Lib.hid hok
  have HBL := Lib.hid (fun bs => blocksP_len (n := n) (L := lets s) (bs := bs))
  have HLL := Lib.hid (lets_len s)
  have HFS := Lib.hid (fromB_start n (lets s))
  generalize blocksP n (lets s) = res at *
  generalize readP n s = rd at *
  obtain ⟨i1, hi0, hz0, hz1, hz2⟩ := info_parts infoTexts
  have I1 := Lib.hid (⟨hi0, hz0, hz1, hz2⟩ : _ ∧ _ ∧ _ ∧ _)
  obtain ⟨i0, hi0', hz0', hz1', hz2'⟩ := info_parts infoText
  have I0 := Lib.hid (⟨hi0', hz0', hz1', hz2'⟩ : _ ∧ _ ∧ _ ∧ _)
  have HRM : Hid (Rm (w.alloc (.cells #[.int .i64 n, .string s, .int .i64 0, .slice none 0 0, .int .i64 (-1)] 70)) w.heap.size n s 0 (.slice none 0 0) (-1)) := Lib.hid (RowAt.new _ _ _)
  have HB0 : Hid (Below w.heap.size w (w.alloc (.cells #[.int .i64 n, .string s, .int .i64 0, .slice none 0 0, .int .i64 (-1)] 70)) ∧ (w.alloc (.cells #[.int .i64 n, .string s, .int .i64 0, .slice none 0 0, .int .i64 (-1)] 70)).heap.size = w.heap.size + 1) := Lib.hid ⟨(Below.refl _ w).alloc (Nat.le_refl _) _, by simp⟩
  clear hin hbad hmany hok hn9 hl9 hi0 hz0 hz1 hz2 hi0' hz0' hz1' hz2'
  go_enter Tryd.func27, Tryd.ntmps27
  go_wp2_with fail
  refine (l1In_any _ _ _ _).mono ?_
  rintro e w1 ⟨rfl, rfl⟩
  rw [HIN.out]
  go_wp2
  generalize w.alloc (.cells #[.int .i64 n, .string s, .int .i64 0, .slice none 0 0, .int .i64 (-1)] 70) = w1 at *
  generalize hb : w.heap.size = b at *
  go_loopg [9] s.size (fun q bl wr => ∃ acc p vs vo, fromB n (lets s) q acc p = res ∧ p ≤ s.size ∧ s.size ≤ p + q ∧ acc.length ≤ p ∧ LS (b + 1) wr bl vs acc ∧ Rm wr b n s p vo (-1) ∧ Keep (b + 1) b w1 wr)
  case atStart => exact ⟨[], 0, [], _, by rw [← HLL.out]; exact HFS.out, by omega, by omega, by simp, LS.nil _ _, HRM.out, Keep.refl _ _ _⟩
  case round =>
    obtain ⟨acc, p, vs, vo, hf, hps, hq, hal, hls, hrm, hkp⟩ := hrel
    have HF := Lib.hid hf
    have HQ := Lib.hid hq
    have HAL := Lib.hid hal
    have c3 := hrm.cell 3 rfl
    have f3 := hrm.free 3
    have HRM2 : Hid (Rm (wr.setCell ⟨b, 3, none⟩ (.slice none 0 0)) b n s p (.slice none 0 0) (-1) ∧ Keep (b + 1) b w1 (wr.setCell ⟨b, 3, none⟩ (.slice none 0 0)) ∧ LS (b + 1) (wr.setCell ⟨b, 3, none⟩ (.slice none 0 0)) u9 vs acc) := Lib.hid ⟨hrm.outs _, hkp.set 3 _, hls.only (Nat.lt_succ_self b) (Only.set _ 3 _)⟩
    clear hf hq hal hls hrm hkp HRM
    go_wp2_with fail
    generalize wr.setCell ⟨b, 3, none⟩ (.slice none 0 0) = w2 at *
    clear c3 f3
    have hBw : b + 1 ≤ w2.heap.size := by have h1 := HB0.out.2; have h4 := HRM2.out.2.1.size; omega
    refine (sblock_in n h3 h8 b w2.heap.size s p _ w2 (by omega) hps hBw (Nat.le_refl _) (New.nil _ _ _) HRM2.out.1).mono ?_
    rintro e w3 ⟨rfl, hk3, v3, hres⟩
    have HK3 := Lib.hid (HRM2.out.2.1.trans (hk3.less hBw))
    have HLS3 : Hid (LS (b + 1) w3 u9 vs acc) := Lib.hid (HRM2.out.2.2.keepB hk3)
    clear hk3 HRM2
    cases hbk : blockP n (lets s) p with
    | error e =>
      rw [hbk] at hres
      obtain ⟨p3, hp3, hr3⟩ := hres
      have HRES : Hid (rd = ⟨[], 2, e, false⟩) := Lib.hid (HBAD.out e (by rw [← HF.out]; exact fromB_bad hbk))
      have c4 := hr3.cell 4 rfl
      have hge : decide ((0 : Int) ≤ (e : Int)) = true := by rw [decide_eq_true_eq]; omega
      clear hr3 hbk
      go_wp2
      go_quiet (fail)
      go_wp2
      (try simp only [Exit.inBlock, Exit.then]); refine bodyPost_ret (results_tmp4 rfl _ _ _) rfl ?_
      rw [HRES.out]
      refine ⟨_, rfl, New.nil _ _ _, ?_⟩
      rw [hb]
      exact HB0.out.1.trans ((HK3.out.drewN _).below b (by omega) (Nat.le_refl _))
    | ok x =>
      obtain ⟨cs, p'⟩ := x
      rw [hbk] at hres
      obtain ⟨hn3, hr3⟩ := hres
      have hend := blockP_end n (lets s) p cs p' hbk
      have hsl := HLL.out
      rw [hsl] at hend
      have HV3 := Lib.hid (hn3.lower hBw)
      have HRM3 := Lib.hid hr3
      have c4 := hr3.cell 4 rfl
      have c3 := hr3.cell 3 rfl
      obtain ⟨a3, cap3, hv3, _⟩ := hn3.own.view
      rw [strs_len] at hv3
      subst hv3
      have hal9 : vs.length ≤ 100000 := by rw [HLS3.out.len]; have := HAL.out; omega
      have HEND := Lib.hid hend
      have HBK := Lib.hid hbk
      clear hn3 hr3 hend hbk hsl
      go_wp2_with (at_builtin; refine wpList_app1 rfl (.tmp 41) (.tmp 46) 62 rfl 24 i1 (.slice none 0 0) 24 Tryd.underlying62 I1.out.1 I1.out.2.1 I1.out.2.2.1 I1.out.2.2.2 rfl (b + 1) _ _ vs rfl HLS3.out.own rfl rfl (by have h1 := HB0.out.2; have h4 := HK3.out.size; omega) (Below.refl _ _) hal9 (by omega) ?_)
      intro v5 w5 hn5 hk5 hb5 _
      have HLS5 := Lib.hid (HLS3.out.add HV3.out hn5 hk5)
      have HK5 := Lib.hid (HK3.out.trans (Keep.of_below hb5))
      have HRM5 : Hid (Rm w5 b n s p' _ (-1)) := Lib.hid (RowAt.keep HRM3.out hb5 (Nat.lt_succ_self b))
      clear hn5 hk5 hb5 HLS3 HV3 HK3 HRM3 c3 c4
      have c2 := HRM5.out.cell 2 rfl
      have f2 := HRM5.out.free 2
      by_cases hlast : p' = s.size
      · have heq : ((p' : Int) == (s.size : Int)) = true := by rw [beq_iff_eq]; omega
        have HRES : Hid (res = .ok (acc ++ [cs])) := Lib.hid (by
          rw [← HF.out]
          rcases Nat.eq_zero_or_pos gk with h0 | h0
          · rw [h0]; exact fromB_last0 HBK.out
          · obtain ⟨f, hf⟩ : ∃ f, gk = f + 1 := ⟨gk - 1, by omega⟩
            rw [hf]
            exact fromB_last HBK.out (by rw [HLL.out]; omega))
        obtain ⟨l1, l2, l3⟩ := HBL.out (acc ++ [cs]) HRES.out
        rw [HLL.out] at l2 l3
        have HRD : Hid ((joinOk (acc ++ [cs]) = false → rd = ⟨[], 3, 0, false⟩) ∧ (joinOk (acc ++ [cs]) = true → rd = ⟨joinP (acc ++ [cs]), 0, 0, true⟩)) := Lib.hid ⟨HMANY.out _ HRES.out, HOK.out _ HRES.out⟩
        generalize acc ++ [cs] = bs at *
        obtain ⟨m, hm⟩ : ∃ m, bs.length = m := ⟨_, rfl⟩
        have HM := Lib.hid hm
        rw [hm] at l1 l2
        have HL3 := Lib.hid l3
        have HB5 : Hid (Below b w w5 ∧ b + 1 ≤ w5.heap.size) := Lib.hid ⟨HB0.out.1.trans (HK5.out.below b (by omega) (Nat.le_refl _)), by have h1 := HB0.out.2; have h4 := HK5.out.size; omega⟩
        obtain ⟨a5, cap5, hv5, ha5⟩ := HLS5.out.own.own.view
        generalize vs ++ [Value.slice a3 cs.length cap3] = vs' at *
        have hvl : vs'.length = m := by rw [HLS5.out.len, hm]
        rw [hvl] at hv5 ha5
        obtain ⟨g5, hg5⟩ := ha5 (by omega)
        subst hg5
        subst hv5
        have hg5l : g5 < w5.heap.size := HLS5.out.own.own.lt g5 rfl
        have HACL := Lib.hid (accF_len bs m (fun b hb => by have := (l3 b hb).2.1; omega))
        have hall := accF_all bs (by omega)
        rw [hm] at hall
        have HALL := Lib.hid hall
        have hmi : (m : Int) ≤ 200 := by omega
        clear hm l3 ha5 hvl hlast hall HK5 HRM5 f2 HEND HBK HQ HAL HF
        go_wp2
        clear c2
        go_loopg [10, 64] m (fun q ov i wr => ∃ j : Nat, j ≤ m ∧ q + j = m ∧ i = .int .i64 j ∧ New w5.heap.size wr 9 ov (strs (accF bs m j)) ∧ Below w5.heap.size w5 wr)
        case atStart => exact ⟨0, by omega, rfl, rfl, New.nil _ _ _, Below.refl _ _⟩
        case round =>
          obtain ⟨j, hj, hqj, rfl, hnew, hbl⟩ := hrel
          have HO := Lib.hid hnew
          have HB := Lib.hid hbl
          obtain ⟨ao, co, hov, hao⟩ := hnew.own.view
          rw [strs_len] at hov
          subst hov
          clear hnew hbl hao
          by_cases hlt : j < m
          · have hjx : j < bs.length := by rw [HM.out]; exact hlt
            obtain ⟨u, hu1, hu2⟩ := HLS5.out.inner j hjx
            have c1 := (HB.out.cell (p := ⟨g5, j, none⟩) hg5l).trans (HLS5.out.own.own.cell j u hu1)
            have HSTEP := Lib.hid (accF_step bs m j hjx)
            have hne := (HL3.out bs[j] (List.getElem_mem hjx)).1
            have hbl2 := (HL3.out bs[j] (List.getElem_mem hjx)).2.1
            have HNL := Lib.hid (joinF_len m bs[j] (by omega))
            have HAC := Lib.hid (HACL.out j (by rw [HM.out]; exact hj))
            have hnl0 : 0 < (bs[j]).length := List.length_pos_iff.2 hne
            have hji : (j : Int) < m := by omega
            generalize accF bs m j = acc2 at *
            generalize bs[j] = bj at *
            clear hu1 hne
            by_cases h1 : 1 < m
            · have h1i : (1 : Int) < m := by omega
              have hjf : joinF m bj = pal bj := by unfold joinF; rw [if_pos h1]
              rw [hjf] at HSTEP HNL
              have hpl : 0 < (pal bj).length := by rw [pal_len]; omega
              have HUT := Lib.hid (hu2.own.kept HB.out).txts
              clear hjf h1 hu2
              go_wp2_with fail
              refine (l3Mirror_any u bj _ HUT.out (by omega)).mono ?_
              rintro e w7 ⟨v7, rfl, hn7, hb7⟩
              have HB7 := Lib.hid (HB.out.trans (hb7.mono HB.out.size))
              have HO2 := Lib.hid (HO.out.kept hb7)
              have HU := Lib.hid hn7.own
              obtain ⟨au, cu, hv7, hau⟩ := hn7.own.view
              rw [strs_len] at hv7 hau
              subst hv7
              clear hn7 hb7 HO HB
              obtain ⟨n2, hn2⟩ : ∃ n2, (pal bj).length = n2 := ⟨_, rfl⟩
              rw [hn2] at HU
              have hpos : 0 < n2 := by omega
              have HN2 := Lib.hid hn2
              obtain ⟨gu, hgu⟩ := hau (by rw [hn2]; exact hpos)
              subst hgu
              have hcells : ∀ t y, (strs (pal bj))[t]? = some y → w7.cell? ((⟨gu, 0, none⟩ : Addr).add t) = some y := fun t y hy => by
                rw [add_at, Nat.zero_add]
                exact HU.out.cell t y hy
              have HCE := Lib.hid hcells
              have hal9 : (strs acc2).length + n2 ≤ 100000 := by rw [strs_len]; have h9 := HAC.out; have h8 := HNL.out; rw [HN2.out] at h8; omega
              clear hcells hau hn2
              rw [HN2.out]
              go_wp2_with (at_builtin; refine wpList_appN rfl (.tmp 73) (.tmp 74) 24 rfl 9 i0 (.string ⟨#[]⟩) 16 Tryd.underlying24 I0.out.1 I0.out.2.1 I0.out.2.2.1 I0.out.2.2.2 rfl w5.heap.size w5 _ (strs acc2) rfl HO2.out ⟨gu, 0, none⟩ n2 _ (strs (pal bj)) rfl (by rw [strs_len, HN2.out]) HCE.out (strs_one _) HB7.out.size HB7.out hal9 (by omega) ?_)
              intro v9 w9 hn9 _ hb9 _ _
              have e9 : strs acc2 ++ strs (pal bj) = strs (accF bs m (j + 1)) := by rw [HSTEP.out]; simp [strs]
              rw [e9] at hn9
              have HN9 := Lib.hid hn9
              have HB9 := Lib.hid hb9
              clear hn9 hb9 e9
              go_wp2
              go_roundg (m - (j + 1))
              case measure => omega
              case rel => exact ⟨j + 1, by omega, by omega, by go_num, HN9.out, HB9.out⟩
            · have h1i : ¬ (1 : Int) < m := by omega
              have hjf : joinF m bj = bj := by unfold joinF; rw [if_neg h1]
              rw [hjf] at HSTEP HNL
              have HU := Lib.hid (hu2.own.kept HB.out)
              obtain ⟨au, cu, hvu, hau⟩ := hu2.own.view
              rw [strs_len] at hvu hau
              subst hvu
              have HB7 := HB
              have HO2 := HO
              clear hjf hu2 HB HO
              obtain ⟨n2, hn2⟩ : ∃ n2, bj.length = n2 := ⟨_, rfl⟩
              rw [hn2] at HU c1
              have hpos : 0 < n2 := by omega
              have HN2 := Lib.hid hn2
              obtain ⟨gu, hgu⟩ := hau (by rw [hn2]; exact hpos)
              subst hgu
              have hcells : ∀ t y, (strs bj)[t]? = some y → wr.cell? ((⟨gu, 0, none⟩ : Addr).add t) = some y := fun t y hy => by
                rw [add_at, Nat.zero_add]
                exact HU.out.cell t y hy
              have HCE := Lib.hid hcells
              have hal9 : (strs acc2).length + n2 ≤ 100000 := by rw [strs_len]; have h9 := HAC.out; have h8 := HNL.out; rw [HN2.out] at h8; omega
              clear hcells hau hn2
              go_wp2_with (at_builtin; refine wpList_appN rfl (.tmp 73) (.tmp 74) 24 rfl 9 i0 (.string ⟨#[]⟩) 16 Tryd.underlying24 I0.out.1 I0.out.2.1 I0.out.2.2.1 I0.out.2.2.2 rfl w5.heap.size w5 _ (strs acc2) rfl HO2.out ⟨gu, 0, none⟩ n2 _ (strs bj) rfl (by rw [strs_len, HN2.out]) HCE.out (strs_one _) HB7.out.size HB7.out hal9 (by omega) ?_)
              intro v9 w9 hn9 _ hb9 _ _
              have e9 : strs acc2 ++ strs bj = strs (accF bs m (j + 1)) := by rw [HSTEP.out]; simp [strs]
              rw [e9] at hn9
              have HN9 := Lib.hid hn9
              have HB9 := Lib.hid hb9
              clear hn9 hb9 e9
              go_wp2
              go_roundg (m - (j + 1))
              case measure => omega
              case rel => exact ⟨j + 1, by omega, by omega, by go_num, HN9.out, HB9.out⟩
          · obtain rfl : j = m := by omega
            obtain ⟨nj, hnj⟩ : ∃ nj, (joinP bs).length = nj := ⟨_, rfl⟩
            have hjo : joinOk bs = (decide (j ≤ 4) && decide (nj ≤ 40)) := by unfold joinOk; rw [HM.out, hnj]
            have e9 : (accF bs j j).length = nj := by rw [HALL.out]; exact hnj
            rw [e9] at HO ⊢
            clear e9
            have HBF := Lib.hid (HB5.out.1.trans (HB.out.mono (by have := HB5.out.2; omega)))
            have HON : Hid (New b wr 9 _ (strs (joinP bs))) := Lib.hid (by rw [← HALL.out]; exact HO.out.lower (B' := b) (by have := HB5.out.2; omega))
            have hrd0 : joinOk bs = false → rd = ⟨[], 3, 0, false⟩ := fun h => HRD.out.1 h
            have hrd1 : joinOk bs = true → rd = ⟨joinP bs, 0, 0, true⟩ := fun h => HRD.out.2 h
            by_cases h4 : 4 < j
            · have hd4 : decide ((4 : Int) < (j : Int)) = true := by rw [decide_eq_true_eq]; omega
              have HR := Lib.hid (hrd0 (by rw [hjo, decide_eq_false (by omega), Bool.false_and]))
              clear hrd0 hrd1 h4 hjo HRD
              go_wp2
              (try simp only [Exit.inBlock, Exit.then]); refine bodyPost_ret (results_tmp4 rfl _ _ _) rfl ?_
              rw [HR.out]
              refine ⟨_, rfl, New.nil _ _ _, ?_⟩
              rw [hb]
              exact HBF.out
            · have hd4 : decide ((4 : Int) < (j : Int)) = false := by rw [decide_eq_false_iff_not]; omega
              by_cases h40 : 40 < nj
              · have hd5 : decide ((40 : Int) < (nj : Int)) = true := by rw [decide_eq_true_eq]; omega
                have HR := Lib.hid (hrd0 (by rw [hjo, decide_eq_false (show ¬ nj ≤ 40 by omega), Bool.and_false]))
                clear hrd0 hrd1 h4 h40 hjo HRD
                go_wp2
                (try simp only [Exit.inBlock, Exit.then]); refine bodyPost_ret (results_tmp4 rfl _ _ _) rfl ?_
                rw [HR.out]
                refine ⟨_, rfl, New.nil _ _ _, ?_⟩
                rw [hb]
                exact HBF.out
              · have hd5 : decide ((40 : Int) < (nj : Int)) = false := by rw [decide_eq_false_iff_not]; omega
                have HR := Lib.hid (hrd1 (by rw [hjo, decide_eq_true (show j ≤ 4 by omega), decide_eq_true (show nj ≤ 40 by omega)]; rfl))
                clear hrd0 hrd1 h4 h40 hjo HRD
                go_wp2
                (try simp only [Exit.inBlock, Exit.then]); refine bodyPost_ret (results_tmp4 rfl _ _ _) rfl ?_
                rw [HR.out]
                refine ⟨_, rfl, ?_, ?_⟩
                · rw [hb]; exact HON.out
                · rw [hb]; exact HBF.out
      · have heq : ((p' : Int) == (s.size : Int)) = false := by rw [beq_eq_false_iff_ne]; omega
        have hend := HEND.out
        have hlt : p' < s.size := by omega
        have hcm : (lets s).getD p' 0 = 44 := by
          rcases hend.2.2.1 with h9 | h9
          · omega
          · exact h9
        obtain ⟨f, hf⟩ : ∃ f, gk = f + 1 := ⟨gk - 1, by have := HQ.out; omega⟩
        have HFN : Hid (fromB n (lets s) f (acc ++ [cs]) (p' + 1) = res) := Lib.hid (by
          rw [← HF.out, hf]
          exact (fromB_go HBK.out (by rw [HLL.out]; omega) hcm).symm)
        have HPN : Hid (p < p' ∧ p' + 1 ≤ s.size ∧ f < gk ∧ gk = f + 1) := Lib.hid (by omega)
        have HN6 : Hid (Rm (w5.setCell ⟨b, 2, none⟩ (.int .i64 ((p' : Int) + 1))) b n s (p' + 1) _ (-1) ∧ Keep (b + 1) b w1 (w5.setCell ⟨b, 2, none⟩ (.int .i64 ((p' : Int) + 1))) ∧ LS (b + 1) (w5.setCell ⟨b, 2, none⟩ (.int .i64 ((p' : Int) + 1))) v5 (vs ++ [Value.slice a3 cs.length cap3]) (acc ++ [cs])) := Lib.hid ⟨HRM5.out.next, HK5.out.set 2 _, HLS5.out.only (Nat.lt_succ_self b) (Only.set _ 2 _)⟩
        have hpi : (p' : Int) ≤ 200 := by omega
        clear hend hlast hcm hf hlt HF HEND HBK HRM5 HK5 HLS5
        go_wp2
        go_roundg f
        case measure => have := HPN.out; omega
        case rel => exact ⟨acc ++ [cs], p' + 1, _, _, HFN.out, HPN.out.2.1, by have h1 := HPN.out; have h2 := HQ.out; omega, by have h1 := HPN.out; have h2 := HAL.out; simp; omega, HN6.out.2.2, HN6.out.1, HN6.out.2.1⟩
end Go.Proofs.YtdflpkkcjbdpfaaDoor
