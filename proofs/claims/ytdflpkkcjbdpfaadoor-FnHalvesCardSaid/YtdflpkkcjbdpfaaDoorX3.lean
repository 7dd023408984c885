/- The law FnHalves. -/
import Derived.Test.YtdflpkkcjbdpfaaDoorX2
namespace Go.Proofs.YtdflpkkcjbdpfaaDoor
open Go.RowKit
set_option linter.unusedSimpArgs false
set_option linter.unusedVariables false

set_option maxRecDepth 100000 in
set_option maxHeartbeats 8000000 in
theorem lawHalves (a1 : Option Addr) (l1 c1 : Nat) (z1 : List Int) (a2 : Option Addr) (l2 c2 : Nat) (z2 : List Int) (w : World) (hz1 : IsBytes w a1 l1 c1 z1) (hz2 : IsBytes w a2 l2 c2 z2) (hB : 0 < w.heap.size) (htab : Tab w) :
    Calls Tryd.prog 3 #[.slice a1 l1 c1, .slice a2 l2 c2] w fun e w' => e = .returned (.bool true) ∧ Below w.heap.size w w' := by
  have HTAB := Lib.hid htab
  have HGT := Lib.hid hB
  have HZ1 := Lib.hid hz1
  have HZ2 := Lib.hid hz2
  clear hz1 hz2 htab hB
  obtain ⟨i0, hi0, hz0, hz1, hz2⟩ := info_parts infoText
  have I0 := Lib.hid (⟨hi0, hz0, hz1, hz2⟩ : _ ∧ _ ∧ _ ∧ _)
  clear hi0 hz0 hz1 hz2
  go_enter Tryd.func3, Tryd.ntmps3
  go_wp2_with fail
  refine (big_any a1 a2 l1 l2 c1 c2 HZ1.out.lenW HZ2.out.lenW _).mono ?_
  rintro e w0 ⟨rfl, rfl⟩
  by_cases hbig : 1048576 < l1 + l2
  · rw [decide_eq_true hbig]
    go_wp2
    go_ret
    exact ⟨rfl, Below.refl _ _⟩
  · rw [decide_eq_false hbig]
    have HL1 := Lib.hid (show l1 ≤ 1048576 by omega)
    have HL2 := Lib.hid (show l2 ≤ 1048576 by omega)
    clear hbig
    go_wp2_with fail
    refine (DrawHalvesOf_any a1 l1 c1 z1 _ HZ1.out HL1.out).mono ?_
    rintro e w1 ⟨n, v, L, rfl, h3, h9, hn, hL, hs, hb1⟩
    have HB1 := Lib.hid hb1
    have HZ21 := Lib.hid (HZ2.out.belowW hb1)
    have OL1 := Lib.hid hn.own
    have HS := Lib.hid (show ∀ l ∈ L, l.length ≤ maxLen from fun l hl => Nat.le_trans (hs l hl) (by unfold maxLen; omega))
    clear hn hs hb1 HZ1 HZ2
    have HHI := Lib.hid (iHalvesOf_any n v L w1 OL1.out.txts (by omega))
    have HHS := Lib.hid (fun w h => sHalvesOf_any n v L w h (by omega) HS.out)
    cases hR : halvesR n L
    · rw [hR] at HHI HHS
      clear hR
      go_wp2_with fail
      refine HHI.out.mono ?_
      rintro e w2 ⟨va, vb, rfl, hna, hnb, -, hb2⟩
      have HB2 := Lib.hid (HB1.out.trans (hb2.mono HB1.out.size))
      have HZ22 := Lib.hid (HZ21.out.belowW hb2)
      have OL2 := Lib.hid (OL1.out.kept hb2)
      have OA2 : Hid (Own w2 9 va (strs [])) := Lib.hid hna.own
      have OB2 : Hid (Own w2 9 vb (strs [])) := Lib.hid hnb.own
      clear hna hnb hb2 HB1 HZ21 OL1 HHI
      go_wp2_with fail
      refine (HHS.out w2 OL2.out.txts).mono ?_
      rintro e w3 ⟨vx, vy, rfl, hnx, hny, -, hb3⟩
      have HB3 := Lib.hid (HB2.out.trans (hb3.mono HB2.out.size))
      have HZ23 := Lib.hid (HZ22.out.belowW hb3)
      have OL3 := Lib.hid (OL2.out.kept hb3)
      have OA3 := Lib.hid (OA2.out.kept hb3)
      have OB3 := Lib.hid (OB2.out.kept hb3)
      have OX3 : Hid (Own w3 9 vx (strs [])) := Lib.hid hnx.own
      have OY3 : Hid (Own w3 9 vy (strs [])) := Lib.hid hny.own
      clear hnx hny hb3 HB2 HZ22 OL2 OA2 OB2 HHS
      go_wp2_with fail
      refine (sameTexts_any va vx [] w3 OA3.out OX3.out (by first | omega | simp)).mono ?_
      rintro e w4 ⟨rfl, hb4⟩
      have HB4 := Lib.hid (HB3.out.trans (hb4.mono HB3.out.size))
      have HZ24 := Lib.hid (HZ23.out.belowW hb4)
      have OL4 := Lib.hid (OL3.out.kept hb4)
      have OA4 := Lib.hid (OA3.out.kept hb4)
      have OB4 := Lib.hid (OB3.out.kept hb4)
      have OY4 := Lib.hid (OY3.out.kept hb4)
      clear hb4 HB3 HZ23 OL3 OA3 OB3 OX3 OY3
      go_wp2_with fail
      refine (sameTexts_any vb vy [] w4 OB4.out OY4.out (by first | omega | simp)).mono ?_
      rintro e w5 ⟨rfl, hb5⟩
      have HB5 := Lib.hid (HB4.out.trans (hb5.mono HB4.out.size))
      have HZ25 := Lib.hid (HZ24.out.belowW hb5)
      have OL5 := Lib.hid (OL4.out.kept hb5)
      have OA5 := Lib.hid (OA4.out.kept hb5)
      have OB5 := Lib.hid (OB4.out.kept hb5)
      clear hb5 HB4 HZ24 OL4 OA4 OB4 OY4
      have HB := HB5
      have HZ := HZ25
      clear HB5 HZ25 OL5 OA5 OB5
      go_wp2_with fail
      refine (DrawMirrorAll_any a2 l2 c2 z2 _ HZ.out HL2.out).mono ?_
      rintro e s1 ⟨vm, M, rfl, hnm, hM, hsm, hbs1⟩
      have HB1 := Lib.hid (HB.out.trans (hbs1.mono HB.out.size))
      have HZ1 := Lib.hid (HZ.out.belowW hbs1)
      have OM1 := Lib.hid hnm.own
      clear hnm hsm hbs1 HB HZ
      go_wp2_with fail
      refine (iMirrorAll_any vm M s1 OM1.out.txts (by omega)).mono ?_
      rintro e s2 ⟨vr, rfl, hnr, hbs2⟩
      have HB2 := Lib.hid (HB1.out.trans (hbs2.mono HB1.out.size))
      have HZ2 := Lib.hid (HZ1.out.belowW hbs2)
      have OM2 := Lib.hid (OM1.out.kept hbs2)
      have OR2 := Lib.hid hnr.own
      clear hnr hbs2 HB1 HZ1 OM1
      go_wp2_with fail
      refine (sMirrorAll_any vm M s2 OM2.out.txts (by omega)).mono ?_
      rintro e s3 ⟨vx, rfl, hnx, hbs3⟩
      have HB3 := Lib.hid (HB2.out.trans (hbs3.mono HB2.out.size))
      have HZ3 := Lib.hid (HZ2.out.belowW hbs3)
      have OR3 := Lib.hid (OR2.out.kept hbs3)
      have OX3 := Lib.hid hnx.own
      clear hnx hbs3 HB2 HZ2 OM2 OR2
      have hPl := palOut_len M
      have HPM := Lib.hid (fun i (hi : i < (palOut M).length) => palOut_mirror M i hi)
      generalize palOut M = P at *
      generalize palOk M = pb at *
      go_wp2_with fail
      refine (sameTexts_any vr vx P s3 OR3.out OX3.out (by omega)).mono ?_
      rintro e s4 ⟨rfl, hbs4⟩
      have HB4 := Lib.hid (HB3.out.trans (hbs4.mono HB3.out.size))
      have HZ4 := Lib.hid (HZ3.out.belowW hbs4)
      have OR4 := Lib.hid (OR3.out.kept hbs4)
      clear hbs4 HB3 HZ3 OR3 OX3
      obtain ⟨p, hp⟩ : ∃ p, P.length = p := ⟨_, rfl⟩
      obtain ⟨ar, cr, hvr, har⟩ := OR4.out.view
      rw [strs_len, hp] at hvr har
      subst hvr
      have HAR := Lib.hid har
      have HP := Lib.hid hp
      have hp40 : (p : Int) ≤ 40 := by omega
      clear har hPl hp
      go_wp2
      go_loopg [122] p (fun q i wr => ∃ k d : Nat, k ≤ p ∧ q + k = p ∧ i = .int .i64 k ∧ wr = s4.drewN d)
      case atStart => exact ⟨0, 0, by omega, by omega, rfl, rfl⟩
      case round =>
        obtain ⟨k, d, hk, hq, rfl, rfl⟩ := hrel
        by_cases hlt : k < p
        · obtain ⟨g, rfl⟩ := HAR.out (by omega)
          obtain ⟨jj, hjj⟩ : ∃ jj, p - 1 - k = jj := ⟨_, rfl⟩
          have hm := HPM.out k (by rw [HP.out]; exact hlt)
          rw [HP.out, hjj] at hm
          have hkx : k < P.length := by rw [HP.out]; exact hlt
          rw [List.getElem?_eq_getElem hkx] at hm
          have c1 := OR4.out.cell k (.string (txt P[k])) (by simp [strs, hkx])
          have c2 := OR4.out.cell jj (.string (txt P[k])) (by simp [strs, hm])
          generalize P[k] = x at *
          have hk2 : (p : Int) - 1 - k = jj := by omega
          have hkm : (jj : Int) < p := by omega
          have hjm : (k : Int) < p := by omega
          have hself : ((txt x).toList == (txt x).toList) = true := by simp
          clear hm hjj hkx
          go_wp2
          go_quiet (fail)
          go_wp2
          go_roundg (p - (k + 1))
          case measure => omega
          case rel => exact ⟨k + 1, _, by omega, by omega, by go_num, rfl⟩
        · obtain rfl : k = p := by omega
          have HB5 : Hid (Below w.heap.size w (s4.drewN d)) := Lib.hid (below_drewN HB4.out _)
          have HZ5 : Hid (IsBytes (s4.drewN d) a2 l2 c2 z2) := Lib.hid (HZ4.out.belowW (below_drewN (Below.refl _ _) _))
          generalize s4.drewN d = s5 at *
          clear HB4 HZ4 OR4 HAR HPM HP
          go_wp2_with fail
          refine (DrawTidyChange_any a2 l2 c2 z2 _ HZ5.out HL2.out).mono ?_
          rintro e u1 ⟨ti, ts, rfl, hti0, hti1, hts, hbu1⟩
          have HB6 := Lib.hid (HB5.out.trans (hbu1.mono HB5.out.size))
          have HZ6 := Lib.hid (HZ5.out.belowW hbu1)
          have HT6 := Lib.hid (HTAB.out.kept HB6.out HGT.out)
          clear hbu1 HB5 HZ5
          go_wp2_with fail
          refine (iTidyChange_any ti (by omega) (by omega) ts (by omega) u1 HT6.out).mono ?_
          rintro e u2 ⟨rfl, hbu2⟩
          have HB7 := Lib.hid (HB6.out.trans (hbu2.mono HB6.out.size))
          have HZ7 := Lib.hid (HZ6.out.belowW hbu2)
          clear hbu2 HB6 HZ6 HT6
          have HTG := Lib.hid (tidyC_good ti ts)
          have HTS := Lib.hid (fun w => sTidyChange_any ti ts (by omega) w)
          go_wp2_with fail
          refine (HTS.out _).mono ?_
          rintro e u3 ⟨rfl, hbu3⟩
          have HB8 := Lib.hid (HB7.out.trans (hbu3.mono HB7.out.size))
          have HZ8 := Lib.hid (HZ7.out.belowW hbu3)
          clear hbu3 HB7 HZ7 HTS
          generalize tidyC ti ts = tr at *
          have hself : ((txt tr).toList == (txt tr).toList) = true := by simp
          by_cases htr : tr = []
          · rw [decide_eq_false (show ¬ (tr ≠ []) from fun h => h htr)]
            go_wp2_with fail
            refine (DrawCountChanges_any a2 l2 c2 z2 _ HZ8.out HL2.out).mono ?_
            rintro e t1 ⟨j, tt, rfl, -, -, htt, hbt1⟩
            have HBT1 := Lib.hid (HB8.out.trans (hbt1.mono HB8.out.size))
            have HTT := Lib.hid (show tt.size ≤ maxLen from Nat.le_trans htt (by unfold maxLen; omega))
            have HCI := Lib.hid (fun w => iCountChanges_any j tt w HTT.out)
            have HCS := Lib.hid (fun w => sCountChanges_any j tt w HTT.out)
            clear hbt1 htt HTT HB8 HZ8
            generalize (readP j tt).list.length = kn at *
            cases hok : (readP j tt).ok
            all_goals
              rw [hok] at HCI HCS
              clear hok
              go_wp2_with fail
              refine (HCI.out _).mono ?_
              rintro e t2 ⟨rfl, hbt2⟩
              have HBT2 := Lib.hid (HBT1.out.trans (hbt2.mono HBT1.out.size))
              clear hbt2 HBT1
              go_wp2_with fail
              refine (HCS.out _).mono ?_
              rintro e t3 ⟨rfl, hbt3⟩
              have HBT3 := Lib.hid (HBT2.out.trans (hbt3.mono HBT2.out.size))
              clear hbt3 HBT2
              go_wp2
              go_ret
              exact ⟨rfl, HBT3.out⟩
          · rw [decide_eq_true htr]
            have HGC := Lib.hid (HTG.out htr)
            go_wp2_with fail
            refine (iGoodChange_any ti (txt tr) _).mono ?_
            rintro e u4 ⟨rfl, hbu4⟩
            rw [HGC.out]
            have HB9 := Lib.hid (HB8.out.trans (hbu4.mono HB8.out.size))
            have HZ9 := Lib.hid (HZ8.out.belowW hbu4)
            clear hbu4 HB8 HZ8
            have HB8 := HB9
            have HZ8 := HZ9
            clear HB9 HZ9
            go_wp2_with fail
            refine (DrawCountChanges_any a2 l2 c2 z2 _ HZ8.out HL2.out).mono ?_
            rintro e t1 ⟨j, tt, rfl, -, -, htt, hbt1⟩
            have HBT1 := Lib.hid (HB8.out.trans (hbt1.mono HB8.out.size))
            have HTT := Lib.hid (show tt.size ≤ maxLen from Nat.le_trans htt (by unfold maxLen; omega))
            have HCI := Lib.hid (fun w => iCountChanges_any j tt w HTT.out)
            have HCS := Lib.hid (fun w => sCountChanges_any j tt w HTT.out)
            clear hbt1 htt HTT HB8 HZ8
            generalize (readP j tt).list.length = kn at *
            cases hok : (readP j tt).ok
            all_goals
              rw [hok] at HCI HCS
              clear hok
              go_wp2_with fail
              refine (HCI.out _).mono ?_
              rintro e t2 ⟨rfl, hbt2⟩
              have HBT2 := Lib.hid (HBT1.out.trans (hbt2.mono HBT1.out.size))
              clear hbt2 HBT1
              go_wp2_with fail
              refine (HCS.out _).mono ?_
              rintro e t3 ⟨rfl, hbt3⟩
              have HBT3 := Lib.hid (HBT2.out.trans (hbt3.mono HBT2.out.size))
              clear hbt3 HBT2
              go_wp2
              go_ret
              exact ⟨rfl, HBT3.out⟩
    · rename_i PQ
      obtain ⟨P0, Q0⟩ := PQ
      obtain ⟨hmk, hok1, hok2, ⟨hl1, hl2⟩, hg1, hg2⟩ := halvesR_make hR
      rw [hR] at HHI HHS
      clear hR
      go_wp2_with fail
      refine HHI.out.mono ?_
      rintro e w2 ⟨va, vb, rfl, hna, hnb, -, hb2⟩
      have HB2 := Lib.hid (HB1.out.trans (hb2.mono HB1.out.size))
      have HZ22 := Lib.hid (HZ21.out.belowW hb2)
      have OL2 := Lib.hid (OL1.out.kept hb2)
      have OA2 : Hid (Own w2 9 va (strs P0)) := Lib.hid hna.own
      have OB2 : Hid (Own w2 9 vb (strs Q0)) := Lib.hid hnb.own
      clear hna hnb hb2 HB1 HZ21 OL1 HHI
      go_wp2_with fail
      refine (HHS.out w2 OL2.out.txts).mono ?_
      rintro e w3 ⟨vx, vy, rfl, hnx, hny, -, hb3⟩
      have HB3 := Lib.hid (HB2.out.trans (hb3.mono HB2.out.size))
      have HZ23 := Lib.hid (HZ22.out.belowW hb3)
      have OL3 := Lib.hid (OL2.out.kept hb3)
      have OA3 := Lib.hid (OA2.out.kept hb3)
      have OB3 := Lib.hid (OB2.out.kept hb3)
      have OX3 : Hid (Own w3 9 vx (strs P0)) := Lib.hid hnx.own
      have OY3 : Hid (Own w3 9 vy (strs Q0)) := Lib.hid hny.own
      clear hnx hny hb3 HB2 HZ22 OL2 OA2 OB2 HHS
      go_wp2_with fail
      refine (sameTexts_any va vx P0 w3 OA3.out OX3.out (by first | omega | simp)).mono ?_
      rintro e w4 ⟨rfl, hb4⟩
      have HB4 := Lib.hid (HB3.out.trans (hb4.mono HB3.out.size))
      have HZ24 := Lib.hid (HZ23.out.belowW hb4)
      have OL4 := Lib.hid (OL3.out.kept hb4)
      have OA4 := Lib.hid (OA3.out.kept hb4)
      have OB4 := Lib.hid (OB3.out.kept hb4)
      have OY4 := Lib.hid (OY3.out.kept hb4)
      clear hb4 HB3 HZ23 OL3 OA3 OB3 OX3 OY3
      go_wp2_with fail
      refine (sameTexts_any vb vy Q0 w4 OB4.out OY4.out (by first | omega | simp)).mono ?_
      rintro e w5 ⟨rfl, hb5⟩
      have HB5 := Lib.hid (HB4.out.trans (hb5.mono HB4.out.size))
      have HZ25 := Lib.hid (HZ24.out.belowW hb5)
      have OL5 := Lib.hid (OL4.out.kept hb5)
      have OA5 := Lib.hid (OA4.out.kept hb5)
      have OB5 := Lib.hid (OB4.out.kept hb5)
      clear hb5 HB4 HZ24 OL4 OA4 OB4 OY4
      go_wp2_with fail
      have HM1 := iMirrorAll_any va P0 w5 OA5.out.txts (by omega)
      rw [palOut_yes hok1, hok1] at HM1
      refine HM1.mono ?_
      rintro e w6 ⟨vp, rfl, hnp, hb6⟩
      clear HM1
      have HB6 := Lib.hid (HB5.out.trans (hb6.mono HB5.out.size))
      have HZ26 := Lib.hid (HZ25.out.belowW hb6)
      have OL6 := Lib.hid (OL5.out.kept hb6)
      have OB6 := Lib.hid (OB5.out.kept hb6)
      have OP6 := Lib.hid hnp.own
      clear hnp hb6 HB5 HZ25 OL5 OA5 OB5
      go_wp2_with fail
      have HM2 := iMirrorAll_any vb Q0 w6 OB6.out.txts (by omega)
      rw [palOut_yes hok2, hok2] at HM2
      refine HM2.mono ?_
      rintro e w7 ⟨vq, rfl, hnq, hb7⟩
      clear HM2
      have HB7 := Lib.hid (HB6.out.trans (hb7.mono HB6.out.size))
      have HZ27 := Lib.hid (HZ26.out.belowW hb7)
      have OL7 := Lib.hid (OL6.out.kept hb7)
      have OP7 := Lib.hid (OP6.out.kept hb7)
      have OQ7 := Lib.hid hnq.own
      clear hnq hb7 HB6 HZ26 OL6 OB6 OP6
      obtain ⟨kp, hkp⟩ : ∃ kp, (pal P0).length = kp := ⟨_, rfl⟩
      obtain ⟨kq, hkq⟩ : ∃ kq, (pal Q0).length = kq := ⟨_, rfl⟩
      have hkp2 : 1 ≤ kp ∧ kp ≤ 39 := by rw [← hkp, pal_len]; omega
      have hkq2 : 1 ≤ kq ∧ kq ≤ 39 := by rw [← hkq, pal_len]; omega
      obtain ⟨ap, cp, hvp, hap⟩ := OP7.out.view
      rw [strs_len, hkp] at hvp hap
      obtain ⟨gp, hgp⟩ := hap (by omega)
      subst hgp
      subst hvp
      obtain ⟨aq, cq, hvq, haq⟩ := OQ7.out.view
      rw [strs_len, hkq] at hvq haq
      obtain ⟨gq, hgq⟩ := haq (by omega)
      subst hgq
      subst hvq
      have hal := (Below.refl w7.heap.size w7).alloc (Nat.le_refl _) (.cells #[] 9)
      have HAL := Lib.hid hal
      have OE8 := Lib.hid (Own.lit w7 9 [] (by simp))
      have OP8 := Lib.hid (OP7.out.kept hal)
      have HLP := Lib.hid (show (strs (pal P0)).length = kp by rw [strs_len, hkp])
      have HLQ := Lib.hid (show (strs (pal Q0)).length = kq by rw [strs_len, hkq])
      have HMK := Lib.hid hmk
      clear hal OP7 hmk hap haq hkp hkq
      go_wp2_with (at_builtin; refine wpList_appG (by first | rfl | simp [Region.wanted, yielded]) (.tmp 90) (.tmp 91) 24 rfl 9 i0 (.string ⟨#[]⟩) 16 Tryd.underlying24 I0.out.1 I0.out.2.1 I0.out.2.2.1 I0.out.2.2.2 rfl _ [] rfl OE8.out gp kp cp (strs (pal P0)) rfl OP8.out HLP.out (strs_one _) (by simp; omega) (by omega) ?_)
      intro v8 w8 hn8 _ hg8 hf8
      have hB8 := HAL.out.grown hg8 HAL.out.size (fun g hg => by simp [Value.ownBlock] at hg; omega)
      have HN8 : Hid (New w7.heap.size w8 9 v8 (strs (pal P0))) := Lib.hid ⟨hn8, fun g hg => by
        rcases hf8 g hg with h | h
        · simp [Value.ownBlock] at h; omega
        · omega⟩
      have HBE := Lib.hid hB8
      have OQ8 := Lib.hid (OQ7.out.kept hB8)
      clear hn8 hg8 hf8 hB8 HAL OE8 OP8 OQ7
      go_wp2_with (at_builtin; refine wpList_appG (by first | rfl | simp [Region.wanted, yielded]) (.tmp 92) (.tmp 93) 24 rfl 9 i0 (.string ⟨#[]⟩) 16 Tryd.underlying24 I0.out.1 I0.out.2.1 I0.out.2.2.1 I0.out.2.2.2 rfl _ (strs (pal P0)) rfl HN8.out.own gq kq cq (strs (pal Q0)) rfl OQ8.out HLQ.out (strs_one _) (by rw [HLP.out]; omega) (by omega) ?_)
      intro v9 w9 hn9 _ hg9 _
      rw [← strs_append, HMK.out] at hn9
      have hB9 := HBE.out.trans ((Below.refl w7.heap.size w8).grown hg9 HBE.out.size HN8.out.base)
      have ON9 := Lib.hid hn9
      have OL9 := Lib.hid (OL7.out.kept hB9)
      have HB9 := Lib.hid (HB7.out.trans (hB9.mono HB7.out.size))
      have HZ29 := Lib.hid (HZ27.out.belowW hB9)
      clear hn9 hg9 hB9 HBE HN8 OQ8 OL7 HB7 HZ27 HLP HLQ HMK
      go_wp2_with fail
      refine (sameTexts_any v9 v L w9 ON9.out OL9.out (by omega)).mono ?_
      rintro e w10 ⟨rfl, hb10⟩
      have HB := Lib.hid (HB9.out.trans (hb10.mono HB9.out.size))
      have HZ := Lib.hid (HZ29.out.belowW hb10)
      clear hb10 HB9 HZ29 ON9 OL9
      go_wp2_with fail
      refine (DrawMirrorAll_any a2 l2 c2 z2 _ HZ.out HL2.out).mono ?_
      rintro e s1 ⟨vm, M, rfl, hnm, hM, hsm, hbs1⟩
      have HB1 := Lib.hid (HB.out.trans (hbs1.mono HB.out.size))
      have HZ1 := Lib.hid (HZ.out.belowW hbs1)
      have OM1 := Lib.hid hnm.own
      clear hnm hsm hbs1 HB HZ
      go_wp2_with fail
      refine (iMirrorAll_any vm M s1 OM1.out.txts (by omega)).mono ?_
      rintro e s2 ⟨vr, rfl, hnr, hbs2⟩
      have HB2 := Lib.hid (HB1.out.trans (hbs2.mono HB1.out.size))
      have HZ2 := Lib.hid (HZ1.out.belowW hbs2)
      have OM2 := Lib.hid (OM1.out.kept hbs2)
      have OR2 := Lib.hid hnr.own
      clear hnr hbs2 HB1 HZ1 OM1
      go_wp2_with fail
      refine (sMirrorAll_any vm M s2 OM2.out.txts (by omega)).mono ?_
      rintro e s3 ⟨vx, rfl, hnx, hbs3⟩
      have HB3 := Lib.hid (HB2.out.trans (hbs3.mono HB2.out.size))
      have HZ3 := Lib.hid (HZ2.out.belowW hbs3)
      have OR3 := Lib.hid (OR2.out.kept hbs3)
      have OX3 := Lib.hid hnx.own
      clear hnx hbs3 HB2 HZ2 OM2 OR2
      have hPl := palOut_len M
      have HPM := Lib.hid (fun i (hi : i < (palOut M).length) => palOut_mirror M i hi)
      generalize palOut M = P at *
      generalize palOk M = pb at *
      go_wp2_with fail
      refine (sameTexts_any vr vx P s3 OR3.out OX3.out (by omega)).mono ?_
      rintro e s4 ⟨rfl, hbs4⟩
      have HB4 := Lib.hid (HB3.out.trans (hbs4.mono HB3.out.size))
      have HZ4 := Lib.hid (HZ3.out.belowW hbs4)
      have OR4 := Lib.hid (OR3.out.kept hbs4)
      clear hbs4 HB3 HZ3 OR3 OX3
      obtain ⟨p, hp⟩ : ∃ p, P.length = p := ⟨_, rfl⟩
      obtain ⟨ar, cr, hvr, har⟩ := OR4.out.view
      rw [strs_len, hp] at hvr har
      subst hvr
      have HAR := Lib.hid har
      have HP := Lib.hid hp
      have hp40 : (p : Int) ≤ 40 := by omega
      clear har hPl hp
      go_wp2
      go_loopg [122] p (fun q i wr => ∃ k d : Nat, k ≤ p ∧ q + k = p ∧ i = .int .i64 k ∧ wr = s4.drewN d)
      case atStart => exact ⟨0, 0, by omega, by omega, rfl, rfl⟩
      case round =>
        obtain ⟨k, d, hk, hq, rfl, rfl⟩ := hrel
        by_cases hlt : k < p
        · obtain ⟨g, rfl⟩ := HAR.out (by omega)
          obtain ⟨jj, hjj⟩ : ∃ jj, p - 1 - k = jj := ⟨_, rfl⟩
          have hm := HPM.out k (by rw [HP.out]; exact hlt)
          rw [HP.out, hjj] at hm
          have hkx : k < P.length := by rw [HP.out]; exact hlt
          rw [List.getElem?_eq_getElem hkx] at hm
          have c1 := OR4.out.cell k (.string (txt P[k])) (by simp [strs, hkx])
          have c2 := OR4.out.cell jj (.string (txt P[k])) (by simp [strs, hm])
          generalize P[k] = x at *
          have hk2 : (p : Int) - 1 - k = jj := by omega
          have hkm : (jj : Int) < p := by omega
          have hjm : (k : Int) < p := by omega
          have hself : ((txt x).toList == (txt x).toList) = true := by simp
          clear hm hjj hkx
          go_wp2
          go_quiet (fail)
          go_wp2
          go_roundg (p - (k + 1))
          case measure => omega
          case rel => exact ⟨k + 1, _, by omega, by omega, by go_num, rfl⟩
        · obtain rfl : k = p := by omega
          have HB5 : Hid (Below w.heap.size w (s4.drewN d)) := Lib.hid (below_drewN HB4.out _)
          have HZ5 : Hid (IsBytes (s4.drewN d) a2 l2 c2 z2) := Lib.hid (HZ4.out.belowW (below_drewN (Below.refl _ _) _))
          generalize s4.drewN d = s5 at *
          clear HB4 HZ4 OR4 HAR HPM HP
          go_wp2_with fail
          refine (DrawTidyChange_any a2 l2 c2 z2 _ HZ5.out HL2.out).mono ?_
          rintro e u1 ⟨ti, ts, rfl, hti0, hti1, hts, hbu1⟩
          have HB6 := Lib.hid (HB5.out.trans (hbu1.mono HB5.out.size))
          have HZ6 := Lib.hid (HZ5.out.belowW hbu1)
          have HT6 := Lib.hid (HTAB.out.kept HB6.out HGT.out)
          clear hbu1 HB5 HZ5
          go_wp2_with fail
          refine (iTidyChange_any ti (by omega) (by omega) ts (by omega) u1 HT6.out).mono ?_
          rintro e u2 ⟨rfl, hbu2⟩
          have HB7 := Lib.hid (HB6.out.trans (hbu2.mono HB6.out.size))
          have HZ7 := Lib.hid (HZ6.out.belowW hbu2)
          clear hbu2 HB6 HZ6 HT6
          have HTG := Lib.hid (tidyC_good ti ts)
          have HTS := Lib.hid (fun w => sTidyChange_any ti ts (by omega) w)
          go_wp2_with fail
          refine (HTS.out _).mono ?_
          rintro e u3 ⟨rfl, hbu3⟩
          have HB8 := Lib.hid (HB7.out.trans (hbu3.mono HB7.out.size))
          have HZ8 := Lib.hid (HZ7.out.belowW hbu3)
          clear hbu3 HB7 HZ7 HTS
          generalize tidyC ti ts = tr at *
          have hself : ((txt tr).toList == (txt tr).toList) = true := by simp
          by_cases htr : tr = []
          · rw [decide_eq_false (show ¬ (tr ≠ []) from fun h => h htr)]
            go_wp2_with fail
            refine (DrawCountChanges_any a2 l2 c2 z2 _ HZ8.out HL2.out).mono ?_
            rintro e t1 ⟨j, tt, rfl, -, -, htt, hbt1⟩
            have HBT1 := Lib.hid (HB8.out.trans (hbt1.mono HB8.out.size))
            have HTT := Lib.hid (show tt.size ≤ maxLen from Nat.le_trans htt (by unfold maxLen; omega))
            have HCI := Lib.hid (fun w => iCountChanges_any j tt w HTT.out)
            have HCS := Lib.hid (fun w => sCountChanges_any j tt w HTT.out)
            clear hbt1 htt HTT HB8 HZ8
            generalize (readP j tt).list.length = kn at *
            cases hok : (readP j tt).ok
            all_goals
              rw [hok] at HCI HCS
              clear hok
              go_wp2_with fail
              refine (HCI.out _).mono ?_
              rintro e t2 ⟨rfl, hbt2⟩
              have HBT2 := Lib.hid (HBT1.out.trans (hbt2.mono HBT1.out.size))
              clear hbt2 HBT1
              go_wp2_with fail
              refine (HCS.out _).mono ?_
              rintro e t3 ⟨rfl, hbt3⟩
              have HBT3 := Lib.hid (HBT2.out.trans (hbt3.mono HBT2.out.size))
              clear hbt3 HBT2
              go_wp2
              go_ret
              exact ⟨rfl, HBT3.out⟩
          · rw [decide_eq_true htr]
            have HGC := Lib.hid (HTG.out htr)
            go_wp2_with fail
            refine (iGoodChange_any ti (txt tr) _).mono ?_
            rintro e u4 ⟨rfl, hbu4⟩
            rw [HGC.out]
            have HB9 := Lib.hid (HB8.out.trans (hbu4.mono HB8.out.size))
            have HZ9 := Lib.hid (HZ8.out.belowW hbu4)
            clear hbu4 HB8 HZ8
            have HB8 := HB9
            have HZ8 := HZ9
            clear HB9 HZ9
            go_wp2_with fail
            refine (DrawCountChanges_any a2 l2 c2 z2 _ HZ8.out HL2.out).mono ?_
            rintro e t1 ⟨j, tt, rfl, -, -, htt, hbt1⟩
            have HBT1 := Lib.hid (HB8.out.trans (hbt1.mono HB8.out.size))
            have HTT := Lib.hid (show tt.size ≤ maxLen from Nat.le_trans htt (by unfold maxLen; omega))
            have HCI := Lib.hid (fun w => iCountChanges_any j tt w HTT.out)
            have HCS := Lib.hid (fun w => sCountChanges_any j tt w HTT.out)
            clear hbt1 htt HTT HB8 HZ8
            generalize (readP j tt).list.length = kn at *
            cases hok : (readP j tt).ok
            all_goals
              rw [hok] at HCI HCS
              clear hok
              go_wp2_with fail
              refine (HCI.out _).mono ?_
              rintro e t2 ⟨rfl, hbt2⟩
              have HBT2 := Lib.hid (HBT1.out.trans (hbt2.mono HBT1.out.size))
              clear hbt2 HBT1
              go_wp2_with fail
              refine (HCS.out _).mono ?_
              rintro e t3 ⟨rfl, hbt3⟩
              have HBT3 := Lib.hid (HBT2.out.trans (hbt3.mono HBT2.out.size))
              clear hbt3 HBT2
              go_wp2
              go_ret
              exact ⟨rfl, HBT3.out⟩
end Go.Proofs.YtdflpkkcjbdpfaaDoor
