/- The law FnCosets. -/
import Derived.Test.YtapcfojnljnoaaaLK
import Derived.Test.YtapcfojnljnoaaaLM
import Derived.Test.YtapcfojnljnoaaaRE
namespace Go.Proofs.Ytapcfojnljnoaaa
open Go.RowKit
set_option linter.unusedSimpArgs false
set_option linter.unusedVariables false

theorem iTimes_rows6 {n : Nat} {f g : Nat → Nat} (hf : IsRow n f) (hg : IsRow n g) (w : World) :
    Calls Try.prog 48 #[.string (strOf n f), .string (strOf n g)] w fun e w' => e = .returned (.tuple #[.string (strOf n (mulR n f g)), .bool true]) ∧ Below w.heap.size w w' := by
  have h2 : twoB (strOf n f) (strOf n g) = true := by
    unfold twoB
    rw [goodB_strOf hf, goodB_strOf hg, strOf_size, strOf_size]
    simp
  have hx : ∀ f, (strOf n f).size ≤ maxLen := fun f => by rw [strOf_size]; have := hf.eight; unfold maxLen; omega
  have h := iTimes_yes (strOf n f) (strOf n g) (hx f) (hx g) h2 w
  rw [strOf_size, dg_strOf hf, dg_strOf hg, strOf_mul] at h
  exact h

set_option maxRecDepth 100000 in
set_option maxHeartbeats 16000000 in
theorem lawCosets (a1 : Option Addr) (l1 c1 : Nat) (z1 : List Int) (a2 : Option Addr) (l2 c2 : Nat) (z2 : List Int) (w : World) (hz1 : IsBytes w a1 l1 c1 z1) (hz2 : IsBytes w a2 l2 c2 z2) :
    Calls Try.prog 13 #[.slice a1 l1 c1, .slice a2 l2 c2] w fun e w' => e = .returned (.bool true) ∧ Below w.heap.size w w' := by
  have HZ1 := Lib.hid hz1
  have HZ2 := Lib.hid hz2
  clear hz1 hz2
  go_enter Try.func13, Try.ntmps13
  go_wp2_with fail
  refine (big_any a1 a2 l1 l2 c1 c2 HZ1.out.lenW HZ2.out.lenW _).mono ?_
  rintro e w0 ⟨rfl, rfl⟩
  by_cases hbig : 1048576 < l1 + l2
  · rw [decide_eq_true hbig]
    go_wp2
    go_ret
    exact ⟨rfl, Below.refl _ _⟩
  · rw [decide_eq_false hbig]
    have HL1 := Lib.hid (show l1 ≤ 1048576 by omega)
    have HL2 := Lib.hid (show l2 ≤ 1048576 by omega)
    clear hbig
    go_wp2_with fail
    refine (DrawCosetOf_any a1 l1 c1 z1 _ HZ1.out HL1.out).mono ?_
    rintro e w1 ⟨L, v, s, hl8, hsm8, hs10, rfl, ht, hb1⟩
    have hsm : ∀ l ∈ L, l.length ≤ maxLen := fun l hl => by have := hsm8 l hl; unfold maxLen; omega
    have hsx : s.size ≤ maxLen := by unfold maxLen; omega
    have HIX := Lib.hid (fun t (ht : t.size ≤ maxLen) u w h => iCosetOf_any u L t ht w h (by omega) hsm)
    have HIN := Lib.hid (fun u u2 M w h h2 h3 h4 => iCosetsIn_any u u2 L M w h h2 (by omega) hsm h3 h4)
    have HI := Lib.hid (fun u w h => iCosetOf_any u L s hsx w h (by omega) hsm)
    have HS := Lib.hid (fun u w h => sCosetOf_any u L s hsx w h (by omega) hsm)
    unfold TextsAny at HI HS HIX HIN
    have HCF := cosetF (L := L) (s := s)
    have hcl : (csL L s).length ≤ 1000 := by
      by_cases h : csB L s = true
      · obtain ⟨n, gs, x, C, hF, e⟩ := HCF h
        rw [e, rowsL_len]
        have := hF.small
        omega
      · rw [csL_no (by simpa using h)]
        simp
    have HT := Lib.hid ht
    have HB1 := Lib.hid hb1
    obtain ⟨va, vc, rfl, -, -⟩ := id ht
    obtain ⟨k, hk⟩ : ∃ k, L.length = k := ⟨_, rfl⟩
    rw [hk] at HT ⊢
    generalize csL L s = C at *
    generalize csB L s = ok at *
    have HK := Lib.hid hk
    have HCL := Lib.hid hcl
    have HF := Lib.hid HCF
    clear ht hb1 hsm8 hsm HCF hcl hk HZ1 HL1 hs10 hl8
    cases ok
    · go_wp2_with fail
      refine (HI.out _ _ HT.out).mono ?_
      rintro e w2 ⟨v2, rfl, hn2, hb2⟩
      have HB2 := Lib.hid (HB1.out.trans (hb2.mono HB1.out.size))
      have HT2 := Lib.hid (HT.out.kept hb2)
      have H2 := Lib.hid hn2.own
      obtain ⟨sl, hsl⟩ : ∃ k, C.length = k := ⟨_, rfl⟩
      obtain ⟨va2, vc2, rfl, hva⟩ := hn2.own.view
      rw [strs_len, hsl] at H2 hva ⊢
      have HVA := Lib.hid hva
      have HSL := Lib.hid hsl
      clear hn2 hb2 HB1 HT HI hsl hva
      go_wp2_with fail
      refine (HS.out _ _ HT2.out).mono ?_
      rintro e w3 ⟨v3, rfl, hn3, hb3⟩
      have HB3 := Lib.hid (HB2.out.trans (hb3.mono HB2.out.size))
      have HT3 := Lib.hid (HT2.out.kept hb3)
      have H3 := Lib.hid (H2.out.kept hb3)
      have K3 := Lib.hid hn3.own
      clear hn3 hb3 HB2 HT2 H2 HS
      go_wp2_with fail
      refine (sameTexts_same _ _ C _ H3.out K3.out (by have := HCL.out; omega)).mono ?_
      rintro e w4 ⟨rfl, d4, hd4⟩
      have hb4 : Below w3.heap.size w3 w4 := by rw [hd4]; exact below_drewN (Below.refl _ _) d4
      have HB4 := Lib.hid (HB3.out.trans (hb4.mono HB3.out.size))
      have HT4 := Lib.hid (HT3.out.kept hb4)
      have H4 := Lib.hid (H3.out.kept hb4)
      clear hd4 hb4 HB3 HT3 H3 K3
      have HB := HB4
      clear HT4 H4 HB4 HF HCL HSL HK HVA HIX HIN
      go_wp2_with fail
      refine (DrawCosetsIn_any a2 l2 c2 z2 _ (HZ2.out.belowW HB.out) HL2.out).mono ?_
      rintro e y1 ⟨A, M, qv, qu, hA8, hAs, hM8, hMs, rfl, qt, ut, yb1⟩
      have hax : ∀ l ∈ A, l.length ≤ maxLen := fun l hl => by have := hAs l hl; unfold maxLen; omega
      have hmx : ∀ l ∈ M, l.length ≤ maxLen := fun l hl => by have := hMs l hl; unfold maxLen; omega
      have DI := Lib.hid (fun u u2 w h h2 => iCosetsIn_any u u2 A M w h h2 (by omega) hax (by omega) hmx)
      have DS := Lib.hid (fun u u2 w h h2 => sCosetsIn_any u u2 A M w h h2 (by omega) hax (by omega) hmx)
      have DC := Lib.hid (fun t (ht : t.size ≤ maxLen) u w h => iCosetOf_any u A t ht w h (by omega) hax)
      unfold TextsAny at DI DS DC
      obtain ⟨n2, Z, hZ, hci, hzl⟩ := leastsAll (L := A) (M := M)
      rw [hci] at DI DS
      obtain ⟨zl, hzz⟩ : ∃ k, Z.length = k := ⟨_, rfl⟩
      have hz8 : zl ≤ 8 := by omega
      have YB1 := Lib.hid (HB.out.trans (yb1.mono HB.out.size))
      have Q1 := Lib.hid qt
      have U1 := Lib.hid ut
      have HZF := Lib.hid hZ
      have HZL := Lib.hid hzz
      generalize ciB A M = ib at *
      clear qt ut yb1 hA8 hAs hM8 hMs hax hmx HB hZ hci hzl hzz
      go_wp2_with fail
      refine (DI.out _ _ _ Q1.out U1.out).mono ?_
      rintro e y2 ⟨x2, rfl, xn2, yb2⟩
      have YB2 := Lib.hid (YB1.out.trans (yb2.mono YB1.out.size))
      have Q2 := Lib.hid (Q1.out.kept yb2)
      have U2 := Lib.hid (U1.out.kept yb2)
      have X2 := Lib.hid xn2.own
      obtain ⟨xa, xc, rfl, hxa⟩ := xn2.own.view
      rw [strs_len, rowsL_len, HZL.out] at X2 hxa ⊢
      have HXA := Lib.hid hxa
      clear yb2 xn2 YB1 Q1 U1 DI hxa
      go_wp2_with fail
      refine (DS.out _ _ _ Q2.out U2.out).mono ?_
      rintro e y3 ⟨x3, rfl, xn3, yb3⟩
      have YB3 := Lib.hid (YB2.out.trans (yb3.mono YB2.out.size))
      have Q3 := Lib.hid (Q2.out.kept yb3)
      have X3 := Lib.hid (X2.out.kept yb3)
      have X3B := Lib.hid xn3.own
      clear yb3 xn3 YB2 Q2 U2 X2 DS
      cases ib
      all_goals
        go_wp2_with fail
        refine (sameTexts_same _ _ (rowsL n2 Z) _ X3.out X3B.out (by rw [rowsL_len, HZL.out]; omega)).mono ?_
        rintro e y4 ⟨rfl, d4, hd4⟩
        have yb4 : Below y3.heap.size y3 y4 := by rw [hd4]; exact below_drewN (Below.refl _ _) d4
        have YB4 := Lib.hid (YB3.out.trans (yb4.mono YB3.out.size))
        have Q4 := Lib.hid (Q3.out.kept yb4)
        have X4 := Lib.hid (X3.out.kept yb4)
        clear hd4 yb4
        have hzi : (zl : Int) ≤ 8 := by omega
        go_wp2
        go_loopg [146] zl (fun q x wr => ∃ t : Nat, q + t = zl ∧ x = .int .i64 t ∧ Below y4.heap.size y4 wr)
        case atStart => exact ⟨0, by omega, rfl, by first | exact Below.refl _ _ | exact below_drewN (Below.refl _ _) _⟩
        case round =>
          obtain ⟨t, hq, rfl, hbt⟩ := hrel
          have HBT := Lib.hid hbt
          by_cases hlt : t < zl
          · have hti : (t : Int) < (zl : Int) := by omega
            have htz : t < Z.length := by rw [HZL.out]; exact hlt
            obtain ⟨hcb, C2, hc2, hc2l⟩ := HZF.out.head t htz
            have hzr := HZF.out.rows _ (List.getElem_mem htz)
            obtain ⟨xg, hxg⟩ := HXA.out (by omega)
            subst hxg
            have cx := (X4.out.kept hbt).cell t _ (strs_rowsL_get n2 Z t htz)
            have hsz : (strOf n2 Z[t]).size ≤ maxLen := by rw [strOf_size]; have := HZF.out.eight; unfold maxLen; omega
            have HDC := Lib.hid (DC.out _ hsz)
            rw [hcb, hc2] at HDC
            have H0 : Hid (∀ u W, Own W 9 u (strs (rowsL n2 (Z[t] :: C2))) → ∃ g cp, u = .slice (some ⟨g, 0, none⟩) (C2.length + 1) cp ∧ W.cell? ⟨g, 0, none⟩ = some (.string (strOf n2 Z[t]))) := Lib.hid (fun u W h => by
              obtain ⟨ua, uc, rfl, hua⟩ := h.view
              obtain ⟨g, rfl⟩ := hua (by rw [strs_len, rowsL_len]; simp)
              refine ⟨g, uc, by rw [strs_len, rowsL_len]; rfl, h.cell 0 _ (strs_rowsL_get n2 (Z[t] :: C2) 0 (by simp))⟩)
            have QT := Lib.hid (Q4.out.kept hbt)
            have HZT : Hid (0 < t → Op.bytesLess (strOf n2 (Z.getD (t - 1) (rdf n2))).toList (strOf n2 Z[t]).toList = true) := Lib.hid (fun h0 => by
              obtain ⟨j, rfl⟩ : ∃ j, t = j + 1 := ⟨t - 1, by omega⟩
              rw [Nat.add_sub_cancel, List.getD_eq_getElem?_getD, List.getElem?_eq_getElem (by omega), Option.getD_some]
              exact HZF.out.up j htz)
            have HPV : Hid (0 < t → ∀ W', Below wr.heap.size wr W' → W'.cell? ⟨xg, t - 1, none⟩ = some (.string (strOf n2 (Z.getD (t - 1) (rdf n2))))) := Lib.hid (fun h0 W' hb => by
              rw [List.getD_eq_getElem?_getD, List.getElem?_eq_getElem (show t - 1 < Z.length by omega), Option.getD_some]
              exact ((X4.out.kept hbt).kept hb).cell (t - 1) _ (strs_rowsL_get n2 Z (t - 1) (by omega)))
            have HPT : Hid (∀ W', Below wr.heap.size wr W' → W'.cell? ⟨xg, t, none⟩ = some (.string (strOf n2 Z[t]))) := Lib.hid (fun W' hb => ((X4.out.kept hbt).kept hb).cell t _ (strs_rowsL_get n2 Z t htz))
            generalize strOf n2 Z[t] = zt at *
            generalize Z[t] = zf at *
            clear hbt hcb hc2 hzr hsz htz
            go_wp2_with fail
            refine (HDC.out _ _ QT.out).mono ?_
            rintro e y5 ⟨u5, rfl, un5, yb5⟩
            obtain ⟨gy, cy, rfl, cy0⟩ := H0.out _ _ un5.own
            have HB5 := Lib.hid (HBT.out.trans (yb5.mono HBT.out.size))
            have cx := HPT.out _ yb5
            have hzz : ((zt.toList) == zt.toList) = true := by simp
            obtain ⟨c2l, hc2e⟩ : ∃ k, C2.length + 1 = k := ⟨_, rfl⟩
            rw [hc2e]
            have hc2p : (0 : Int) < (c2l : Int) := by omega
            have hc20 : ((c2l : Int) == 0) = false := by rw [beq_eq_false_iff_ne]; omega
            have HQT := Lib.hid hq
            cases t with
            | zero =>
              have h00 : decide ((0 : Int) < ((0 : Nat) : Int)) = false := by decide
              clear hq hlt yb5 un5 hc2e hc2l
              go_wp2
              go_quiet (fail)
              go_wp2
              go_roundg (gk - 1)
              case measure => have := HQT.out; omega
              case rel => exact ⟨1, by have := HQT.out; omega, by go_num, below_drewN HB5.out _⟩
            | succ t =>
              have hup := HZT.out (by omega)
              have cp := HPV.out (by omega) _ yb5
              rw [Nat.add_sub_cancel] at cp hup
              generalize strOf n2 (Z.getD t (rdf n2)) = zp at *
              have hti2 : ((t + 1 : Nat) : Int) = (t : Int) + 1 := by omega
              rw [hti2] at hti ⊢
              have hpp : (0 : Int) < (t : Int) + 1 := by omega
              have htt : ((t : Int) + 1).toNat = t + 1 := by omega
              have hpos : (0 : Int) ≤ (t : Int) := by omega
              have htm : (t : Int) < (zl : Int) := by omega
              have hw1 : IntKind.i64.wrap (t : Int) = t := IntWalk.i64_in _ ⟨by omega, by omega⟩
              clear hq hlt yb5 un5 hc2e hc2l hti2 HZT HPV HPT HDC H0
              go_wp2
              go_quiet (fail)
              go_wp2
              go_roundg (gk - 1)
              case measure => have := HQT.out; omega
              case rel => exact ⟨t + 2, by have := HQT.out; omega, by go_num, below_drewN HB5.out _⟩
          · have hti : ¬ (t : Int) < (zl : Int) := by omega
            have HBE := Lib.hid (YB4.out.trans (HBT.out.mono YB4.out.size))
            clear hbt
            go_wp2
            go_ret
            exact ⟨rfl, HBE.out⟩
    · obtain ⟨n, gs, x, C0, hF, hC⟩ := HF.out rfl
      subst hC
      go_wp2_with fail
      refine (HI.out _ _ HT.out).mono ?_
      rintro e w2 ⟨v2, rfl, hn2, hb2⟩
      have HB2 := Lib.hid (HB1.out.trans (hb2.mono HB1.out.size))
      have HT2 := Lib.hid (HT.out.kept hb2)
      have H2 := Lib.hid hn2.own
      obtain ⟨sl, hsl⟩ : ∃ k, (rowsL n C0).length = k := ⟨_, rfl⟩
      obtain ⟨va2, vc2, rfl, hva⟩ := hn2.own.view
      rw [strs_len, hsl] at H2 hva ⊢
      have HVA := Lib.hid hva
      have HSL := Lib.hid hsl
      clear hn2 hb2 HB1 HT HI hsl hva
      go_wp2_with fail
      refine (HS.out _ _ HT2.out).mono ?_
      rintro e w3 ⟨v3, rfl, hn3, hb3⟩
      have HB3 := Lib.hid (HB2.out.trans (hb3.mono HB2.out.size))
      have HT3 := Lib.hid (HT2.out.kept hb3)
      have H3 := Lib.hid (H2.out.kept hb3)
      have K3 := Lib.hid hn3.own
      clear hn3 hb3 HB2 HT2 H2 HS
      go_wp2_with fail
      refine (sameTexts_same _ _ (rowsL n C0) _ H3.out K3.out (by have := HCL.out; omega)).mono ?_
      rintro e w4 ⟨rfl, d4, hd4⟩
      have hb4 : Below w3.heap.size w3 w4 := by rw [hd4]; exact below_drewN (Below.refl _ _) d4
      have HB4 := Lib.hid (HB3.out.trans (hb4.mono HB3.out.size))
      have HT4 := Lib.hid (HT3.out.kept hb4)
      have H4 := Lib.hid (H3.out.kept hb4)
      clear hd4 hb4 HB3 HT3 H3 K3
      have hgl : gs.length = k := by rw [hF.glen]; exact HK.out
      have hCl : C0.length = sl := by have := HSL.out; rwa [rowsL_len] at this
      have hks : sl = k := by rw [← hCl, hF.clen, hgl]
      subst hks
      have hkp : 0 < sl := by rw [← hgl]; exact hF.gpos
      have hk8 : sl ≤ 800 := by rw [← hCl]; exact hF.small
      obtain ⟨gl, rfl⟩ := HVA.out hkp
      obtain ⟨hkk, gb, off, rfl, hgb, hcc⟩ := (hF.txts _ _ HT4.out).rowsAt hF.gpos
      have HCI := Lib.hid (fun u u2 w h h2 => HIN.out u u2 (rowsL n C0) w h h2 (by rw [rowsL_len]; omega) (fun l hl => by have := sml_rowsL hF.eight C0 l hl; unfold maxLen; omega))
      rw [hF.inB, hF.inL] at HCI
      have hs := hF.str
      subst hs
      have HFF := Lib.hid hF
      have HCC := Lib.hid hcc
      have HGL := Lib.hid hgl
      have hC0 : 0 < C0.length := by omega
      have hc0 : C0[0] = C0.getD 0 x := by rw [List.getD_eq_getElem?_getD, List.getElem?_eq_getElem hC0, Option.getD_some]
      have HC0 := Lib.hid (strs_rowsL_get n C0 0 hC0)
      rw [hc0] at HC0
      clear hF hcc hkk HF HCL HSL HVA HIN hgl hCl hC0 hc0
      go_wp2_with fail
      refine (HCI.out _ _ _ HT4.out H4.out.txts).mono ?_
      rintro e w5 ⟨v5, rfl, hn5, hb5⟩
      have HB5 := Lib.hid (HB4.out.trans (hb5.mono HB4.out.size))
      have HT5 := Lib.hid (HT4.out.kept hb5)
      have H5 := Lib.hid (H4.out.kept hb5)
      obtain ⟨va5, vc5, rfl, hva5⟩ := hn5.own.view
      obtain ⟨g5, rfl⟩ := hva5 (by rw [strs_len, rowsL_len]; simp)
      have ce := hn5.own.cell 0 _ (strs_rowsL_get n [C0.getD 0 x] 0 (by simp))
      rw [List.getElem_cons_zero] at ce
      have cc := H5.out.cell 0 _ HC0.out
      have hl1 : (strs (rowsL n [C0.getD 0 x])).length = 1 := by rw [strs_len, rowsL_len]; rfl
      rw [hl1]
      generalize strOf n (C0.getD 0 x) = sc at *
      have hscc : (sc.toList == sc.toList) = true := by simp
      have hkk : ((sl : Int) != (sl : Int)) = false := by simp
      have h11 : ((1 : Int) != (1 : Int)) = false := by simp
      have hkpi : (0 : Int) < (sl : Int) := by omega
      have HCC5 : Hid (∀ W', Below w5.heap.size w5 W' → ∀ j (hj : j < gs.length), W'.cell? ⟨gb, off + j, none⟩ = some (.string (strOf n gs[j]))) := Lib.hid (fun W' hb j hj => (hb.cell (p := ⟨gb, off + j, none⟩) (Nat.lt_of_lt_of_le hgb hb5.size)).trans ((hb5.cell (p := ⟨gb, off + j, none⟩) hgb).trans (HCC.out j hj)))
      clear hn5 hb5 hva5 HT4 H4 HB4 HCI HCC hl1
      go_wp2
      go_quiet (fail)
      clear ce cc
      go_wp2_with fail
      refine (numberOf_any a2 l2 c2 _ (codeAt_of (HZ2.out.belowW (below_drewN HB5.out _))) HL2.out).mono ?_
      rintro e w6 ⟨num, hnum, rfl, hw6⟩
      have hdr : Below w5.heap.size w5 w6 := by rw [← hw6]; exact below_drewN (Below.refl _ _) _
      clear hw6
      obtain ⟨nx, hnx⟩ : ∃ nx, num % sl = nx := ⟨_, rfl⟩
      have hnl : nx < sl := by rw [← hnx]; exact Nat.mod_lt _ hkp
      have hnli : (nx : Int) < sl := by omega
      have hmod : Int.tmod (num : Int) (sl : Int) = (nx : Int) := by rw [Int.tmod_eq_emod_of_nonneg (by omega), ← hnx]; simp
      have hmod2 : (num : Int) % (sl : Int) = (nx : Int) := by rw [← hnx]; simp
      have hwx : IntKind.i64.wrap (nx : Int) = (nx : Int) := Go.IntWalk.i64_in _ ⟨by omega, by omega⟩
      have hs0 : ((sl : Int) == 0) = false := by rw [beq_eq_false_iff_ne]; omega
      have hs1 : ¬ ((sl : Int) = 0) := by omega
      have hnx0 : (0 : Int) ≤ (nx : Int) := by omega
      have hgx : nx < gs.length := by rw [HGL.out]; exact hnl
      have cg := HCC5.out _ hdr nx hgx
      have hTM := fun w => iTimes_rows6 HFF.out.row (HFF.out.grows _ (List.getElem_mem hgx)) w
      obtain ⟨htb, htl⟩ := HFF.out.turn nx hgx
      have hmz : (strOf n (mulR n x gs[nx])).size ≤ maxLen := by rw [strOf_size]; have := HFF.out.eight; unfold maxLen; omega
      have HTC := Lib.hid (HIX.out _ hmz)
      rw [htb, htl] at HTC
      have HTM := Lib.hid hTM
      generalize strOf n (mulR n x gs[nx]) = sm at *
      generalize strOf n gs[nx] = sg at *
      generalize strOf n x = sx at *
      clear htb htl hmz hTM hnx hgx
      first | go_wp2_with fail | skip
      refine (HTM.out _).mono ?_
      rintro e w7 ⟨rfl, hb7⟩
      have HT7 := Lib.hid ((HT5.out.kept hdr).kept hb7)
      have H7 := Lib.hid ((H5.out.kept hdr).kept hb7)
      have HB6 := Lib.hid (HB5.out.trans (hdr.mono HB5.out.size))
      have HB7 := Lib.hid (HB6.out.trans (hb7.mono HB6.out.size))
      clear hb7 cg HT5 H5 HB5 HB6 hdr HCC5
      go_wp2_with fail
      refine (HTC.out _ _ HT7.out).mono ?_
      rintro e w8 ⟨v8, rfl, hn8, hb8⟩
      have H8 := Lib.hid (H7.out.kept hb8)
      have K8 := Lib.hid hn8.own
      have HB8 := Lib.hid (HB7.out.trans (hb8.mono HB7.out.size))
      clear hn8 hb8 H7 HT7 HB7
      go_wp2_with fail
      refine (sameTexts_same _ _ (rowsL n C0) _ H8.out K8.out (by rw [rowsL_len]; have := HFF.out.small; omega)).mono ?_
      rintro e w9 ⟨rfl, d9, hd9⟩
      have hb9 : Below w8.heap.size w8 w9 := by rw [hd9]; exact below_drewN (Below.refl _ _) d9
      have HB := Lib.hid (HB8.out.trans (hb9.mono HB8.out.size))
      clear hd9 hb9 HB8 H8 K8 HTC HTM HFF HGL HC0 HIX HK
      clear hscc hkk h11 hmod hmod2 hwx hs0 hs1 hnx0 hnli hnl
      go_wp2_with fail
      refine (DrawCosetsIn_any a2 l2 c2 z2 _ (HZ2.out.belowW HB.out) HL2.out).mono ?_
      rintro e y1 ⟨A, M, qv, qu, hA8, hAs, hM8, hMs, rfl, qt, ut, yb1⟩
      have hax : ∀ l ∈ A, l.length ≤ maxLen := fun l hl => by have := hAs l hl; unfold maxLen; omega
      have hmx : ∀ l ∈ M, l.length ≤ maxLen := fun l hl => by have := hMs l hl; unfold maxLen; omega
      have DI := Lib.hid (fun u u2 w h h2 => iCosetsIn_any u u2 A M w h h2 (by omega) hax (by omega) hmx)
      have DS := Lib.hid (fun u u2 w h h2 => sCosetsIn_any u u2 A M w h h2 (by omega) hax (by omega) hmx)
      have DC := Lib.hid (fun t (ht : t.size ≤ maxLen) u w h => iCosetOf_any u A t ht w h (by omega) hax)
      unfold TextsAny at DI DS DC
      obtain ⟨n2, Z, hZ, hci, hzl⟩ := leastsAll (L := A) (M := M)
      rw [hci] at DI DS
      obtain ⟨zl, hzz⟩ : ∃ k, Z.length = k := ⟨_, rfl⟩
      have hz8 : zl ≤ 8 := by omega
      have YB1 := Lib.hid (HB.out.trans (yb1.mono HB.out.size))
      have Q1 := Lib.hid qt
      have U1 := Lib.hid ut
      have HZF := Lib.hid hZ
      have HZL := Lib.hid hzz
      generalize ciB A M = ib at *
      clear qt ut yb1 hA8 hAs hM8 hMs hax hmx HB hZ hci hzl hzz
      go_wp2_with fail
      refine (DI.out _ _ _ Q1.out U1.out).mono ?_
      rintro e y2 ⟨x2, rfl, xn2, yb2⟩
      have YB2 := Lib.hid (YB1.out.trans (yb2.mono YB1.out.size))
      have Q2 := Lib.hid (Q1.out.kept yb2)
      have U2 := Lib.hid (U1.out.kept yb2)
      have X2 := Lib.hid xn2.own
      obtain ⟨xa, xc, rfl, hxa⟩ := xn2.own.view
      rw [strs_len, rowsL_len, HZL.out] at X2 hxa ⊢
      have HXA := Lib.hid hxa
      clear yb2 xn2 YB1 Q1 U1 DI hxa
      go_wp2_with fail
      refine (DS.out _ _ _ Q2.out U2.out).mono ?_
      rintro e y3 ⟨x3, rfl, xn3, yb3⟩
      have YB3 := Lib.hid (YB2.out.trans (yb3.mono YB2.out.size))
      have Q3 := Lib.hid (Q2.out.kept yb3)
      have X3 := Lib.hid (X2.out.kept yb3)
      have X3B := Lib.hid xn3.own
      clear yb3 xn3 YB2 Q2 U2 X2 DS
      cases ib
      all_goals
        go_wp2_with fail
        refine (sameTexts_same _ _ (rowsL n2 Z) _ X3.out X3B.out (by rw [rowsL_len, HZL.out]; omega)).mono ?_
        rintro e y4 ⟨rfl, d4, hd4⟩
        have yb4 : Below y3.heap.size y3 y4 := by rw [hd4]; exact below_drewN (Below.refl _ _) d4
        have YB4 := Lib.hid (YB3.out.trans (yb4.mono YB3.out.size))
        have Q4 := Lib.hid (Q3.out.kept yb4)
        have X4 := Lib.hid (X3.out.kept yb4)
        clear hd4 yb4
        have hzi : (zl : Int) ≤ 8 := by omega
        go_wp2
        go_loopg [146] zl (fun q x wr => ∃ t : Nat, q + t = zl ∧ x = .int .i64 t ∧ Below y4.heap.size y4 wr)
        case atStart => exact ⟨0, by omega, rfl, by first | exact Below.refl _ _ | exact below_drewN (Below.refl _ _) _⟩
        case round =>
          obtain ⟨t, hq, rfl, hbt⟩ := hrel
          have HBT := Lib.hid hbt
          by_cases hlt : t < zl
          · have hti : (t : Int) < (zl : Int) := by omega
            have htz : t < Z.length := by rw [HZL.out]; exact hlt
            obtain ⟨hcb, C2, hc2, hc2l⟩ := HZF.out.head t htz
            have hzr := HZF.out.rows _ (List.getElem_mem htz)
            obtain ⟨xg, hxg⟩ := HXA.out (by omega)
            subst hxg
            have cx := (X4.out.kept hbt).cell t _ (strs_rowsL_get n2 Z t htz)
            have hsz : (strOf n2 Z[t]).size ≤ maxLen := by rw [strOf_size]; have := HZF.out.eight; unfold maxLen; omega
            have HDC := Lib.hid (DC.out _ hsz)
            rw [hcb, hc2] at HDC
            have H0 : Hid (∀ u W, Own W 9 u (strs (rowsL n2 (Z[t] :: C2))) → ∃ g cp, u = .slice (some ⟨g, 0, none⟩) (C2.length + 1) cp ∧ W.cell? ⟨g, 0, none⟩ = some (.string (strOf n2 Z[t]))) := Lib.hid (fun u W h => by
              obtain ⟨ua, uc, rfl, hua⟩ := h.view
              obtain ⟨g, rfl⟩ := hua (by rw [strs_len, rowsL_len]; simp)
              refine ⟨g, uc, by rw [strs_len, rowsL_len]; rfl, h.cell 0 _ (strs_rowsL_get n2 (Z[t] :: C2) 0 (by simp))⟩)
            have QT := Lib.hid (Q4.out.kept hbt)
            have HZT : Hid (0 < t → Op.bytesLess (strOf n2 (Z.getD (t - 1) (rdf n2))).toList (strOf n2 Z[t]).toList = true) := Lib.hid (fun h0 => by
              obtain ⟨j, rfl⟩ : ∃ j, t = j + 1 := ⟨t - 1, by omega⟩
              rw [Nat.add_sub_cancel, List.getD_eq_getElem?_getD, List.getElem?_eq_getElem (by omega), Option.getD_some]
              exact HZF.out.up j htz)
            have HPV : Hid (0 < t → ∀ W', Below wr.heap.size wr W' → W'.cell? ⟨xg, t - 1, none⟩ = some (.string (strOf n2 (Z.getD (t - 1) (rdf n2))))) := Lib.hid (fun h0 W' hb => by
              rw [List.getD_eq_getElem?_getD, List.getElem?_eq_getElem (show t - 1 < Z.length by omega), Option.getD_some]
              exact ((X4.out.kept hbt).kept hb).cell (t - 1) _ (strs_rowsL_get n2 Z (t - 1) (by omega)))
            have HPT : Hid (∀ W', Below wr.heap.size wr W' → W'.cell? ⟨xg, t, none⟩ = some (.string (strOf n2 Z[t]))) := Lib.hid (fun W' hb => ((X4.out.kept hbt).kept hb).cell t _ (strs_rowsL_get n2 Z t htz))
            generalize strOf n2 Z[t] = zt at *
            generalize Z[t] = zf at *
            clear hbt hcb hc2 hzr hsz htz
            go_wp2_with fail
            refine (HDC.out _ _ QT.out).mono ?_
            rintro e y5 ⟨u5, rfl, un5, yb5⟩
            obtain ⟨gy, cy, rfl, cy0⟩ := H0.out _ _ un5.own
            have HB5 := Lib.hid (HBT.out.trans (yb5.mono HBT.out.size))
            have cx := HPT.out _ yb5
            have hzz : ((zt.toList) == zt.toList) = true := by simp
            obtain ⟨c2l, hc2e⟩ : ∃ k, C2.length + 1 = k := ⟨_, rfl⟩
            rw [hc2e]
            have hc2p : (0 : Int) < (c2l : Int) := by omega
            have hc20 : ((c2l : Int) == 0) = false := by rw [beq_eq_false_iff_ne]; omega
            have HQT := Lib.hid hq
            cases t with
            | zero =>
              have h00 : decide ((0 : Int) < ((0 : Nat) : Int)) = false := by decide
              clear hq hlt yb5 un5 hc2e hc2l
              go_wp2
              go_quiet (fail)
              go_wp2
              go_roundg (gk - 1)
              case measure => have := HQT.out; omega
              case rel => exact ⟨1, by have := HQT.out; omega, by go_num, below_drewN HB5.out _⟩
            | succ t =>
              have hup := HZT.out (by omega)
              have cp := HPV.out (by omega) _ yb5
              rw [Nat.add_sub_cancel] at cp hup
              generalize strOf n2 (Z.getD t (rdf n2)) = zp at *
              have hti2 : ((t + 1 : Nat) : Int) = (t : Int) + 1 := by omega
              rw [hti2] at hti ⊢
              have hpp : (0 : Int) < (t : Int) + 1 := by omega
              have htt : ((t : Int) + 1).toNat = t + 1 := by omega
              have hpos : (0 : Int) ≤ (t : Int) := by omega
              have htm : (t : Int) < (zl : Int) := by omega
              have hw1 : IntKind.i64.wrap (t : Int) = t := IntWalk.i64_in _ ⟨by omega, by omega⟩
              clear hq hlt yb5 un5 hc2e hc2l hti2 HZT HPV HPT HDC H0
              go_wp2
              go_quiet (fail)
              go_wp2
              go_roundg (gk - 1)
              case measure => have := HQT.out; omega
              case rel => exact ⟨t + 2, by have := HQT.out; omega, by go_num, below_drewN HB5.out _⟩
          · have hti : ¬ (t : Int) < (zl : Int) := by omega
            have HBE := Lib.hid (YB4.out.trans (HBT.out.mono YB4.out.size))
            clear hbt
            go_wp2
            go_ret
            exact ⟨rfl, HBE.out⟩
end Go.Proofs.Ytapcfojnljnoaaa
