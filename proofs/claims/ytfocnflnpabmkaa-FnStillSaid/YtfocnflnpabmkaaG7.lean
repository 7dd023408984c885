/- The law FnStill. -/
import Derived.Test.YtfocnflnpabmkaaG6
namespace Go.Proofs.Ytfocnflnpabmkaa
open Go.RowKit
set_option linter.unusedSimpArgs false
set_option linter.unusedVariables false

set_option maxRecDepth 100000 in
set_option maxHeartbeats 16000000 in
theorem lawStill (a1 : Option Addr) (l1 c1 : Nat) (z1 : List Int) (a2 : Option Addr) (l2 c2 : Nat) (z2 : List Int) (w : World) (hz1 : IsBytes w a1 l1 c1 z1) (hz2 : IsBytes w a2 l2 c2 z2) :
    Calls Try.prog 4 #[.slice a1 l1 c1, .slice a2 l2 c2] w fun e w' => e = .returned (.bool true) ∧ Below w.heap.size w w' := by
  have HZ1 := Lib.hid hz1
  have HZ2 := Lib.hid hz2
  clear hz1 hz2
  go_enter Try.func4, Try.ntmps4
  go_wp2_with fail
  refine (big_any a1 a2 l1 l2 c1 c2 HZ1.out.lenW HZ2.out.lenW _).mono ?_
  rintro e w0 ⟨rfl, rfl⟩
  by_cases hbig : 1048576 < l1 + l2
  · rw [decide_eq_true hbig]
    go_wp2
    go_ret
    exact ⟨rfl, Below.refl _ _⟩
  · rw [decide_eq_false hbig]
    have HL1 := Lib.hid (show l1 ≤ 1048576 by omega)
    have HL2 := Lib.hid (show l2 ≤ 1048576 by omega)
    clear hbig
    go_wp2_with fail
    refine (DrawHuntBells_any a1 l1 c1 z1 _ HZ1.out HL1.out).mono ?_
    rintro e w1 ⟨s, n, v, L, rfl, hsz, hn2, hn9, hn, hL, hs, hb1⟩
    have hsmx : s.size ≤ maxLen := by unfold maxLen; omega
    obtain ⟨P, Q, hP, hQ, hi, hsp, ki, ks, hgood⟩ := stillFacts s hsmx n L (by omega) (small10 hs)
    have HI := Lib.hid hi
    have HS := Lib.hid hsp
    have KI := Lib.hid ki
    have KS := Lib.hid ks
    have HGOOD := Lib.hid hgood
    have HPAL : Hid (∀ hg : goodM s n L = true, _) := Lib.hid (fun hg => fun u w h => (bothIsPalindrome_yes s hsmx n L (by omega) (small10 hs) hg u w h).1)
    have HTURN : Hid (∀ hg : goodM s n L = true, _) := Lib.hid (fun hg => fun u w h => iTurnMethod_yes s hsmx n u L w h (by omega) hg)
    unfold IntsAny at HI HS KI KS
    unfold MethAny at HTURN
    obtain ⟨a, cap, hv, hag⟩ := hn.own.view
    rw [strs_len] at hv
    subst hv
    obtain ⟨o1, ho1⟩ : ∃ o1, Obj.cells #[.string s, .int .i64 n, .slice a L.length cap] 26 = o1 := ⟨_, rfl⟩
    have hal := (Below.refl w1.heap.size w1).alloc (Nat.le_refl _) o1
    have HBA : Hid (Below w.heap.size w (w1.alloc o1)) := Lib.hid (hb1.trans (hal.mono hb1.size))
    have HT := Lib.hid (hn.own.txts.kept hal)
    have HOM := Lib.hid (hn.own.kept hal)
    rw [strs_len] at hag
    have HAG := Lib.hid hag
    have HM : Hid (RowAt (w1.alloc o1) w1.heap.size 26 #[.string s, .int .i64 n, .slice a L.length cap]) := Lib.hid (by rw [← ho1]; exact RowAt.new w1 _ _)
    clear hn hb1 hal hag hs hsz hi hsp ki ks hgood hsmx hn2 hn9 HZ1 HL1
    subst ho1
    cases hg : goodM s n L
    · skip
      rw [hg] at HI HS KI KS
      go_wp2_with (first | (refine wpList_store_row rfl 26 _ _ rfl _ _ rfl rfl 26 _ (heap_alloc_new _ _) (by kernel_rfl) rfl (by kernel_rfl) ?_; rw [World.setRow_alloc_new]) | (refine wpList_load_row rfl 26 _ rfl _ rfl 26 _ _ _ ((HM.out)) Try.underlying26 rfl (by kernel_rfl) ?_) | fail)
      generalize w1.alloc (.cells #[.string s, .int .i64 n, .slice a L.length cap] 26) = A at *
      obtain ⟨mb, hmb⟩ : ∃ mb, w1.heap.size = mb := ⟨_, rfl⟩
      rw [hmb] at HM
      simp only [hmb]
      clear hmb
      refine (HI.out _ _ HT.out).mono ?_
      rintro e w2 ⟨v2, rfl, hn2, hb2⟩
      have HK2 := Lib.hid hb2
      have HH2 := Lib.hid hn2.own
      clear hn2 hb2 HI
      go_wp2_with (first | (refine wpList_load_row rfl 26 _ rfl _ rfl 26 _ _ _ ((HM.out.kept HK2.out)) Try.underlying26 rfl (by kernel_rfl) ?_) | fail)
      refine (HS.out _ _ (HT.out.kept HK2.out)).mono ?_
      rintro e w3 ⟨v3, rfl, hn3, hb3⟩
      have HK3 := Lib.hid (HK2.out.trans (hb3.mono HK2.out.size))
      have HH3 := Lib.hid (HH2.out.kept hb3)
      have HW3 := Lib.hid hn3.own
      clear hn3 hb3 HS HK2 HH2
      go_wp2_with (first | (refine wpList_load_row rfl 26 _ rfl _ rfl 26 _ _ _ ((HM.out.kept HK3.out)) Try.underlying26 rfl (by kernel_rfl) ?_) | fail)
      refine (KI.out _ _ (HT.out.kept HK3.out)).mono ?_
      rintro e w4 ⟨v4, rfl, hn4, hb4⟩
      have HK4 := Lib.hid (HK3.out.trans (hb4.mono HK3.out.size))
      have HH4 := Lib.hid (HH3.out.kept hb4)
      have HW4 := Lib.hid (HW3.out.kept hb4)
      have HS4 := Lib.hid hn4.own
      clear hn4 hb4 KI HK3 HH3 HW3
      go_wp2_with (first | (refine wpList_load_row rfl 26 _ rfl _ rfl 26 _ _ _ ((HM.out.kept HK4.out)) Try.underlying26 rfl (by kernel_rfl) ?_) | fail)
      refine (KS.out _ _ (HT.out.kept HK4.out)).mono ?_
      rintro e w5 ⟨v5, rfl, hn5, hb5⟩
      have HK5 := Lib.hid (HK4.out.trans (hb5.mono HK4.out.size))
      have HH5 := Lib.hid (HH4.out.kept hb5)
      have HW5 := Lib.hid (HW4.out.kept hb5)
      have HS5 := Lib.hid (HS4.out.kept hb5)
      have HT5 := Lib.hid hn5.own
      clear hn5 hb5 KS HK4 HH4 HW4 HS4
      go_wp2_with fail
      refine (sameInts_same _ _ P _ HH5.out HW5.out (by omega)).mono ?_
      rintro e w6 ⟨rfl, d6, hd6⟩
      have hb6 : Below w5.heap.size w5 w6 := by rw [hd6]; exact below_drewN (Below.refl _ _) d6
      have HK6 := Lib.hid (HK5.out.trans (hb6.mono HK5.out.size))
      have HH6 := Lib.hid (HH5.out.kept hb6)
      have HS6 := Lib.hid (HS5.out.kept hb6)
      have HT6 := Lib.hid (HT5.out.kept hb6)
      clear hd6 hb6 HK5 HH5 HW5 HS5 HT5
      go_wp2_with fail
      refine (sameInts_same _ _ Q _ HS6.out HT6.out (by omega)).mono ?_
      rintro e w7 ⟨rfl, d7, hd7⟩
      have hb7 : Below w6.heap.size w6 w7 := by rw [hd7]; exact below_drewN (Below.refl _ _) d7
      have HK7 := Lib.hid (HK6.out.trans (hb7.mono HK6.out.size))
      have HH7 := Lib.hid (HH6.out.kept hb7)
      have HS7 := Lib.hid (HS6.out.kept hb7)
      clear hd7 hb7 HK6 HH6 HS6 HT6
      have HB := Lib.hid (HBA.out.trans (HK7.out.mono HBA.out.size))
      clear HM HT HK7 HBA
      try (go_wp2_with fail)
      refine (DrawLeadHead_any a2 l2 c2 z2 _ (HZ2.out.belowW HB.out) HL2.out).mono ?_
      rintro e y1 ⟨ds, dn, dv, D, rfl, dsz, -, -, dnw, dL, dsm, yb1⟩
      obtain ⟨da, dc, hdv, -⟩ := dnw.own.view
      rw [strs_len] at hdv
      subst hdv
      obtain ⟨dt, db, dhi, dhs⟩ := bothLeadHead ds (by unfold maxLen; omega) dn D (by omega) (small10 dsm)
      have DHI := Lib.hid dhi
      have DHS := Lib.hid dhs
      obtain ⟨o1, ho1⟩ : ∃ o1, Obj.cells #[.string ds, .int .i64 dn, .slice da D.length dc] 26 = o1 := ⟨_, rfl⟩
      have hal := (Below.refl y1.heap.size y1).alloc (Nat.le_refl _) o1
      have DBA := Lib.hid (HB.out.trans ((yb1.trans (hal.mono yb1.size)).mono HB.out.size))
      have DT := Lib.hid (dnw.own.txts.kept hal)
      have DM : Hid (RowAt (y1.alloc o1) y1.heap.size 26 #[.string ds, .int .i64 dn, .slice da D.length dc]) := Lib.hid (by rw [← ho1]; exact RowAt.new y1 _ _)
      clear dnw yb1 hal dsm dhi dhs HB
      subst ho1
      go_wp2_with (first | (refine wpList_store_row rfl 26 _ _ rfl _ _ rfl rfl 26 _ (heap_alloc_new _ _) (by kernel_rfl) rfl (by kernel_rfl) ?_; rw [World.setRow_alloc_new]) | (refine wpList_load_row rfl 26 _ rfl _ rfl 26 _ _ _ ((DM.out)) Try.underlying26 rfl (by kernel_rfl) ?_) | fail)
      generalize y1.alloc (.cells #[.string ds, .int .i64 dn, .slice da D.length dc] 26) = Y at *
      refine (DHI.out _ _ DT.out).mono ?_
      rintro e y2 ⟨rfl, yb2⟩
      have YK2 := Lib.hid yb2
      clear yb2 DHI
      go_wp2_with (first | (refine wpList_load_row rfl 26 _ rfl _ rfl 26 _ _ _ ((DM.out.kept YK2.out)) Try.underlying26 rfl (by kernel_rfl) ?_) | fail)
      refine (DHS.out _ _ (DT.out.kept YK2.out)).mono ?_
      rintro e y3 ⟨rfl, yb3⟩
      have YB3 := Lib.hid (DBA.out.trans ((YK2.out.trans (yb3.mono YK2.out.size)).mono DBA.out.size))
      have hdd : (dt.toList == dt.toList) = true := by simp
      clear yb3 YK2 DHS DT DM DBA
      cases db
      all_goals
        go_wp2
        go_ret
        exact ⟨rfl, YB3.out⟩
    · skip
      rw [hg] at HI HS KI KS
      go_wp2_with (first | (refine wpList_store_row rfl 26 _ _ rfl _ _ rfl rfl 26 _ (heap_alloc_new _ _) (by kernel_rfl) rfl (by kernel_rfl) ?_; rw [World.setRow_alloc_new]) | (refine wpList_load_row rfl 26 _ rfl _ rfl 26 _ _ _ ((HM.out)) Try.underlying26 rfl (by kernel_rfl) ?_) | fail)
      generalize w1.alloc (.cells #[.string s, .int .i64 n, .slice a L.length cap] 26) = A at *
      obtain ⟨mb, hmb⟩ : ∃ mb, w1.heap.size = mb := ⟨_, rfl⟩
      rw [hmb] at HM
      simp only [hmb]
      clear hmb
      refine (HI.out _ _ HT.out).mono ?_
      rintro e w2 ⟨v2, rfl, hn2, hb2⟩
      have HK2 := Lib.hid hb2
      have HH2 := Lib.hid hn2.own
      clear hn2 hb2 HI
      go_wp2_with (first | (refine wpList_load_row rfl 26 _ rfl _ rfl 26 _ _ _ ((HM.out.kept HK2.out)) Try.underlying26 rfl (by kernel_rfl) ?_) | fail)
      refine (HS.out _ _ (HT.out.kept HK2.out)).mono ?_
      rintro e w3 ⟨v3, rfl, hn3, hb3⟩
      have HK3 := Lib.hid (HK2.out.trans (hb3.mono HK2.out.size))
      have HH3 := Lib.hid (HH2.out.kept hb3)
      have HW3 := Lib.hid hn3.own
      clear hn3 hb3 HS HK2 HH2
      go_wp2_with (first | (refine wpList_load_row rfl 26 _ rfl _ rfl 26 _ _ _ ((HM.out.kept HK3.out)) Try.underlying26 rfl (by kernel_rfl) ?_) | fail)
      refine (KI.out _ _ (HT.out.kept HK3.out)).mono ?_
      rintro e w4 ⟨v4, rfl, hn4, hb4⟩
      have HK4 := Lib.hid (HK3.out.trans (hb4.mono HK3.out.size))
      have HH4 := Lib.hid (HH3.out.kept hb4)
      have HW4 := Lib.hid (HW3.out.kept hb4)
      have HS4 := Lib.hid hn4.own
      clear hn4 hb4 KI HK3 HH3 HW3
      go_wp2_with (first | (refine wpList_load_row rfl 26 _ rfl _ rfl 26 _ _ _ ((HM.out.kept HK4.out)) Try.underlying26 rfl (by kernel_rfl) ?_) | fail)
      refine (KS.out _ _ (HT.out.kept HK4.out)).mono ?_
      rintro e w5 ⟨v5, rfl, hn5, hb5⟩
      have HK5 := Lib.hid (HK4.out.trans (hb5.mono HK4.out.size))
      have HH5 := Lib.hid (HH4.out.kept hb5)
      have HW5 := Lib.hid (HW4.out.kept hb5)
      have HS5 := Lib.hid (HS4.out.kept hb5)
      have HT5 := Lib.hid hn5.own
      clear hn5 hb5 KS HK4 HH4 HW4 HS4
      go_wp2_with fail
      refine (sameInts_same _ _ P _ HH5.out HW5.out (by omega)).mono ?_
      rintro e w6 ⟨rfl, d6, hd6⟩
      have hb6 : Below w5.heap.size w5 w6 := by rw [hd6]; exact below_drewN (Below.refl _ _) d6
      have HK6 := Lib.hid (HK5.out.trans (hb6.mono HK5.out.size))
      have HH6 := Lib.hid (HH5.out.kept hb6)
      have HS6 := Lib.hid (HS5.out.kept hb6)
      have HT6 := Lib.hid (HT5.out.kept hb6)
      clear hd6 hb6 HK5 HH5 HW5 HS5 HT5
      go_wp2_with fail
      refine (sameInts_same _ _ Q _ HS6.out HT6.out (by omega)).mono ?_
      rintro e w7 ⟨rfl, d7, hd7⟩
      have hb7 : Below w6.heap.size w6 w7 := by rw [hd7]; exact below_drewN (Below.refl _ _) d7
      have HK7 := Lib.hid (HK6.out.trans (hb7.mono HK6.out.size))
      have HH7 := Lib.hid (HH6.out.kept hb7)
      have HS7 := Lib.hid (HS6.out.kept hb7)
      clear hd7 hb7 HK6 HH6 HS6 HT6
      obtain ⟨k, F, hnk, hk3, hk8, hL1, hL40, hdec, hF, hQP, hlh⟩ := HGOOD.out hg
      subst hnk
      obtain ⟨g, hag⟩ := HAG.out (by omega)
      subst hag
      have HLH := Lib.hid hlh
      have HPX := Lib.hid (HPAL.out hg)
      have HTX := Lib.hid (HTURN.out hg)
      have hstr := isStr_strOf k F (fun i hi => by have := hF i hi; omega)
      obtain ⟨X, hX⟩ : ∃ X, strOf k F = X := ⟨_, rfl⟩
      rw [hX] at HLH hstr
      have HF := Lib.hid hF
      have HDEC := Lib.hid hdec
      have HTURNED := Lib.hid (fun h => turn_at (L := L) h)
      clear hlh HGOOD HPAL HTURN HAG hg hX hF hdec
      go_wp2_with (first | (refine wpList_load_row rfl 26 _ rfl _ rfl 26 _ _ _ ((HM.out.kept HK7.out)) Try.underlying26 rfl (by kernel_rfl) ?_) | fail)
      refine (HLH.out _ _ (HT.out.kept HK7.out)).mono ?_
      rintro e w8 ⟨rfl, hb8⟩
      have HK8 := Lib.hid (HK7.out.trans (hb8.mono HK7.out.size))
      have HH8 := Lib.hid (HH7.out.kept hb8)
      have HS8 := Lib.hid (HS7.out.kept hb8)
      clear hb8 HLH HK7 HH7 HS7
      go_wp2_with fail
      refine (within_yes _ _ Q P _ HS8.out HH8.out (by omega) (by omega) hQP).mono ?_
      rintro e w9 ⟨rfl, rfl⟩
      clear hQP HS8
      have HR8 := Lib.hid (HM.out.kept HK8.out)
      have c1 := HR8.out.cell 1 rfl
      obtain ⟨hsz, hat⟩ := hstr
      subst hsz
      go_wp2_with fail
      go_loopg [16] X.size (fun q bv wr => ∃ t : Nat, t ≤ X.size ∧ t + q = X.size ∧ bv = .int .i64 ((t : Int) + 1) ∧ Below w8.heap.size w8 wr)
      case atStart => exact ⟨0, by omega, by omega, by go_num, Below.refl _ _⟩
      case round =>
        obtain ⟨t, htk, htq, rfl, hbd⟩ := hrel
        have HTQ := Lib.hid htq
        have HBD := Lib.hid hbd
        have HRD := Lib.hid (HR8.out.kept hbd)
        have HHD := Lib.hid (HH8.out.kept hbd)
        clear hbd c1 htq
        have c1 := HRD.out.cell 1 rfl
        by_cases hlt : t < X.size
        · have hti : (t : Int) + 1 ≤ X.size := by omega
          have hft := HF.out t hlt
          have hlo : (49 : Int) ≤ F t := by omega
          have hhi : (F t : Int) < 256 := by omega
          have hdc := HDEC.out (t + 1) (by omega) (by omega)
          have hcast : (((t + 1 : Nat) : Int)) = (t : Int) + 1 := by omega
          rw [hcast, Nat.add_sub_cancel] at hdc
          have hhas : ∀ nn : Nat, Calls Try.prog 41 #[v2, .int .i64 ((t : Int) + 1)] (wr.drewN nn) fun e w' => e = .returned (.bool (decide (((t : Int) + 1) ∈ P))) ∧ w' = wr.drewN nn := fun nn => (has_any v2 P ((t : Int) + 1) (wr.drewN nn) (HHD.out.kept (below_drewN (Below.refl _ _) nn)) (by omega)).mono fun e w' h => ⟨h.1, h.2.symm⟩
          rw [hdc] at hhas
          by_cases hft2 : F t = 48 + (t + 1)
          · rw [decide_eq_true hft2] at hhas
            have HHAS := Lib.hid hhas
            have q1 : ((F t : Int) - 48 == (t : Int) + 1) = true := by rw [beq_iff_eq]; omega
            clear hhas hdc hcast hft hft2
            go_wp2_with fail
            go_quiet ((go_at_call 41; exact Calls.quiet_of_same (HHAS.out _)))
            go_wp2
            go_roundg (X.size - (t + 1))
            case measure => have := HTQ.out; omega
            case rel => exact ⟨t + 1, by omega, by have := HTQ.out; omega, by go_num, below_drewN HBD.out _⟩
          · rw [decide_eq_false hft2] at hhas
            have HHAS := Lib.hid hhas
            have q1 : ((F t : Int) - 48 == (t : Int) + 1) = false := by rw [beq_eq_false_iff_ne]; omega
            clear hhas hdc hcast hft hft2
            go_wp2_with fail
            go_quiet ((go_at_call 41; exact Calls.quiet_of_same (HHAS.out _)))
            go_wp2
            go_roundg (X.size - (t + 1))
            case measure => have := HTQ.out; omega
            case rel => exact ⟨t + 1, by omega, by have := HTQ.out; omega, by go_num, below_drewN HBD.out _⟩
        · obtain rfl : t = X.size := by omega
          have hti : ¬ ((X.size : Int) + 1 ≤ X.size) := by omega
          have HK9 := Lib.hid (HK8.out.trans (HBD.out.mono HK8.out.size))
          clear HK8 HR8 HH8 HHD HF HDEC hat HBD
          go_wp2_with (first | (refine wpList_load_row rfl 26 _ rfl _ rfl 26 _ _ _ ((HM.out.kept HK9.out)) Try.underlying26 rfl (by kernel_rfl) ?_) | fail)
          refine (HPX.out _ _ (HT.out.kept HK9.out)).mono ?_
          rintro e w10 ⟨rfl, hb10⟩
          have HK10 := Lib.hid (HK9.out.trans (hb10.mono HK9.out.size))
          clear hb10 HK9 HPX
          go_wp2_with (first | (refine wpList_load_row rfl 26 _ rfl _ rfl 26 _ _ _ ((HM.out.kept HK10.out)) Try.underlying26 rfl (by kernel_rfl) ?_) | fail)
          refine (HTX.out _ _ (HT.out.kept HK10.out)).mono ?_
          rintro e w11 ⟨v11, rfl, hn11, hb11⟩
          have HK11 := Lib.hid (HK10.out.trans (hb11.mono HK10.out.size))
          obtain ⟨at11, ct11, hvt, ha11⟩ := hn11.own.view
          rw [strs_len, List.length_reverse] at hvt ha11
          subst hvt
          obtain ⟨g11, hag11⟩ := ha11 (by omega)
          subst hag11
          have HO11 := Lib.hid hn11.own
          clear hb11 HK10 HTX hn11 ha11
          obtain ⟨o11, ho11⟩ : ∃ o11, Obj.cells #[.string s, .int .i64 X.size, .slice (some ⟨g11, 0, none⟩) L.length ct11] 26 = o11 := ⟨_, rfl⟩
          have hal := (Below.refl w11.heap.size w11).alloc (Nat.le_refl _) o11
          have HK12 := Lib.hid (HK11.out.trans (hal.mono HK11.out.size))
          have HO12 := Lib.hid (HO11.out.kept hal)
          have HR12 : Hid (RowAt (w11.alloc o11) w11.heap.size 26 #[.string s, .int .i64 X.size, .slice (some ⟨g11, 0, none⟩) L.length ct11]) := Lib.hid (by rw [← ho11]; exact RowAt.new w11 _ _)
          have HM12 := Lib.hid (HM.out.kept HK12.out)
          have HOM12 := Lib.hid (HOM.out.kept HK12.out)
          clear hal HK11 HO11
          subst ho11
          have c2 := HM12.out.cell 2 rfl
          have d2 := HR12.out.cell 2 rfl
          obtain ⟨pb, hpb⟩ : ∃ pb, pairsOk (L.take (L.length - 1)) = pb := ⟨_, rfl⟩
          rw [hpb]
          cases pb
          · clear HOM HOM12 HO12 HTURNED hpb
            go_wp2_with (first | (refine wpList_store_row rfl 26 _ _ rfl _ _ rfl rfl 26 _ (heap_alloc_new _ _) (by kernel_rfl) rfl (by kernel_rfl) ?_; rw [World.setRow_alloc_new]) | fail)
            generalize w11.alloc (.cells #[.string s, .int .i64 X.size, .slice (some ⟨g11, 0, none⟩) L.length ct11] 26) = w12 at *
            clear c2 d2 HM12 HR12
            have HB := Lib.hid (HBA.out.trans (HK12.out.mono HBA.out.size))
            clear HM HT HK12 HBA
            try (go_wp2_with fail)
            refine (DrawLeadHead_any a2 l2 c2 z2 _ (HZ2.out.belowW HB.out) HL2.out).mono ?_
            rintro e y1 ⟨ds, dn, dv, D, rfl, dsz, -, -, dnw, dL, dsm, yb1⟩
            obtain ⟨da, dc, hdv, -⟩ := dnw.own.view
            rw [strs_len] at hdv
            subst hdv
            obtain ⟨dt, db, dhi, dhs⟩ := bothLeadHead ds (by unfold maxLen; omega) dn D (by omega) (small10 dsm)
            have DHI := Lib.hid dhi
            have DHS := Lib.hid dhs
            obtain ⟨o1, ho1⟩ : ∃ o1, Obj.cells #[.string ds, .int .i64 dn, .slice da D.length dc] 26 = o1 := ⟨_, rfl⟩
            have hal := (Below.refl y1.heap.size y1).alloc (Nat.le_refl _) o1
            have DBA := Lib.hid (HB.out.trans ((yb1.trans (hal.mono yb1.size)).mono HB.out.size))
            have DT := Lib.hid (dnw.own.txts.kept hal)
            have DM : Hid (RowAt (y1.alloc o1) y1.heap.size 26 #[.string ds, .int .i64 dn, .slice da D.length dc]) := Lib.hid (by rw [← ho1]; exact RowAt.new y1 _ _)
            clear dnw yb1 hal dsm dhi dhs HB
            subst ho1
            go_wp2_with (first | (refine wpList_store_row rfl 26 _ _ rfl _ _ rfl rfl 26 _ (heap_alloc_new _ _) (by kernel_rfl) rfl (by kernel_rfl) ?_; rw [World.setRow_alloc_new]) | (refine wpList_load_row rfl 26 _ rfl _ rfl 26 _ _ _ ((DM.out)) Try.underlying26 rfl (by kernel_rfl) ?_) | fail)
            generalize y1.alloc (.cells #[.string ds, .int .i64 dn, .slice da D.length dc] 26) = Y at *
            refine (DHI.out _ _ DT.out).mono ?_
            rintro e y2 ⟨rfl, yb2⟩
            have YK2 := Lib.hid yb2
            clear yb2 DHI
            go_wp2_with (first | (refine wpList_load_row rfl 26 _ rfl _ rfl 26 _ _ _ ((DM.out.kept YK2.out)) Try.underlying26 rfl (by kernel_rfl) ?_) | fail)
            refine (DHS.out _ _ (DT.out.kept YK2.out)).mono ?_
            rintro e y3 ⟨rfl, yb3⟩
            have YB3 := Lib.hid (DBA.out.trans ((YK2.out.trans (yb3.mono YK2.out.size)).mono DBA.out.size))
            have hdd : (dt.toList == dt.toList) = true := by simp
            clear yb3 YK2 DHS DT DM DBA
            cases db
            all_goals
              go_wp2
              go_ret
              exact ⟨rfl, YB3.out⟩
          · have HTT := Lib.hid (HTURNED.out hpb)
            clear HOM HTURNED hpb
            go_wp2_with (first | (refine wpList_store_row rfl 26 _ _ rfl _ _ rfl rfl 26 _ (heap_alloc_new _ _) (by kernel_rfl) rfl (by kernel_rfl) ?_; rw [World.setRow_alloc_new]) | fail)
            generalize w11.alloc (.cells #[.string s, .int .i64 X.size, .slice (some ⟨g11, 0, none⟩) L.length ct11] 26) = w12 at *
            obtain ⟨tb, htb⟩ : ∃ tb, w11.heap.size = tb := ⟨_, rfl⟩
            rw [htb] at HR12 d2
            simp only [htb]
            clear htb
            go_loopg [22, 149] L.length (fun q _ iv wr => ∃ t : Nat, t ≤ L.length ∧ t + q = L.length ∧ iv = .int .i64 t ∧ Below w12.heap.size w12 wr)
            case atStart => exact ⟨0, by omega, by omega, by go_num, Below.refl _ _⟩
            case round =>
              obtain ⟨t, htk, htq, rfl, hbd⟩ := hrel
              have HTQ := Lib.hid htq
              have HBD := Lib.hid hbd
              clear hbd htq c2 d2
              have c2 := (HM12.out.kept HBD.out).cell 2 rfl
              by_cases hlt : t < L.length
              · have hti : (t : Int) < L.length := by omega
                have d2 := (HR12.out.kept HBD.out).cell 2 rfl
                obtain ⟨u, hu⟩ : ∃ u, (t + 1) % L.length = u := ⟨_, rfl⟩
                have hul : u < L.length := by rw [← hu]; exact Nat.mod_lt _ (by omega)
                have hui : (u : Int) < L.length := by omega
                have hum : ((t : Int) + 1) % (L.length : Int) = (u : Int) := by rw [← hu]; push_cast; rfl
                have hsame := HTT.out t hlt
                rw [hu] at hsame
                unfold sameT at hsame
                have e1 := (HOM12.out.kept HBD.out).cell t _ (strs_at L t hlt)
                have e2 := (HO12.out.kept HBD.out).cell u _ (strs_at L.reverse u (by rw [List.length_reverse]; exact hul))
                generalize txt (L.getD t []) = S1 at *
                generalize txt (L.reverse.getD u []) = S2 at *
                clear hu
                go_wp2_with fail
                go_quiet (fail)
                go_wp2
                go_roundg (L.length - (t + 1))
                case measure => have := HTQ.out; omega
                case rel => exact ⟨t + 1, by omega, by have := HTQ.out; omega, by go_num, below_drewN HBD.out _⟩
              · obtain rfl : t = L.length := by omega
                have HK13 := Lib.hid (HK12.out.trans (HBD.out.mono HK12.out.size))
                clear HK12 HBD HM12 HR12 HOM12 HO12 c2 HTT
                go_wp2_with fail
                have HB := Lib.hid (HBA.out.trans (HK13.out.mono HBA.out.size))
                clear HM HT HK13 HBA
                try (go_wp2_with fail)
                refine (DrawLeadHead_any a2 l2 c2 z2 _ (HZ2.out.belowW HB.out) HL2.out).mono ?_
                rintro e y1 ⟨ds, dn, dv, D, rfl, dsz, -, -, dnw, dL, dsm, yb1⟩
                obtain ⟨da, dc, hdv, -⟩ := dnw.own.view
                rw [strs_len] at hdv
                subst hdv
                obtain ⟨dt, db, dhi, dhs⟩ := bothLeadHead ds (by unfold maxLen; omega) dn D (by omega) (small10 dsm)
                have DHI := Lib.hid dhi
                have DHS := Lib.hid dhs
                obtain ⟨o1, ho1⟩ : ∃ o1, Obj.cells #[.string ds, .int .i64 dn, .slice da D.length dc] 26 = o1 := ⟨_, rfl⟩
                have hal := (Below.refl y1.heap.size y1).alloc (Nat.le_refl _) o1
                have DBA := Lib.hid (HB.out.trans ((yb1.trans (hal.mono yb1.size)).mono HB.out.size))
                have DT := Lib.hid (dnw.own.txts.kept hal)
                have DM : Hid (RowAt (y1.alloc o1) y1.heap.size 26 #[.string ds, .int .i64 dn, .slice da D.length dc]) := Lib.hid (by rw [← ho1]; exact RowAt.new y1 _ _)
                clear dnw yb1 hal dsm dhi dhs HB
                subst ho1
                go_wp2_with (first | (refine wpList_store_row rfl 26 _ _ rfl _ _ rfl rfl 26 _ (heap_alloc_new _ _) (by kernel_rfl) rfl (by kernel_rfl) ?_; rw [World.setRow_alloc_new]) | (refine wpList_load_row rfl 26 _ rfl _ rfl 26 _ _ _ ((DM.out)) Try.underlying26 rfl (by kernel_rfl) ?_) | fail)
                generalize y1.alloc (.cells #[.string ds, .int .i64 dn, .slice da D.length dc] 26) = Y at *
                refine (DHI.out _ _ DT.out).mono ?_
                rintro e y2 ⟨rfl, yb2⟩
                have YK2 := Lib.hid yb2
                clear yb2 DHI
                go_wp2_with (first | (refine wpList_load_row rfl 26 _ rfl _ rfl 26 _ _ _ ((DM.out.kept YK2.out)) Try.underlying26 rfl (by kernel_rfl) ?_) | fail)
                refine (DHS.out _ _ (DT.out.kept YK2.out)).mono ?_
                rintro e y3 ⟨rfl, yb3⟩
                have YB3 := Lib.hid (DBA.out.trans ((YK2.out.trans (yb3.mono YK2.out.size)).mono DBA.out.size))
                have hdd : (dt.toList == dt.toList) = true := by simp
                clear yb3 YK2 DHS DT DM DBA
                cases db
                all_goals
                  go_wp2
                  go_ret
                  exact ⟨rfl, YB3.out⟩
end Go.Proofs.Ytfocnflnpabmkaa
