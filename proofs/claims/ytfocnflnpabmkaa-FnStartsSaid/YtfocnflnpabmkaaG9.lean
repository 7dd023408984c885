/- The law FnStarts. -/
import Derived.Test.YtfocnflnpabmkaaG8
namespace Go.Proofs.Ytfocnflnpabmkaa
open Go.RowKit
set_option linter.unusedSimpArgs false
set_option linter.unusedVariables false

theorem sameB_self (s : ByteArray) (n : Int) (L : List (List Nat)) : sameB s s n n L L = true := by
  unfold sameB
  rw [sameLs_yes rfl (fun t _ => sameT_self _)]
  simp

set_option maxRecDepth 100000 in
set_option maxHeartbeats 32000000 in
theorem lawStarts (a1 : Option Addr) (l1 c1 : Nat) (z1 : List Int) (a2' : Option Addr) (l2 c2' : Nat) (z2 : List Int) (w : World) (hz1 : IsBytes w a1 l1 c1 z1) (hz2 : IsBytes w a2' l2 c2' z2) :
    Calls Try.prog 3 #[.slice a1 l1 c1, .slice a2' l2 c2'] w fun e w' => e = .returned (.bool true) ∧ Below w.heap.size w w' := by
  have HZ1 := Lib.hid hz1
  have HZ2 := Lib.hid hz2
  clear hz1 hz2
  go_enter Try.func3, Try.ntmps3
  go_wp2_with fail
  refine (big_any a1 a2' l1 l2 c1 c2' HZ1.out.lenW HZ2.out.lenW _).mono ?_
  rintro e w0 ⟨rfl, rfl⟩
  by_cases hbig : 1048576 < l1 + l2
  · rw [decide_eq_true hbig]
    go_wp2
    go_ret
    exact ⟨rfl, Below.refl _ _⟩
  · rw [decide_eq_false hbig]
    have HL1 := Lib.hid (show l1 ≤ 1048576 by omega)
    have HL2 := Lib.hid (show l2 ≤ 1048576 by omega)
    clear hbig
    go_wp2_with fail
    refine (DrawStartAt_any a1 l1 c1 z1 _ HZ1.out HL1.out).mono ?_
    rintro e w1 ⟨s, n, v, L, r, rfl, hsz, hn2, hn9, hn, hL, hs, hb1⟩
    have hsmx : s.size ≤ maxLen := by unfold maxLen; omega
    obtain ⟨sp, np, P, hPL, hi, hsp, hfact⟩ := startFacts s hsmx n L (by omega) (small10s hs) r
    have HI := Lib.hid hi
    have HS := Lib.hid hsp
    have HFACT := Lib.hid hfact
    unfold MethAny at HI HS
    obtain ⟨a, cap, hv, -⟩ := hn.own.view
    rw [strs_len] at hv
    subst hv
    obtain ⟨o1, ho1⟩ : ∃ o1, Obj.cells #[.string s, .int .i64 n, .slice a L.length cap] 26 = o1 := ⟨_, rfl⟩
    have hal := (Below.refl w1.heap.size w1).alloc (Nat.le_refl _) o1
    have HBA : Hid (Below w.heap.size w (w1.alloc o1)) := Lib.hid (hb1.trans (hal.mono hb1.size))
    have HT := Lib.hid (hn.own.txts.kept hal)
    have HM : Hid (RowAt (w1.alloc o1) w1.heap.size 26 #[.string s, .int .i64 n, .slice a L.length cap]) := Lib.hid (by rw [← ho1]; exact RowAt.new w1 _ _)
    clear hn hb1 hal hs hsz hi hsp hfact hsmx hn2 hn9 HZ1 HL1
    subst ho1
    cases hg : startB s n L r
    · skip
      rw [hg] at HI HS
      go_wp2_with (first | (refine wpList_store_row rfl 26 _ _ rfl _ _ rfl rfl 26 _ (heap_alloc_new _ _) (by kernel_rfl) rfl (by kernel_rfl) ?_; rw [World.setRow_alloc_new]) | (refine wpList_load_row rfl 26 _ rfl _ rfl 26 _ _ _ ((HM.out)) Try.underlying26 rfl (by kernel_rfl) ?_) | fail)
      generalize w1.alloc (.cells #[.string s, .int .i64 n, .slice a L.length cap] 26) = A at *
      obtain ⟨mb, hmb⟩ : ∃ b, w1.heap.size = b := ⟨_, rfl⟩
      rw [hmb] at HM
      simp only [hmb]
      clear hmb
      refine (HI.out _ _ HT.out).mono ?_
      rintro e w2 ⟨v2, rfl, hn2, hb2⟩
      have HM2 := Lib.hid (HM.out.kept hb2)
      have HT2 := Lib.hid (HT.out.kept hb2)
      have HB2 := Lib.hid (HBA.out.trans (hb2.mono HBA.out.size))
      obtain ⟨a2, k2, hv2, -⟩ := hn2.own.view
      rw [strs_len] at hv2
      subst hv2
      have HP2 := Lib.hid hn2.own.txts
      clear HM HT HBA hb2 hn2 HI
      obtain ⟨o2, ho2⟩ : ∃ o, Obj.cells #[.string sp, .int .i64 np, .slice a2 P.length k2] 26 = o := ⟨_, rfl⟩
      have hal2 := (Below.refl w2.heap.size w2).alloc (Nat.le_refl _) o2
      have HM3 := Lib.hid (HM2.out.kept hal2)
      have HT3 := Lib.hid (HT2.out.kept hal2)
      have HP3 := Lib.hid (HP2.out.kept hal2)
      have HB3 := Lib.hid (HB2.out.trans (hal2.mono HB2.out.size))
      have HR3 : Hid (RowAt (w2.alloc o2) w2.heap.size 26 #[.string sp, .int .i64 np, .slice a2 P.length k2]) := Lib.hid (by rw [← ho2]; exact RowAt.new w2 _ _)
      clear hal2 HM2 HT2 HP2 HB2
      subst ho2
      go_wp2_with (first | (refine wpList_store_row rfl 26 _ _ rfl _ _ rfl rfl 26 _ (heap_alloc_new _ _) (by kernel_rfl) rfl (by kernel_rfl) ?_; rw [World.setRow_alloc_new]) | (refine wpList_load_row rfl 26 _ rfl _ rfl 26 _ _ _ ((HM3.out)) Try.underlying26 rfl (by kernel_rfl) ?_) | fail)
      generalize w2.alloc (.cells #[.string sp, .int .i64 np, .slice a2 P.length k2] 26) = A2 at *
      obtain ⟨sb, hsb⟩ : ∃ b, w2.heap.size = b := ⟨_, rfl⟩
      rw [hsb] at HR3
      simp only [hsb]
      clear hsb
      refine (HS.out _ _ HT3.out).mono ?_
      rintro e w3 ⟨v3, rfl, hn3, hb3⟩
      have HM4 := Lib.hid (HM3.out.kept hb3)
      have HT4 := Lib.hid (HT3.out.kept hb3)
      have HP4 := Lib.hid (HP3.out.kept hb3)
      have HR4 := Lib.hid (HR3.out.kept hb3)
      have HB4 := Lib.hid (HB3.out.trans (hb3.mono HB3.out.size))
      obtain ⟨a3, k3, hv3, -⟩ := hn3.own.view
      rw [strs_len] at hv3
      subst hv3
      have HQ4 := Lib.hid hn3.own.txts
      clear HM3 HT3 HP3 HR3 HB3 hb3 hn3 HS
      obtain ⟨o3, ho3⟩ : ∃ o, Obj.cells #[.string sp, .int .i64 np, .slice a3 P.length k3] 26 = o := ⟨_, rfl⟩
      have hal3 := (Below.refl w3.heap.size w3).alloc (Nat.le_refl _) o3
      have HM5 := Lib.hid (HM4.out.kept hal3)
      have HT5 := Lib.hid (HT4.out.kept hal3)
      have HP5 := Lib.hid (HP4.out.kept hal3)
      have HR5 := Lib.hid (HR4.out.kept hal3)
      have HQ5 := Lib.hid (HQ4.out.kept hal3)
      have HB5 := Lib.hid (HB4.out.trans (hal3.mono HB4.out.size))
      have HW5 : Hid (RowAt (w3.alloc o3) w3.heap.size 26 #[.string sp, .int .i64 np, .slice a3 P.length k3]) := Lib.hid (by rw [← ho3]; exact RowAt.new w3 _ _)
      clear hal3 HM4 HT4 HP4 HR4 HQ4 HB4
      subst ho3
      have c0 := HR5.out.cell 0 rfl
      have c1 := HR5.out.cell 1 rfl
      have c2 := HR5.out.cell 2 rfl
      have d0 := HW5.out.cell 0 rfl
      have d1 := HW5.out.cell 1 rfl
      have d2 := HW5.out.cell 2 rfl
      go_wp2_with (first | (refine wpList_store_row rfl 26 _ _ rfl _ _ rfl rfl 26 _ (heap_alloc_new _ _) (by kernel_rfl) rfl (by kernel_rfl) ?_; rw [World.setRow_alloc_new]) | fail)
      clear c0 c1 c2 d0 d1 d2
      generalize w3.alloc (.cells #[.string sp, .int .i64 np, .slice a3 P.length k3] 26) = A3 at *
      obtain ⟨wb, hwb⟩ : ∃ b, w3.heap.size = b := ⟨_, rfl⟩
      rw [hwb] at HW5
      simp only [hwb]
      clear hwb
      refine (sSameMethod_any sp sp np np _ _ P P _ HP5.out HQ5.out (by omega) (by omega)).mono ?_
      rintro e w6 ⟨rfl, hb6⟩
      rw [sameB_self]
      have HM6 := Lib.hid (HM5.out.kept hb6)
      have HT6 := Lib.hid (HT5.out.kept hb6)
      have HP6 := Lib.hid (HP5.out.kept hb6)
      have HR6 := Lib.hid (HR5.out.kept hb6)
      have HB6 := Lib.hid (HB5.out.trans (hb6.mono HB5.out.size))
      clear HM5 HT5 HP5 HR5 HQ5 HW5 HB5 hb6
      have HB := HB6
      clear HM6 HT6 HP6 HR6 HB6 HFACT
      try (go_wp2_with fail)
      refine (DrawTurnMethod_any a2' l2 c2' z2 _ (HZ2.out.belowW HB.out) HL2.out).mono ?_
      rintro e y1 ⟨ds, dn, dv, D, rfl, dsz, -, -, dnw, dL, dsm, yb1⟩
      obtain ⟨da, dc, hdv, -⟩ := dnw.own.view
      rw [strs_len] at hdv
      subst hdv
      obtain ⟨ts, tn, U, tb, hU, dti, dts⟩ := bothTurnMethod ds (by unfold maxLen; omega) dn D (by omega) (small10s dsm)
      obtain ⟨pr, pb, dpi, dps⟩ := bothIsPalindrome ds (by unfold maxLen; omega) dn D (by omega) (small10s dsm)
      have DTI := Lib.hid dti
      have DTS := Lib.hid dts
      have DPI := Lib.hid dpi
      have DPS := Lib.hid dps
      unfold MethAny at DTI DTS
      have YB1 := Lib.hid (HB.out.trans (yb1.mono HB.out.size))
      have DT1 := Lib.hid dnw.own.txts
      clear dnw yb1 dsm dti dts dpi dps HB
      obtain ⟨o5, ho5⟩ : ∃ o, Obj.cells #[.string ds, .int .i64 dn, .slice da D.length dc] 26 = o := ⟨_, rfl⟩
      have hal5 := (Below.refl y1.heap.size y1).alloc (Nat.le_refl _) o5
      have DT2 := Lib.hid (DT1.out.kept hal5)
      have YB2 := Lib.hid (YB1.out.trans (hal5.mono YB1.out.size))
      have DM2 : Hid (RowAt (y1.alloc o5) y1.heap.size 26 #[.string ds, .int .i64 dn, .slice da D.length dc]) := Lib.hid (by rw [← ho5]; exact RowAt.new y1 _ _)
      clear hal5 DT1 YB1
      subst ho5
      go_wp2_with (first | (refine wpList_store_row rfl 26 _ _ rfl _ _ rfl rfl 26 _ (heap_alloc_new _ _) (by kernel_rfl) rfl (by kernel_rfl) ?_; rw [World.setRow_alloc_new]) | (refine wpList_load_row rfl 26 _ rfl _ rfl 26 _ _ _ ((DM2.out)) Try.underlying26 rfl (by kernel_rfl) ?_) | fail)
      generalize y1.alloc (.cells #[.string ds, .int .i64 dn, .slice da D.length dc] 26) = Y1 at *
      obtain ⟨db, hdb⟩ : ∃ b, y1.heap.size = b := ⟨_, rfl⟩
      rw [hdb] at DM2
      simp only [hdb]
      clear hdb
      refine (DTI.out _ _ DT2.out).mono ?_
      rintro e y2 ⟨v4, rfl, hn4, hb4⟩
      have DM3 := Lib.hid (DM2.out.kept hb4)
      have DT3 := Lib.hid (DT2.out.kept hb4)
      have YB3 := Lib.hid (YB2.out.trans (hb4.mono YB2.out.size))
      obtain ⟨a4, k4, hv4, -⟩ := hn4.own.view
      rw [strs_len] at hv4
      subst hv4
      have EP3 := Lib.hid hn4.own.txts
      clear DM2 DT2 YB2 hb4 hn4 DTI
      obtain ⟨o6, ho6⟩ : ∃ o, Obj.cells #[.string ts, .int .i64 tn, .slice a4 U.length k4] 26 = o := ⟨_, rfl⟩
      have hal6 := (Below.refl y2.heap.size y2).alloc (Nat.le_refl _) o6
      have DM4 := Lib.hid (DM3.out.kept hal6)
      have DT4 := Lib.hid (DT3.out.kept hal6)
      have EP4 := Lib.hid (EP3.out.kept hal6)
      have YB4 := Lib.hid (YB3.out.trans (hal6.mono YB3.out.size))
      have ER4 : Hid (RowAt (y2.alloc o6) y2.heap.size 26 #[.string ts, .int .i64 tn, .slice a4 U.length k4]) := Lib.hid (by rw [← ho6]; exact RowAt.new y2 _ _)
      clear hal6 DM3 DT3 EP3 YB3
      subst ho6
      go_wp2_with (first | (refine wpList_store_row rfl 26 _ _ rfl _ _ rfl rfl 26 _ (heap_alloc_new _ _) (by kernel_rfl) rfl (by kernel_rfl) ?_; rw [World.setRow_alloc_new]) | (refine wpList_load_row rfl 26 _ rfl _ rfl 26 _ _ _ ((DM4.out)) Try.underlying26 rfl (by kernel_rfl) ?_) | fail)
      generalize y2.alloc (.cells #[.string ts, .int .i64 tn, .slice a4 U.length k4] 26) = Y2 at *
      obtain ⟨eb, heb⟩ : ∃ b, y2.heap.size = b := ⟨_, rfl⟩
      rw [heb] at ER4
      simp only [heb]
      clear heb
      refine (DTS.out _ _ DT4.out).mono ?_
      rintro e y3 ⟨v5, rfl, hn5, hb5⟩
      have DM5 := Lib.hid (DM4.out.kept hb5)
      have DT5 := Lib.hid (DT4.out.kept hb5)
      have EP5 := Lib.hid (EP4.out.kept hb5)
      have ER5 := Lib.hid (ER4.out.kept hb5)
      have YB5 := Lib.hid (YB4.out.trans (hb5.mono YB4.out.size))
      obtain ⟨a5, k5, hv5, -⟩ := hn5.own.view
      rw [strs_len] at hv5
      subst hv5
      have FP5 := Lib.hid hn5.own.txts
      clear DM4 DT4 EP4 ER4 YB4 hb5 hn5 DTS
      obtain ⟨o7, ho7⟩ : ∃ o, Obj.cells #[.string ts, .int .i64 tn, .slice a5 U.length k5] 26 = o := ⟨_, rfl⟩
      have hal7 := (Below.refl y3.heap.size y3).alloc (Nat.le_refl _) o7
      have DM6 := Lib.hid (DM5.out.kept hal7)
      have DT6 := Lib.hid (DT5.out.kept hal7)
      have EP6 := Lib.hid (EP5.out.kept hal7)
      have ER6 := Lib.hid (ER5.out.kept hal7)
      have FP6 := Lib.hid (FP5.out.kept hal7)
      have YB6 := Lib.hid (YB5.out.trans (hal7.mono YB5.out.size))
      have FR6 : Hid (RowAt (y3.alloc o7) y3.heap.size 26 #[.string ts, .int .i64 tn, .slice a5 U.length k5]) := Lib.hid (by rw [← ho7]; exact RowAt.new y3 _ _)
      clear hal7 DM5 DT5 EP5 ER5 FP5 YB5
      subst ho7
      go_wp2_with (first | (refine wpList_store_row rfl 26 _ _ rfl _ _ rfl rfl 26 _ (heap_alloc_new _ _) (by kernel_rfl) rfl (by kernel_rfl) ?_; rw [World.setRow_alloc_new]) | (refine wpList_load_row rfl 26 _ rfl _ rfl 26 _ _ _ ((DM6.out)) Try.underlying26 rfl (by kernel_rfl) ?_) | fail)
      generalize y3.alloc (.cells #[.string ts, .int .i64 tn, .slice a5 U.length k5] 26) = Y3 at *
      obtain ⟨fb, hfb⟩ : ∃ b, y3.heap.size = b := ⟨_, rfl⟩
      rw [hfb] at FR6
      simp only [hfb]
      clear hfb
      refine (DPI.out _ _ DT6.out).mono ?_
      rintro e y4 ⟨rfl, hb7⟩
      have DM7 := Lib.hid (DM6.out.kept hb7)
      have DT7 := Lib.hid (DT6.out.kept hb7)
      have EP7 := Lib.hid (EP6.out.kept hb7)
      have ER7 := Lib.hid (ER6.out.kept hb7)
      have FP7 := Lib.hid (FP6.out.kept hb7)
      have FR7 := Lib.hid (FR6.out.kept hb7)
      have YB7 := Lib.hid (YB6.out.trans (hb7.mono YB6.out.size))
      clear DM6 DT6 EP6 ER6 FP6 FR6 YB6 hb7 DPI
      go_wp2_with (first | (refine wpList_load_row rfl 26 _ rfl _ rfl 26 _ _ _ ((DM7.out)) Try.underlying26 rfl (by kernel_rfl) ?_) | fail)
      refine (DPS.out _ _ DT7.out).mono ?_
      rintro e y5 ⟨rfl, hb8⟩
      have EP8 := Lib.hid (EP7.out.kept hb8)
      have ER8 := Lib.hid (ER7.out.kept hb8)
      have FP8 := Lib.hid (FP7.out.kept hb8)
      have FR8 := Lib.hid (FR7.out.kept hb8)
      have YB8 := Lib.hid (YB7.out.trans (hb8.mono YB7.out.size))
      clear DM7 DT7 EP7 ER7 FP7 FR7 YB7 hb8 DPS
      go_wp2_with fail
      refine (DrawSameMethod_any a2' l2 c2' z2 _ (HZ2.out.belowW YB8.out) HL2.out).mono ?_
      rintro e y6 ⟨xs, ys, xn, xv, yv, XL, YL, rfl, hnx, hny, hXL, hYL, hb9⟩
      have EP9 := Lib.hid (EP8.out.kept hb9)
      have ER9 := Lib.hid (ER8.out.kept hb9)
      have FP9 := Lib.hid (FP8.out.kept hb9)
      have FR9 := Lib.hid (FR8.out.kept hb9)
      have YB9 := Lib.hid (YB8.out.trans (hb9.mono YB8.out.size))
      obtain ⟨xa, xc, hxv, -⟩ := hnx.own.view
      rw [strs_len] at hxv
      subst hxv
      obtain ⟨ya, yc, hyv, -⟩ := hny.own.view
      rw [strs_len] at hyv
      subst hyv
      have XP9 := Lib.hid hnx.own.txts
      have YP9 := Lib.hid hny.own.txts
      clear EP8 ER8 FP8 FR8 YB8 hb9 hnx hny
      obtain ⟨oz, hoz⟩ : ∃ o, Obj.cells #[.string ⟨#[]⟩, .int .i64 0, .slice none 0 0] 26 = o := ⟨_, rfl⟩
      have hz1 : RowAt (y6.alloc oz) y6.heap.size 26 #[.string ⟨#[]⟩, .int .i64 0, .slice none 0 0] := by rw [← hoz]; exact RowAt.new y6 _ _
      have hz2 : RowAt ((y6.alloc oz).alloc oz) (y6.heap.size + 1) 26 #[.string ⟨#[]⟩, .int .i64 0, .slice none 0 0] := by
        have := RowAt.new (y6.alloc oz) 26 #[.string ⟨#[]⟩, .int .i64 0, .slice none 0 0]
        rw [hoz] at this
        simpa using this
      have HZA := Lib.hid (hz1.push oz)
      have HZB := Lib.hid (hz2.rowOther (c := y6.heap.size) #[.string xs, .int .i64 xn, .slice xa XL.length xc] (by omega))
      have halz := ((Below.refl y6.heap.size y6).alloc (Nat.le_refl _) oz).alloc (by simp) oz
      have hbz := below_setRow (g := y6.heap.size + 1) (below_setRow (g := y6.heap.size) halz (Nat.le_refl _) #[.string xs, .int .i64 xn, .slice xa XL.length xc]) (by omega) #[.string ys, .int .i64 xn, .slice ya YL.length yc]
      have HXR := Lib.hid ((HZA.out.row #[.string xs, .int .i64 xn, .slice xa XL.length xc]).rowOther (c := y6.heap.size + 1) #[.string ys, .int .i64 xn, .slice ya YL.length yc] (by omega))
      have HYR := Lib.hid (HZB.out.row #[.string ys, .int .i64 xn, .slice ya YL.length yc])
      have EP10 := Lib.hid (EP9.out.kept hbz)
      have ER10 := Lib.hid (ER9.out.kept hbz)
      have FP10 := Lib.hid (FP9.out.kept hbz)
      have FR10 := Lib.hid (FR9.out.kept hbz)
      have XP10 := Lib.hid (XP9.out.kept hbz)
      have YP10 := Lib.hid (YP9.out.kept hbz)
      have YB10 := Lib.hid (YB9.out.trans (hbz.mono YB9.out.size))
      clear hz1 hz2 halz hbz EP9 ER9 FP9 FR9 XP9 YP9 YB9
      subst hoz
      go_wp2_with (first | (refine wpList_store_row rfl 26 _ _ rfl _ _ rfl rfl 26 _ (HZA.out) (by kernel_rfl) rfl (by kernel_rfl) ?_) | (refine wpList_store_row rfl 26 _ _ rfl _ _ rfl rfl 26 _ (HZB.out) (by kernel_rfl) rfl (by kernel_rfl) ?_) | fail)
      clear HZA HZB
      generalize (((y6.alloc (.cells #[.string ⟨#[]⟩, .int .i64 0, .slice none 0 0] 26)).alloc (.cells #[.string ⟨#[]⟩, .int .i64 0, .slice none 0 0] 26)).setRow y6.heap.size #[.string xs, .int .i64 xn, .slice xa XL.length xc]).setRow (y6.heap.size + 1) #[.string ys, .int .i64 xn, .slice ya YL.length yc] = W0 at *
      obtain ⟨xb, hxb⟩ : ∃ b, y6.heap.size = b := ⟨_, rfl⟩
      rw [hxb] at HXR HYR
      simp only [hxb]
      clear hxb
      obtain ⟨yb, hyb⟩ : ∃ b, xb + 1 = b := ⟨_, rfl⟩
      rw [hyb] at HYR
      simp only [hyb]
      clear hyb
      have l1 := ER10.out.lt
      have l2 := FR10.out.lt
      have l3 := HXR.out.lt
      have l4 := HYR.out.lt
      have HSW : Hid (∀ W', Below W0.heap.size W0 W' → (W'.cell? ⟨eb, 0, none⟩ = some (.string ts) ∧ W'.cell? ⟨eb, 1, none⟩ = some (.int .i64 tn) ∧ W'.cell? ⟨eb, 2, none⟩ = some (.slice a4 U.length k4) ∧ W'.cell? ⟨fb, 0, none⟩ = some (.string ts) ∧ W'.cell? ⟨fb, 1, none⟩ = some (.int .i64 tn) ∧ W'.cell? ⟨fb, 2, none⟩ = some (.slice a5 U.length k5) ∧ W'.cell? ⟨xb, 0, none⟩ = some (.string xs) ∧ W'.cell? ⟨xb, 1, none⟩ = some (.int .i64 xn) ∧ W'.cell? ⟨xb, 2, none⟩ = some (.slice xa XL.length xc) ∧ W'.cell? ⟨yb, 0, none⟩ = some (.string ys) ∧ W'.cell? ⟨yb, 1, none⟩ = some (.int .i64 xn) ∧ W'.cell? ⟨yb, 2, none⟩ = some (.slice ya YL.length yc) ∧ Below W0.heap.size W0 W')) := Lib.hid (fun W' h => by
        have x1 := ER10.out.keep h l1
        have x2 := FR10.out.keep h l2
        have x3 := HXR.out.keep h l3
        have x4 := HYR.out.keep h l4
        exact ⟨x1.cell 0 rfl, x1.cell 1 rfl, x1.cell 2 rfl, x2.cell 0 rfl, x2.cell 1 rfl, x2.cell 2 rfl, x3.cell 0 rfl, x3.cell 1 rfl, x3.cell 2 rfl, x4.cell 0 rfl, x4.cell 1 rfl, x4.cell 2 rfl, h⟩)
      obtain ⟨res, hres⟩ : ∃ res, sameB xs ys xn xn XL YL = res := ⟨_, rfl⟩
      have C1 : Hid (∀ W', Below W0.heap.size W0 W' → Calls Try.prog 20 #[.agg #[.string ts, .int .i64 tn, .slice a4 U.length k4], .agg #[.string ts, .int .i64 tn, .slice a5 U.length k5]] W' fun e w' => e = .returned (.bool true) ∧ Below W0.heap.size W0 w') := Lib.hid (fun W' h => (sSameMethod_any ts ts tn tn _ _ U U W' (EP10.out.kept h) (FP10.out.kept h) (by omega) (by omega)).mono fun e w' hw => ⟨by rw [hw.1, sameB_self], h.trans (hw.2.mono h.size)⟩)
      have C2 : Hid (∀ W', Below W0.heap.size W0 W' → Calls Try.prog 33 #[.agg #[.string xs, .int .i64 xn, .slice xa XL.length xc], .agg #[.string ys, .int .i64 xn, .slice ya YL.length yc]] W' fun e w' => e = .returned (.bool res) ∧ Below W0.heap.size W0 w') := Lib.hid (fun W' h => (iSameMethod_any xs ys xn xn _ _ XL YL W' (XP10.out.kept h) (YP10.out.kept h) (by omega) (by omega)).mono fun e w' hw => ⟨by rw [hw.1, hres], h.trans (hw.2.mono h.size)⟩)
      have C3 : Hid (∀ W', Below W0.heap.size W0 W' → Calls Try.prog 20 #[.agg #[.string xs, .int .i64 xn, .slice xa XL.length xc], .agg #[.string ys, .int .i64 xn, .slice ya YL.length yc]] W' fun e w' => e = .returned (.bool res) ∧ Below W0.heap.size W0 w') := Lib.hid (fun W' h => (sSameMethod_any xs ys xn xn _ _ XL YL W' (XP10.out.kept h) (YP10.out.kept h) (by omega) (by omega)).mono fun e w' hw => ⟨by rw [hw.1, hres], h.trans (hw.2.mono h.size)⟩)
      clear hres l1 l2 l3 l4 EP10 ER10 FP10 FR10 XP10 YP10 HXR HYR
      have etb : (tb == tb) = true := by simp
      have epb : (pb == pb) = true := by simp
      have epr : (pr == pr) = true := by simp
      have ere : (res == res) = true := by simp
      all_goals
        go_region_held3 (fun W' => W'.cell? ⟨eb, 0, none⟩ = some (.string ts) ∧ W'.cell? ⟨eb, 1, none⟩ = some (.int .i64 tn) ∧ W'.cell? ⟨eb, 2, none⟩ = some (.slice a4 U.length k4) ∧ W'.cell? ⟨fb, 0, none⟩ = some (.string ts) ∧ W'.cell? ⟨fb, 1, none⟩ = some (.int .i64 tn) ∧ W'.cell? ⟨fb, 2, none⟩ = some (.slice a5 U.length k5) ∧ W'.cell? ⟨xb, 0, none⟩ = some (.string xs) ∧ W'.cell? ⟨xb, 1, none⟩ = some (.int .i64 xn) ∧ W'.cell? ⟨xb, 2, none⟩ = some (.slice xa XL.length xc) ∧ W'.cell? ⟨yb, 0, none⟩ = some (.string ys) ∧ W'.cell? ⟨yb, 1, none⟩ = some (.int .i64 xn) ∧ W'.cell? ⟨yb, 2, none⟩ = some (.slice ya YL.length yc) ∧ Below W0.heap.size W0 W') (first | assumption | exact HSW.out _ (Below.refl _ _).drew) (first
          | (have q3 := hb2; go_at_call 20; refine (C3.out _ hb2).mono ?_; rintro e3 x3 ⟨rfl, hb3⟩; have hS3 := HSW.out _ hb3)
          | (go_at_call 20; refine (C1.out _ (Below.refl _ _).drew).mono ?_; rintro e1 x1 ⟨rfl, hb1⟩; have hS1 := HSW.out _ hb1)
          | (go_at_call 33; refine (C2.out _ hb1).mono ?_; rintro e2 x2 ⟨rfl, hb2⟩; have hS2 := HSW.out _ hb2)
          | fail)
        go_wp2
        go_ret
        exact ⟨rfl, YB10.out.trans (hb3.mono YB10.out.size)⟩
    · skip
      rw [hg] at HI HS
      go_wp2_with (first | (refine wpList_store_row rfl 26 _ _ rfl _ _ rfl rfl 26 _ (heap_alloc_new _ _) (by kernel_rfl) rfl (by kernel_rfl) ?_; rw [World.setRow_alloc_new]) | (refine wpList_load_row rfl 26 _ rfl _ rfl 26 _ _ _ ((HM.out)) Try.underlying26 rfl (by kernel_rfl) ?_) | fail)
      generalize w1.alloc (.cells #[.string s, .int .i64 n, .slice a L.length cap] 26) = A at *
      obtain ⟨mb, hmb⟩ : ∃ b, w1.heap.size = b := ⟨_, rfl⟩
      rw [hmb] at HM
      simp only [hmb]
      clear hmb
      refine (HI.out _ _ HT.out).mono ?_
      rintro e w2 ⟨v2, rfl, hn2, hb2⟩
      have HM2 := Lib.hid (HM.out.kept hb2)
      have HT2 := Lib.hid (HT.out.kept hb2)
      have HB2 := Lib.hid (HBA.out.trans (hb2.mono HBA.out.size))
      obtain ⟨a2, k2, hv2, -⟩ := hn2.own.view
      rw [strs_len] at hv2
      subst hv2
      have HP2 := Lib.hid hn2.own.txts
      clear HM HT HBA hb2 hn2 HI
      obtain ⟨o2, ho2⟩ : ∃ o, Obj.cells #[.string sp, .int .i64 np, .slice a2 P.length k2] 26 = o := ⟨_, rfl⟩
      have hal2 := (Below.refl w2.heap.size w2).alloc (Nat.le_refl _) o2
      have HM3 := Lib.hid (HM2.out.kept hal2)
      have HT3 := Lib.hid (HT2.out.kept hal2)
      have HP3 := Lib.hid (HP2.out.kept hal2)
      have HB3 := Lib.hid (HB2.out.trans (hal2.mono HB2.out.size))
      have HR3 : Hid (RowAt (w2.alloc o2) w2.heap.size 26 #[.string sp, .int .i64 np, .slice a2 P.length k2]) := Lib.hid (by rw [← ho2]; exact RowAt.new w2 _ _)
      clear hal2 HM2 HT2 HP2 HB2
      subst ho2
      go_wp2_with (first | (refine wpList_store_row rfl 26 _ _ rfl _ _ rfl rfl 26 _ (heap_alloc_new _ _) (by kernel_rfl) rfl (by kernel_rfl) ?_; rw [World.setRow_alloc_new]) | (refine wpList_load_row rfl 26 _ rfl _ rfl 26 _ _ _ ((HM3.out)) Try.underlying26 rfl (by kernel_rfl) ?_) | fail)
      generalize w2.alloc (.cells #[.string sp, .int .i64 np, .slice a2 P.length k2] 26) = A2 at *
      obtain ⟨sb, hsb⟩ : ∃ b, w2.heap.size = b := ⟨_, rfl⟩
      rw [hsb] at HR3
      simp only [hsb]
      clear hsb
      refine (HS.out _ _ HT3.out).mono ?_
      rintro e w3 ⟨v3, rfl, hn3, hb3⟩
      have HM4 := Lib.hid (HM3.out.kept hb3)
      have HT4 := Lib.hid (HT3.out.kept hb3)
      have HP4 := Lib.hid (HP3.out.kept hb3)
      have HR4 := Lib.hid (HR3.out.kept hb3)
      have HB4 := Lib.hid (HB3.out.trans (hb3.mono HB3.out.size))
      obtain ⟨a3, k3, hv3, -⟩ := hn3.own.view
      rw [strs_len] at hv3
      subst hv3
      have HQ4 := Lib.hid hn3.own.txts
      clear HM3 HT3 HP3 HR3 HB3 hb3 hn3 HS
      obtain ⟨o3, ho3⟩ : ∃ o, Obj.cells #[.string sp, .int .i64 np, .slice a3 P.length k3] 26 = o := ⟨_, rfl⟩
      have hal3 := (Below.refl w3.heap.size w3).alloc (Nat.le_refl _) o3
      have HM5 := Lib.hid (HM4.out.kept hal3)
      have HT5 := Lib.hid (HT4.out.kept hal3)
      have HP5 := Lib.hid (HP4.out.kept hal3)
      have HR5 := Lib.hid (HR4.out.kept hal3)
      have HQ5 := Lib.hid (HQ4.out.kept hal3)
      have HB5 := Lib.hid (HB4.out.trans (hal3.mono HB4.out.size))
      have HW5 : Hid (RowAt (w3.alloc o3) w3.heap.size 26 #[.string sp, .int .i64 np, .slice a3 P.length k3]) := Lib.hid (by rw [← ho3]; exact RowAt.new w3 _ _)
      clear hal3 HM4 HT4 HP4 HR4 HQ4 HB4
      subst ho3
      have c0 := HR5.out.cell 0 rfl
      have c1 := HR5.out.cell 1 rfl
      have c2 := HR5.out.cell 2 rfl
      have d0 := HW5.out.cell 0 rfl
      have d1 := HW5.out.cell 1 rfl
      have d2 := HW5.out.cell 2 rfl
      go_wp2_with (first | (refine wpList_store_row rfl 26 _ _ rfl _ _ rfl rfl 26 _ (heap_alloc_new _ _) (by kernel_rfl) rfl (by kernel_rfl) ?_; rw [World.setRow_alloc_new]) | fail)
      clear c0 c1 c2 d0 d1 d2
      generalize w3.alloc (.cells #[.string sp, .int .i64 np, .slice a3 P.length k3] 26) = A3 at *
      obtain ⟨wb, hwb⟩ : ∃ b, w3.heap.size = b := ⟨_, rfl⟩
      rw [hwb] at HW5
      simp only [hwb]
      clear hwb
      refine (sSameMethod_any sp sp np np _ _ P P _ HP5.out HQ5.out (by omega) (by omega)).mono ?_
      rintro e w6 ⟨rfl, hb6⟩
      rw [sameB_self]
      have HM6 := Lib.hid (HM5.out.kept hb6)
      have HT6 := Lib.hid (HT5.out.kept hb6)
      have HP6 := Lib.hid (HP5.out.kept hb6)
      have HR6 := Lib.hid (HR5.out.kept hb6)
      have HB6 := Lib.hid (HB5.out.trans (hb6.mono HB5.out.size))
      clear HM5 HT5 HP5 HR5 HQ5 HW5 HB5 hb6
      obtain ⟨q, k, o, H, G, R, C, T, X, rl, F⟩ := HFACT.out hg
      obtain ⟨hq, hk, hlt, hlen, hrl, hat, fhead, fhead', frounds, frows, fturn, ftimes, ftimes', fleads, fleads'⟩ := F
      subst hq
      subst hk
      have F1 := Lib.hid fhead
      have F2 := Lib.hid fhead'
      have F3 := Lib.hid frounds
      have F4 := Lib.hid frows
      have F5 := Lib.hid fturn
      have F6 := Lib.hid ftimes
      have F7 := Lib.hid ftimes'
      have F8 := Lib.hid fleads
      have F9 := Lib.hid fleads'
      unfold TextsAny at F4
      clear HFACT hg fhead fhead' frounds frows fturn ftimes ftimes' fleads fleads'
      go_wp2_with (first | (refine wpList_load_row rfl 26 _ rfl _ rfl 26 _ _ _ ((HM6.out)) Try.underlying26 rfl (by kernel_rfl) ?_) | fail)
      refine (F1.out _ _ HT6.out).mono ?_
      rintro e w7 ⟨rfl, hb7⟩
      have HM7 := Lib.hid (HM6.out.kept hb7)
      have HT7 := Lib.hid (HT6.out.kept hb7)
      have HP7 := Lib.hid (HP6.out.kept hb7)
      have HR7 := Lib.hid (HR6.out.kept hb7)
      have HB7 := Lib.hid (HB6.out.trans (hb7.mono HB6.out.size))
      clear HM6 HT6 HP6 HR6 HB6 hb7
      go_wp2_with (first | (refine wpList_load_row rfl 26 _ rfl _ rfl 26 _ _ _ ((HR7.out)) Try.underlying26 rfl (by kernel_rfl) ?_) | fail)
      refine (F2.out _ _ HP7.out).mono ?_
      rintro e w8 ⟨rfl, hb8⟩
      have HM8 := Lib.hid (HM7.out.kept hb8)
      have HT8 := Lib.hid (HT7.out.kept hb8)
      have HP8 := Lib.hid (HP7.out.kept hb8)
      have HR8 := Lib.hid (HR7.out.kept hb8)
      have HB8 := Lib.hid (HB7.out.trans (hb8.mono HB7.out.size))
      clear HM7 HT7 HP7 HR7 HB7 hb8
      have m1 := HM8.out.cell 1 rfl
      go_wp2_with fail
      refine (F3.out _).mono ?_
      rintro e w9 ⟨rfl, hb9⟩
      have HM9 := Lib.hid (HM8.out.kept hb9)
      have HT9 := Lib.hid (HT8.out.kept hb9)
      have HP9 := Lib.hid (HP8.out.kept hb9)
      have HR9 := Lib.hid (HR8.out.kept hb9)
      have HB9 := Lib.hid (HB8.out.trans (hb9.mono HB8.out.size))
      clear HM8 HT8 HP8 HR8 HB8 hb9
      clear m1 F1 F2 F3
      go_wp2_with (first | (refine wpList_load_row rfl 26 _ rfl _ rfl 26 _ _ _ ((HM9.out)) Try.underlying26 rfl (by kernel_rfl) ?_) | fail)
      refine (F4.out _ _ HT9.out).mono ?_
      rintro e w10 ⟨v10, rfl, hn10, hb10⟩
      have HM10 := Lib.hid (HM9.out.kept hb10)
      have HT10 := Lib.hid (HT9.out.kept hb10)
      have HP10 := Lib.hid (HP9.out.kept hb10)
      have HR10 := Lib.hid (HR9.out.kept hb10)
      have HB10 := Lib.hid (HB9.out.trans (hb10.mono HB9.out.size))
      clear HM9 HT9 HP9 HR9 HB9 hb10
      obtain ⟨a10, k10, hv10, ha10⟩ := hn10.own.view
      rw [strs_len, hrl] at hv10 ha10
      subst hv10
      obtain ⟨g10, hg10⟩ := ha10 (by omega)
      subst hg10
      have HL10 := Lib.hid hn10.own
      have e10 := HL10.out.cell k _ (strs_at rl k (by omega))
      rw [hat] at e10
      have hk0 : ¬ ((k : Int) < 0) := by omega
      have hk1 : (k : Int) < L.length := by omega
      clear hn10 ha10 F4
      go_wp2_with fail
      refine (F5.out _).mono ?_
      rintro e w11 ⟨rfl, hb11⟩
      have HM11 := Lib.hid (HM10.out.kept hb11)
      have HT11 := Lib.hid (HT10.out.kept hb11)
      have HP11 := Lib.hid (HP10.out.kept hb11)
      have HR11 := Lib.hid (HR10.out.kept hb11)
      have HL11 := Lib.hid (HL10.out.kept hb11)
      have HB11 := Lib.hid (HB10.out.trans (hb11.mono HB10.out.size))
      clear HM10 HT10 HP10 HR10 HL10 HB10 hb11
      have e11 := HL11.out.cell k _ (strs_at rl k (by omega))
      rw [hat] at e11
      clear e10 F5
      go_wp2_with fail
      refine (F6.out _).mono ?_
      rintro e w12 ⟨rfl, hb12⟩
      clear HL11 e11 F6
      have HM12 := Lib.hid (HM11.out.kept hb12)
      have HT12 := Lib.hid (HT11.out.kept hb12)
      have HP12 := Lib.hid (HP11.out.kept hb12)
      have HR12 := Lib.hid (HR11.out.kept hb12)
      have HB12 := Lib.hid (HB11.out.trans (hb12.mono HB11.out.size))
      clear HM11 HT11 HP11 HR11 HB11 hb12
      go_wp2_with fail
      refine (F7.out _).mono ?_
      rintro e w13 ⟨rfl, hb13⟩
      clear F7
      have HM13 := Lib.hid (HM12.out.kept hb13)
      have HT13 := Lib.hid (HT12.out.kept hb13)
      have HP13 := Lib.hid (HP12.out.kept hb13)
      have HR13 := Lib.hid (HR12.out.kept hb13)
      have HB13 := Lib.hid (HB12.out.trans (hb13.mono HB12.out.size))
      clear HM12 HT12 HP12 HR12 HB12 hb13
      go_wp2_with (first | (refine wpList_load_row rfl 26 _ rfl _ rfl 26 _ _ _ ((HM13.out)) Try.underlying26 rfl (by kernel_rfl) ?_) | fail)
      refine (F8.out _ _ HT13.out).mono ?_
      rintro e w14 ⟨rfl, hb14⟩
      clear F8
      have HM14 := Lib.hid (HM13.out.kept hb14)
      have HT14 := Lib.hid (HT13.out.kept hb14)
      have HP14 := Lib.hid (HP13.out.kept hb14)
      have HR14 := Lib.hid (HR13.out.kept hb14)
      have HB14 := Lib.hid (HB13.out.trans (hb14.mono HB13.out.size))
      clear HM13 HT13 HP13 HR13 HB13 hb14
      go_wp2_with (first | (refine wpList_load_row rfl 26 _ rfl _ rfl 26 _ _ _ ((HR14.out)) Try.underlying26 rfl (by kernel_rfl) ?_) | fail)
      refine (F9.out _ _ HP14.out).mono ?_
      rintro e w15 ⟨rfl, hb15⟩
      clear F9 HM14 HT14 HP14 HR14 hat hrl hlt hlen
      have HB := Lib.hid (HB14.out.trans (hb15.mono HB14.out.size))
      clear HB14 hb15
      have hGG : (G.toList == G.toList) = true := by simp
      have hoo : ((o : Int) == (o : Int)) = true := by simp
      try (go_wp2_with fail)
      refine (DrawTurnMethod_any a2' l2 c2' z2 _ (HZ2.out.belowW HB.out) HL2.out).mono ?_
      rintro e y1 ⟨ds, dn, dv, D, rfl, dsz, -, -, dnw, dL, dsm, yb1⟩
      obtain ⟨da, dc, hdv, -⟩ := dnw.own.view
      rw [strs_len] at hdv
      subst hdv
      obtain ⟨ts, tn, U, tb, hU, dti, dts⟩ := bothTurnMethod ds (by unfold maxLen; omega) dn D (by omega) (small10s dsm)
      obtain ⟨pr, pb, dpi, dps⟩ := bothIsPalindrome ds (by unfold maxLen; omega) dn D (by omega) (small10s dsm)
      have DTI := Lib.hid dti
      have DTS := Lib.hid dts
      have DPI := Lib.hid dpi
      have DPS := Lib.hid dps
      unfold MethAny at DTI DTS
      have YB1 := Lib.hid (HB.out.trans (yb1.mono HB.out.size))
      have DT1 := Lib.hid dnw.own.txts
      clear dnw yb1 dsm dti dts dpi dps HB
      obtain ⟨o5, ho5⟩ : ∃ o, Obj.cells #[.string ds, .int .i64 dn, .slice da D.length dc] 26 = o := ⟨_, rfl⟩
      have hal5 := (Below.refl y1.heap.size y1).alloc (Nat.le_refl _) o5
      have DT2 := Lib.hid (DT1.out.kept hal5)
      have YB2 := Lib.hid (YB1.out.trans (hal5.mono YB1.out.size))
      have DM2 : Hid (RowAt (y1.alloc o5) y1.heap.size 26 #[.string ds, .int .i64 dn, .slice da D.length dc]) := Lib.hid (by rw [← ho5]; exact RowAt.new y1 _ _)
      clear hal5 DT1 YB1
      subst ho5
      go_wp2_with (first | (refine wpList_store_row rfl 26 _ _ rfl _ _ rfl rfl 26 _ (heap_alloc_new _ _) (by kernel_rfl) rfl (by kernel_rfl) ?_; rw [World.setRow_alloc_new]) | (refine wpList_load_row rfl 26 _ rfl _ rfl 26 _ _ _ ((DM2.out)) Try.underlying26 rfl (by kernel_rfl) ?_) | fail)
      generalize y1.alloc (.cells #[.string ds, .int .i64 dn, .slice da D.length dc] 26) = Y1 at *
      obtain ⟨db, hdb⟩ : ∃ b, y1.heap.size = b := ⟨_, rfl⟩
      rw [hdb] at DM2
      simp only [hdb]
      clear hdb
      refine (DTI.out _ _ DT2.out).mono ?_
      rintro e y2 ⟨v4, rfl, hn4, hb4⟩
      have DM3 := Lib.hid (DM2.out.kept hb4)
      have DT3 := Lib.hid (DT2.out.kept hb4)
      have YB3 := Lib.hid (YB2.out.trans (hb4.mono YB2.out.size))
      obtain ⟨a4, k4, hv4, -⟩ := hn4.own.view
      rw [strs_len] at hv4
      subst hv4
      have EP3 := Lib.hid hn4.own.txts
      clear DM2 DT2 YB2 hb4 hn4 DTI
      obtain ⟨o6, ho6⟩ : ∃ o, Obj.cells #[.string ts, .int .i64 tn, .slice a4 U.length k4] 26 = o := ⟨_, rfl⟩
      have hal6 := (Below.refl y2.heap.size y2).alloc (Nat.le_refl _) o6
      have DM4 := Lib.hid (DM3.out.kept hal6)
      have DT4 := Lib.hid (DT3.out.kept hal6)
      have EP4 := Lib.hid (EP3.out.kept hal6)
      have YB4 := Lib.hid (YB3.out.trans (hal6.mono YB3.out.size))
      have ER4 : Hid (RowAt (y2.alloc o6) y2.heap.size 26 #[.string ts, .int .i64 tn, .slice a4 U.length k4]) := Lib.hid (by rw [← ho6]; exact RowAt.new y2 _ _)
      clear hal6 DM3 DT3 EP3 YB3
      subst ho6
      go_wp2_with (first | (refine wpList_store_row rfl 26 _ _ rfl _ _ rfl rfl 26 _ (heap_alloc_new _ _) (by kernel_rfl) rfl (by kernel_rfl) ?_; rw [World.setRow_alloc_new]) | (refine wpList_load_row rfl 26 _ rfl _ rfl 26 _ _ _ ((DM4.out)) Try.underlying26 rfl (by kernel_rfl) ?_) | fail)
      generalize y2.alloc (.cells #[.string ts, .int .i64 tn, .slice a4 U.length k4] 26) = Y2 at *
      obtain ⟨eb, heb⟩ : ∃ b, y2.heap.size = b := ⟨_, rfl⟩
      rw [heb] at ER4
      simp only [heb]
      clear heb
      refine (DTS.out _ _ DT4.out).mono ?_
      rintro e y3 ⟨v5, rfl, hn5, hb5⟩
      have DM5 := Lib.hid (DM4.out.kept hb5)
      have DT5 := Lib.hid (DT4.out.kept hb5)
      have EP5 := Lib.hid (EP4.out.kept hb5)
      have ER5 := Lib.hid (ER4.out.kept hb5)
      have YB5 := Lib.hid (YB4.out.trans (hb5.mono YB4.out.size))
      obtain ⟨a5, k5, hv5, -⟩ := hn5.own.view
      rw [strs_len] at hv5
      subst hv5
      have FP5 := Lib.hid hn5.own.txts
      clear DM4 DT4 EP4 ER4 YB4 hb5 hn5 DTS
      obtain ⟨o7, ho7⟩ : ∃ o, Obj.cells #[.string ts, .int .i64 tn, .slice a5 U.length k5] 26 = o := ⟨_, rfl⟩
      have hal7 := (Below.refl y3.heap.size y3).alloc (Nat.le_refl _) o7
      have DM6 := Lib.hid (DM5.out.kept hal7)
      have DT6 := Lib.hid (DT5.out.kept hal7)
      have EP6 := Lib.hid (EP5.out.kept hal7)
      have ER6 := Lib.hid (ER5.out.kept hal7)
      have FP6 := Lib.hid (FP5.out.kept hal7)
      have YB6 := Lib.hid (YB5.out.trans (hal7.mono YB5.out.size))
      have FR6 : Hid (RowAt (y3.alloc o7) y3.heap.size 26 #[.string ts, .int .i64 tn, .slice a5 U.length k5]) := Lib.hid (by rw [← ho7]; exact RowAt.new y3 _ _)
      clear hal7 DM5 DT5 EP5 ER5 FP5 YB5
      subst ho7
      go_wp2_with (first | (refine wpList_store_row rfl 26 _ _ rfl _ _ rfl rfl 26 _ (heap_alloc_new _ _) (by kernel_rfl) rfl (by kernel_rfl) ?_; rw [World.setRow_alloc_new]) | (refine wpList_load_row rfl 26 _ rfl _ rfl 26 _ _ _ ((DM6.out)) Try.underlying26 rfl (by kernel_rfl) ?_) | fail)
      generalize y3.alloc (.cells #[.string ts, .int .i64 tn, .slice a5 U.length k5] 26) = Y3 at *
      obtain ⟨fb, hfb⟩ : ∃ b, y3.heap.size = b := ⟨_, rfl⟩
      rw [hfb] at FR6
      simp only [hfb]
      clear hfb
      refine (DPI.out _ _ DT6.out).mono ?_
      rintro e y4 ⟨rfl, hb7⟩
      have DM7 := Lib.hid (DM6.out.kept hb7)
      have DT7 := Lib.hid (DT6.out.kept hb7)
      have EP7 := Lib.hid (EP6.out.kept hb7)
      have ER7 := Lib.hid (ER6.out.kept hb7)
      have FP7 := Lib.hid (FP6.out.kept hb7)
      have FR7 := Lib.hid (FR6.out.kept hb7)
      have YB7 := Lib.hid (YB6.out.trans (hb7.mono YB6.out.size))
      clear DM6 DT6 EP6 ER6 FP6 FR6 YB6 hb7 DPI
      go_wp2_with (first | (refine wpList_load_row rfl 26 _ rfl _ rfl 26 _ _ _ ((DM7.out)) Try.underlying26 rfl (by kernel_rfl) ?_) | fail)
      refine (DPS.out _ _ DT7.out).mono ?_
      rintro e y5 ⟨rfl, hb8⟩
      have EP8 := Lib.hid (EP7.out.kept hb8)
      have ER8 := Lib.hid (ER7.out.kept hb8)
      have FP8 := Lib.hid (FP7.out.kept hb8)
      have FR8 := Lib.hid (FR7.out.kept hb8)
      have YB8 := Lib.hid (YB7.out.trans (hb8.mono YB7.out.size))
      clear DM7 DT7 EP7 ER7 FP7 FR7 YB7 hb8 DPS
      go_wp2_with fail
      refine (DrawSameMethod_any a2' l2 c2' z2 _ (HZ2.out.belowW YB8.out) HL2.out).mono ?_
      rintro e y6 ⟨xs, ys, xn, xv, yv, XL, YL, rfl, hnx, hny, hXL, hYL, hb9⟩
      have EP9 := Lib.hid (EP8.out.kept hb9)
      have ER9 := Lib.hid (ER8.out.kept hb9)
      have FP9 := Lib.hid (FP8.out.kept hb9)
      have FR9 := Lib.hid (FR8.out.kept hb9)
      have YB9 := Lib.hid (YB8.out.trans (hb9.mono YB8.out.size))
      obtain ⟨xa, xc, hxv, -⟩ := hnx.own.view
      rw [strs_len] at hxv
      subst hxv
      obtain ⟨ya, yc, hyv, -⟩ := hny.own.view
      rw [strs_len] at hyv
      subst hyv
      have XP9 := Lib.hid hnx.own.txts
      have YP9 := Lib.hid hny.own.txts
      clear EP8 ER8 FP8 FR8 YB8 hb9 hnx hny
      obtain ⟨oz, hoz⟩ : ∃ o, Obj.cells #[.string ⟨#[]⟩, .int .i64 0, .slice none 0 0] 26 = o := ⟨_, rfl⟩
      have hz1 : RowAt (y6.alloc oz) y6.heap.size 26 #[.string ⟨#[]⟩, .int .i64 0, .slice none 0 0] := by rw [← hoz]; exact RowAt.new y6 _ _
      have hz2 : RowAt ((y6.alloc oz).alloc oz) (y6.heap.size + 1) 26 #[.string ⟨#[]⟩, .int .i64 0, .slice none 0 0] := by
        have := RowAt.new (y6.alloc oz) 26 #[.string ⟨#[]⟩, .int .i64 0, .slice none 0 0]
        rw [hoz] at this
        simpa using this
      have HZA := Lib.hid (hz1.push oz)
      have HZB := Lib.hid (hz2.rowOther (c := y6.heap.size) #[.string xs, .int .i64 xn, .slice xa XL.length xc] (by omega))
      have halz := ((Below.refl y6.heap.size y6).alloc (Nat.le_refl _) oz).alloc (by simp) oz
      have hbz := below_setRow (g := y6.heap.size + 1) (below_setRow (g := y6.heap.size) halz (Nat.le_refl _) #[.string xs, .int .i64 xn, .slice xa XL.length xc]) (by omega) #[.string ys, .int .i64 xn, .slice ya YL.length yc]
      have HXR := Lib.hid ((HZA.out.row #[.string xs, .int .i64 xn, .slice xa XL.length xc]).rowOther (c := y6.heap.size + 1) #[.string ys, .int .i64 xn, .slice ya YL.length yc] (by omega))
      have HYR := Lib.hid (HZB.out.row #[.string ys, .int .i64 xn, .slice ya YL.length yc])
      have EP10 := Lib.hid (EP9.out.kept hbz)
      have ER10 := Lib.hid (ER9.out.kept hbz)
      have FP10 := Lib.hid (FP9.out.kept hbz)
      have FR10 := Lib.hid (FR9.out.kept hbz)
      have XP10 := Lib.hid (XP9.out.kept hbz)
      have YP10 := Lib.hid (YP9.out.kept hbz)
      have YB10 := Lib.hid (YB9.out.trans (hbz.mono YB9.out.size))
      clear hz1 hz2 halz hbz EP9 ER9 FP9 FR9 XP9 YP9 YB9
      subst hoz
      go_wp2_with (first | (refine wpList_store_row rfl 26 _ _ rfl _ _ rfl rfl 26 _ (HZA.out) (by kernel_rfl) rfl (by kernel_rfl) ?_) | (refine wpList_store_row rfl 26 _ _ rfl _ _ rfl rfl 26 _ (HZB.out) (by kernel_rfl) rfl (by kernel_rfl) ?_) | fail)
      clear HZA HZB
      generalize (((y6.alloc (.cells #[.string ⟨#[]⟩, .int .i64 0, .slice none 0 0] 26)).alloc (.cells #[.string ⟨#[]⟩, .int .i64 0, .slice none 0 0] 26)).setRow y6.heap.size #[.string xs, .int .i64 xn, .slice xa XL.length xc]).setRow (y6.heap.size + 1) #[.string ys, .int .i64 xn, .slice ya YL.length yc] = W0 at *
      obtain ⟨xb, hxb⟩ : ∃ b, y6.heap.size = b := ⟨_, rfl⟩
      rw [hxb] at HXR HYR
      simp only [hxb]
      clear hxb
      obtain ⟨yb, hyb⟩ : ∃ b, xb + 1 = b := ⟨_, rfl⟩
      rw [hyb] at HYR
      simp only [hyb]
      clear hyb
      have l1 := ER10.out.lt
      have l2 := FR10.out.lt
      have l3 := HXR.out.lt
      have l4 := HYR.out.lt
      have HSW : Hid (∀ W', Below W0.heap.size W0 W' → (W'.cell? ⟨eb, 0, none⟩ = some (.string ts) ∧ W'.cell? ⟨eb, 1, none⟩ = some (.int .i64 tn) ∧ W'.cell? ⟨eb, 2, none⟩ = some (.slice a4 U.length k4) ∧ W'.cell? ⟨fb, 0, none⟩ = some (.string ts) ∧ W'.cell? ⟨fb, 1, none⟩ = some (.int .i64 tn) ∧ W'.cell? ⟨fb, 2, none⟩ = some (.slice a5 U.length k5) ∧ W'.cell? ⟨xb, 0, none⟩ = some (.string xs) ∧ W'.cell? ⟨xb, 1, none⟩ = some (.int .i64 xn) ∧ W'.cell? ⟨xb, 2, none⟩ = some (.slice xa XL.length xc) ∧ W'.cell? ⟨yb, 0, none⟩ = some (.string ys) ∧ W'.cell? ⟨yb, 1, none⟩ = some (.int .i64 xn) ∧ W'.cell? ⟨yb, 2, none⟩ = some (.slice ya YL.length yc) ∧ Below W0.heap.size W0 W')) := Lib.hid (fun W' h => by
        have x1 := ER10.out.keep h l1
        have x2 := FR10.out.keep h l2
        have x3 := HXR.out.keep h l3
        have x4 := HYR.out.keep h l4
        exact ⟨x1.cell 0 rfl, x1.cell 1 rfl, x1.cell 2 rfl, x2.cell 0 rfl, x2.cell 1 rfl, x2.cell 2 rfl, x3.cell 0 rfl, x3.cell 1 rfl, x3.cell 2 rfl, x4.cell 0 rfl, x4.cell 1 rfl, x4.cell 2 rfl, h⟩)
      obtain ⟨res, hres⟩ : ∃ res, sameB xs ys xn xn XL YL = res := ⟨_, rfl⟩
      have C1 : Hid (∀ W', Below W0.heap.size W0 W' → Calls Try.prog 20 #[.agg #[.string ts, .int .i64 tn, .slice a4 U.length k4], .agg #[.string ts, .int .i64 tn, .slice a5 U.length k5]] W' fun e w' => e = .returned (.bool true) ∧ Below W0.heap.size W0 w') := Lib.hid (fun W' h => (sSameMethod_any ts ts tn tn _ _ U U W' (EP10.out.kept h) (FP10.out.kept h) (by omega) (by omega)).mono fun e w' hw => ⟨by rw [hw.1, sameB_self], h.trans (hw.2.mono h.size)⟩)
      have C2 : Hid (∀ W', Below W0.heap.size W0 W' → Calls Try.prog 33 #[.agg #[.string xs, .int .i64 xn, .slice xa XL.length xc], .agg #[.string ys, .int .i64 xn, .slice ya YL.length yc]] W' fun e w' => e = .returned (.bool res) ∧ Below W0.heap.size W0 w') := Lib.hid (fun W' h => (iSameMethod_any xs ys xn xn _ _ XL YL W' (XP10.out.kept h) (YP10.out.kept h) (by omega) (by omega)).mono fun e w' hw => ⟨by rw [hw.1, hres], h.trans (hw.2.mono h.size)⟩)
      have C3 : Hid (∀ W', Below W0.heap.size W0 W' → Calls Try.prog 20 #[.agg #[.string xs, .int .i64 xn, .slice xa XL.length xc], .agg #[.string ys, .int .i64 xn, .slice ya YL.length yc]] W' fun e w' => e = .returned (.bool res) ∧ Below W0.heap.size W0 w') := Lib.hid (fun W' h => (sSameMethod_any xs ys xn xn _ _ XL YL W' (XP10.out.kept h) (YP10.out.kept h) (by omega) (by omega)).mono fun e w' hw => ⟨by rw [hw.1, hres], h.trans (hw.2.mono h.size)⟩)
      clear hres l1 l2 l3 l4 EP10 ER10 FP10 FR10 XP10 YP10 HXR HYR
      have etb : (tb == tb) = true := by simp
      have epb : (pb == pb) = true := by simp
      have epr : (pr == pr) = true := by simp
      have ere : (res == res) = true := by simp
      all_goals
        go_region_held3 (fun W' => W'.cell? ⟨eb, 0, none⟩ = some (.string ts) ∧ W'.cell? ⟨eb, 1, none⟩ = some (.int .i64 tn) ∧ W'.cell? ⟨eb, 2, none⟩ = some (.slice a4 U.length k4) ∧ W'.cell? ⟨fb, 0, none⟩ = some (.string ts) ∧ W'.cell? ⟨fb, 1, none⟩ = some (.int .i64 tn) ∧ W'.cell? ⟨fb, 2, none⟩ = some (.slice a5 U.length k5) ∧ W'.cell? ⟨xb, 0, none⟩ = some (.string xs) ∧ W'.cell? ⟨xb, 1, none⟩ = some (.int .i64 xn) ∧ W'.cell? ⟨xb, 2, none⟩ = some (.slice xa XL.length xc) ∧ W'.cell? ⟨yb, 0, none⟩ = some (.string ys) ∧ W'.cell? ⟨yb, 1, none⟩ = some (.int .i64 xn) ∧ W'.cell? ⟨yb, 2, none⟩ = some (.slice ya YL.length yc) ∧ Below W0.heap.size W0 W') (first | assumption | exact HSW.out _ (Below.refl _ _).drew) (first
          | (have q3 := hb2; go_at_call 20; refine (C3.out _ hb2).mono ?_; rintro e3 x3 ⟨rfl, hb3⟩; have hS3 := HSW.out _ hb3)
          | (go_at_call 20; refine (C1.out _ (Below.refl _ _).drew).mono ?_; rintro e1 x1 ⟨rfl, hb1⟩; have hS1 := HSW.out _ hb1)
          | (go_at_call 33; refine (C2.out _ hb1).mono ?_; rintro e2 x2 ⟨rfl, hb2⟩; have hS2 := HSW.out _ hb2)
          | fail)
        go_wp2
        go_ret
        exact ⟨rfl, YB10.out.trans (hb3.mono YB10.out.size)⟩
end Go.Proofs.Ytfocnflnpabmkaa
