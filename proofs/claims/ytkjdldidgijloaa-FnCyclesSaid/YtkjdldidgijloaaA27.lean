/- The law on powers. -/
import Derived.Test.YtkjdldidgijloaaA26
namespace Go.Proofs.Ytkjdldidgijloaa
open Go.RowKit
set_option linter.unusedSimpArgs false

set_option maxRecDepth 100000 in
set_option maxHeartbeats 1000000 in
theorem DrawPowerOf_any (a : Option Addr) (len cap : Nat) (zs : List Int) (w : World) (hz : IsBytes w a len cap zs) (hl : len ≤ 1048576) :
    Calls Try.prog 34 #[.slice a len cap] w (SomeStrInt w) := by
  have HCODE := Lib.hid (codeAt_of hz)
  clear hz
  go_enter Try.func34, Try.ntmps34
  go_wp2_with fail
  refine (anyRow_draw w.heap.size a len cap 0 (by omega) _ (cur_new a len cap w HCODE.out hl)).mono ?_
  rintro e w1 ⟨s, hs, rfl, hc1, ho1⟩
  have HC1 := Lib.hid hc1
  have HO1 := Lib.hid ho1
  have hlt := hc1.lt
  clear hc1 ho1
  go_wp2_with fail
  refine (among_any (fun _ => True) w.heap.size a len cap _ 11 w1.heap.size 11 (fun i => [0, 1, -1, 2, 3, 7, -12, 1000, 1001, -1000, -1001].getD i 0) (by omega) (by omega) (by omega) _ (HC1.out.below ((Below.refl _ _).alloc (Nat.le_refl _) _)) (by omega) (fun i hi => ⟨trivial, list_cells w1 [0, 1, -1, 2, 3, 7, -12, 1000, 1001, -1000, -1001] _ i hi⟩)).mono ?_
  rintro e w2 ⟨x, hx, rfl, hc2, ho2⟩
  have HO2 := Lib.hid ((HO1.out.trans (Only.of_below (b := w.heap.size) ((Below.refl w1.heap.size w1).alloc (Nat.le_refl _) _))).trans ho2)
  clear hc2 ho2
  go_wp2
  go_ret2
  exact ⟨s, x, hs, rfl, cur_below HO2.out⟩

open Classical in
noncomputable def pwB (s : ByteArray) (k : Int) : Bool := decide (goodB s = true ∧ -1000 ≤ k ∧ k ≤ 1000)
noncomputable def pwS (s : ByteArray) (k : Int) : ByteArray := if pwB s k = true then strOf s.size (powZ s.size (dg s) k) else ⟨#[]⟩
theorem iPowerOf_fn (s : ByteArray) (k : Int) (hs : s.size ≤ maxLen) (w : World) :
    Calls Try.prog 24 #[.string s, .int .i64 k] w fun e w' => e = .returned (.tuple #[.string (pwS s k), .bool (pwB s k)]) ∧ Below w.heap.size w w' := by
  unfold pwS
  cases h : pwB s k
  · exact iPowerOf_no s hs k (by simpa [pwB] using h) w
  · have h' : goodB s = true ∧ -1000 ≤ k ∧ k ≤ 1000 := by simpa [pwB] using h
    have e := strOf_of_isStr (isStr_dg s)
    have := iPowerOf_yes s.size (dg s) (goodB_row h'.1) k h'.2.1 h'.2.2 w
    rw [← e] at this
    exact this
theorem sPowerOf_fn (s : ByteArray) (k : Int) (hs : s.size ≤ maxLen) (w : World) :
    Calls Try.prog 35 #[.string s, .int .i64 k] w fun e w' => e = .returned (.tuple #[.string (pwS s k), .bool (pwB s k)]) ∧ Below w.heap.size w w' := by
  unfold pwS
  cases h : pwB s k
  · exact sPowerOf_no s hs k (by simpa [pwB] using h) w
  · have h' : goodB s = true ∧ -1000 ≤ k ∧ k ≤ 1000 := by simpa [pwB] using h
    have e := strOf_of_isStr (isStr_dg s)
    have := sPowerOf_yes s.size (dg s) (goodB_row h'.1) k h'.2.1 h'.2.2 w
    rw [← e] at this
    exact this
noncomputable def evV (s : ByteArray) : Bool := if goodB s = true then evenB (invB (dg s) s.size) else false
theorem iIsEven_fn (s : ByteArray) (hs : s.size ≤ maxLen) (w : World) :
    Calls Try.prog 33 #[.string s] w fun e w' => e = .returned (.tuple #[.bool (evV s), .bool (goodB s)]) ∧ Below w.heap.size w w' := by
  unfold evV
  cases h : goodB s
  · exact iIsEven_no s hs h w
  · have e := strOf_of_isStr (isStr_dg s)
    have := iIsEven_yes s.size (dg s) (goodB_row h) w
    rw [← e] at this
    exact this
theorem sIsEven_fn (s : ByteArray) (hs : s.size ≤ maxLen) (w : World) :
    Calls Try.prog 37 #[.string s] w fun e w' => e = .returned (.tuple #[.bool (evV s), .bool (goodB s)]) ∧ Below w.heap.size w w' := by
  unfold evV
  cases h : goodB s
  · exact sIsEven_no s hs h w
  · have e := strOf_of_isStr (isStr_dg s)
    have := sIsEven_yes s.size (dg s) (goodB_row h) w
    rw [← e] at this
    exact this
theorem powZ_nat (n : Nat) (f : Nat → Nat) (k : Nat) : powZ n f k = powR n f k := by
  unfold powZ
  rw [if_neg (by omega)]
  simp
theorem powZ_neg1 {n : Nat} {f : Nat → Nat} (hf : IsRow n f) : powZ n f (-1) = invF n f := by
  unfold powZ
  rw [if_pos (by omega)]
  exact pow_one (isRow_inv hf)

set_option maxRecDepth 100000 in
set_option maxHeartbeats 1000000 in
theorem lawPowers (a1 : Option Addr) (l1 c1 : Nat) (z1 : List Int) (a2 : Option Addr) (l2 c2 : Nat) (z2 : List Int) (w : World) (hz1 : IsBytes w a1 l1 c1 z1) (hz2 : IsBytes w a2 l2 c2 z2) :
    Calls Try.prog 4 #[.slice a1 l1 c1, .slice a2 l2 c2] w fun e w' => e = .returned (.bool true) ∧ Below w.heap.size w w' := by
  have HZ1 := Lib.hid hz1
  have HZ2 := Lib.hid hz2
  clear hz1 hz2
  go_enter Try.func4, Try.ntmps4
  go_wp2_with fail
  refine (big_any a1 a2 l1 l2 c1 c2 HZ1.out.len HZ2.out.len _).mono ?_
  rintro e w0 ⟨rfl, rfl⟩
  by_cases hbig : 1048576 < l1 + l2
  · rw [decide_eq_true hbig]
    go_wp2
    go_ret
    exact ⟨rfl, Below.refl _ _⟩
  · rw [decide_eq_false hbig]
    have HL1 := Lib.hid (show l1 ≤ 1048576 by omega)
    have HL2 := Lib.hid (show l2 ≤ 1048576 by omega)
    clear hbig
    go_wp2_with fail
    refine (DrawOrderOf_any a1 l1 c1 z1 _ HZ1.out HL1.out).mono ?_
    rintro e w1 ⟨s, hs, rfl, hb1⟩
    have HB1 := Lib.hid hb1
    clear hb1
    cases hb : goodB s
    · have HG := Lib.hid hb
      clear hb
      go_wp2_with fail
      refine (iOrderOf_no s (mx10 hs) HG.out _).mono ?_
      rintro e w2 ⟨rfl, hbx⟩
      have HB2 := Lib.hid (HB1.out.trans (hbx.mono HB1.out.size))
      clear hbx HB1
      go_wp2_with fail
      refine (sOrderOf_no s (mx10 hs) HG.out _).mono ?_
      rintro e w3 ⟨rfl, hbx⟩
      have HB3 := Lib.hid (HB2.out.trans (hbx.mono HB2.out.size))
      clear hbx HB2
      go_wp2_with fail
      refine (DrawTimes_any a2 l2 c2 z2 _ (HZ2.out.below HB3.out) HL2.out).mono ?_
      rintro e w4 ⟨s2, t2, hs2, ht2, rfl, hbx⟩
      have HB4 := Lib.hid (HB3.out.trans (hbx.mono HB3.out.size))
      clear hbx HB3
      cases hT : twoB s2 t2
      · have HT := Lib.hid hT
        clear hT
        go_wp2_with fail
        refine (iTimes_any s2 t2 (mx10 hs2) (mx10 ht2) _).mono ?_
        rintro e w5 ⟨rfl, hbx⟩
        rw [HT.out]
        have HB5 := Lib.hid (HB4.out.trans (hbx.mono HB4.out.size))
        clear hbx HB4
        go_wp2_with fail
        refine (DrawPowerOf_any a2 l2 c2 z2 _ (HZ2.out.below HB5.out) HL2.out).mono ?_
        rintro e w6 ⟨d, kk, hd, rfl, hbx⟩
        have HB6 := Lib.hid (HB5.out.trans (hbx.mono HB5.out.size))
        clear hbx HB5
        go_wp2_with fail
        refine (iPowerOf_fn d kk (mx10 hd) _).mono ?_
        rintro e w7 ⟨rfl, hbx⟩
        have HB7 := Lib.hid (HB6.out.trans (hbx.mono HB6.out.size))
        clear hbx HB6
        go_wp2_with fail
        refine (sPowerOf_fn d kk (mx10 hd) _).mono ?_
        rintro e w8 ⟨rfl, hbx⟩
        have HB8 := Lib.hid (HB7.out.trans (hbx.mono HB7.out.size))
        clear hbx HB7
        go_wp2_with fail
        refine (DrawIsEven_any a2 l2 c2 z2 _ (HZ2.out.below HB8.out) HL2.out).mono ?_
        rintro e w9 ⟨ee, hee, rfl, hbx⟩
        have HB9 := Lib.hid (HB8.out.trans (hbx.mono HB8.out.size))
        clear hbx HB8
        go_wp2_with fail
        refine (iIsEven_fn ee (mx10 hee) _).mono ?_
        rintro e w10 ⟨rfl, hbx⟩
        have HB10 := Lib.hid (HB9.out.trans (hbx.mono HB9.out.size))
        clear hbx HB9
        go_wp2_with fail
        refine (sIsEven_fn ee (mx10 hee) _).mono ?_
        rintro e w11 ⟨rfl, hbx⟩
        have HB11 := Lib.hid (HB10.out.trans (hbx.mono HB10.out.size))
        clear hbx HB10
        go_wp2
        go_ret
        exact ⟨rfl, HB11.out⟩
      · obtain ⟨n2, f2, g2, hf2, hg2, rfl, rfl, htm⟩ := two_rows hT
        have HT := Lib.hid hT
        have HTM := Lib.hid htm
        have HF2 := Lib.hid hf2
        have HG2 := Lib.hid hg2
        have HFG := Lib.hid (isRow_mul hf2 hg2)
        clear hT htm hf2 hg2
        go_wp2_with fail
        refine (iTimes_any _ _ (mx10 hs2) (mx10 ht2) _).mono ?_
        rintro e w5 ⟨rfl, hbx⟩
        rw [HT.out, HTM.out]
        have HB5 := Lib.hid (HB4.out.trans (hbx.mono HB4.out.size))
        clear hbx HB4
        go_wp2_with fail
        refine (iIsEven_yes n2 f2 HF2.out _).mono ?_
        rintro e w6 ⟨rfl, hbx⟩
        have HB6 := Lib.hid (HB5.out.trans (hbx.mono HB5.out.size))
        clear hbx HB5
        go_wp2_with fail
        refine (iIsEven_yes n2 g2 HG2.out _).mono ?_
        rintro e w7 ⟨rfl, hbx⟩
        have HB7 := Lib.hid (HB6.out.trans (hbx.mono HB6.out.size))
        clear hbx HB6
        go_wp2_with fail
        refine (iIsEven_yes n2 _ HFG.out _).mono ?_
        rintro e w8 ⟨rfl, hbx⟩
        rw [even_mul HF2.out HG2.out]
        have HB8 := Lib.hid (HB7.out.trans (hbx.mono HB7.out.size))
        clear hbx HB7
        go_wp2_with fail
        refine (DrawPowerOf_any a2 l2 c2 z2 _ (HZ2.out.below HB8.out) HL2.out).mono ?_
        rintro e w9 ⟨d, kk, hd, rfl, hbx⟩
        have HB9 := Lib.hid (HB8.out.trans (hbx.mono HB8.out.size))
        clear hbx HB8
        go_wp2_with fail
        refine (iPowerOf_fn d kk (mx10 hd) _).mono ?_
        rintro e w10 ⟨rfl, hbx⟩
        have HB10 := Lib.hid (HB9.out.trans (hbx.mono HB9.out.size))
        clear hbx HB9
        go_wp2_with fail
        refine (sPowerOf_fn d kk (mx10 hd) _).mono ?_
        rintro e w11 ⟨rfl, hbx⟩
        have HB11 := Lib.hid (HB10.out.trans (hbx.mono HB10.out.size))
        clear hbx HB10
        go_wp2_with fail
        refine (DrawIsEven_any a2 l2 c2 z2 _ (HZ2.out.below HB11.out) HL2.out).mono ?_
        rintro e w12 ⟨ee, hee, rfl, hbx⟩
        have HB12 := Lib.hid (HB11.out.trans (hbx.mono HB11.out.size))
        clear hbx HB11
        go_wp2_with fail
        refine (iIsEven_fn ee (mx10 hee) _).mono ?_
        rintro e w13 ⟨rfl, hbx⟩
        have HB13 := Lib.hid (HB12.out.trans (hbx.mono HB12.out.size))
        clear hbx HB12
        go_wp2_with fail
        refine (sIsEven_fn ee (mx10 hee) _).mono ?_
        rintro e w14 ⟨rfl, hbx⟩
        have HB14 := Lib.hid (HB13.out.trans (hbx.mono HB13.out.size))
        clear hbx HB13
        go_wp2
        go_ret
        exact ⟨rfl, HB14.out⟩
    · obtain ⟨n, f, hf, rfl⟩ := str_of_good hb
      obtain ⟨m, hm⟩ := ord_exists hf
      have HF := Lib.hid hf
      have HM := Lib.hid hm
      have hmp := hm.pos
      have h840 := hm.le
      have hsz := strOf_size n f
      clear hf hm hb
      go_wp2_with fail
      refine (iOrderOf_yes n f HF.out m HM.out _).mono ?_
      rintro e w2 ⟨rfl, hbx⟩
      have HB2 := Lib.hid (HB1.out.trans (hbx.mono HB1.out.size))
      clear hbx HB1
      go_wp2_with fail
      refine (sOrderOf_yes n f HF.out m HM.out _).mono ?_
      rintro e w3 ⟨rfl, hbx⟩
      have HB3 := Lib.hid (HB2.out.trans (hbx.mono HB2.out.size))
      clear hbx HB2
      go_wp2_with fail
      refine (iRoundsOf_row HF.out.three HF.out.eight _).mono ?_
      rintro e w4 ⟨rfl, hbx⟩
      have HB4 := Lib.hid (HB3.out.trans (hbx.mono HB3.out.size))
      clear hbx HB3
      go_wp2_with fail
      refine (iPowerOf_yes n f HF.out m (by omega) (by omega) _).mono ?_
      rintro e w5 ⟨rfl, hbx⟩
      rw [powZ_nat, HM.out.back]
      have HB5 := Lib.hid (HB4.out.trans (hbx.mono HB4.out.size))
      clear hbx HB4
      go_wp2_with fail
      refine (iPowerOf_yes n f HF.out (-1) (by omega) (by omega) _).mono ?_
      rintro e w6 ⟨rfl, hbx⟩
      rw [powZ_neg1 HF.out]
      have HB6 := Lib.hid (HB5.out.trans (hbx.mono HB5.out.size))
      clear hbx HB5
      go_wp2_with fail
      refine (iTurnRow_row HF.out _).mono ?_
      rintro e w7 ⟨rfl, hbx⟩
      have HB7 := Lib.hid (HB6.out.trans (hbx.mono HB6.out.size))
      clear hbx HB6
      go_wp2
      go_loopg [18] m (fun q i wr => ∃ j : Nat, 1 ≤ j ∧ j ≤ m ∧ q + j = m + 1 ∧ i = .int .i64 j ∧ Below w.heap.size w wr)
      case atStart => exact ⟨1, Nat.le_refl _, hmp, rfl, rfl, HB7.out⟩
      case round =>
        clear HB7
        obtain ⟨j, hj1, hjm, hq, rfl, hb⟩ := hrel
        have HQ := Lib.hid hq
        have HB1 := Lib.hid hb
        clear hq hb
        by_cases hlt : j < m
        · have hne := str_other (isRow_pow HF.out j) (isRow_rdf HF.out.three HF.out.eight) (HM.out.least j hj1 hlt)
          go_wp2_with fail
          refine (iPowerOf_yes n f HF.out j (by omega) (by omega) _).mono ?_
          rintro e w9 ⟨rfl, hbx⟩
          rw [powZ_nat]
          have HB2 := Lib.hid (HB1.out.trans (hbx.mono HB1.out.size))
          clear hbx HB1
          go_wp2
          go_roundg (m + 1 - (j + 1))
          case measure => have := HQ.out; omega
          case rel => exact ⟨j + 1, by omega, by omega, by omega, by go_num, HB2.out⟩
        · obtain rfl : j = m := by omega
          go_wp2_with fail
          refine (DrawTimes_any a2 l2 c2 z2 _ (HZ2.out.below HB1.out) HL2.out).mono ?_
          rintro e w2 ⟨s2, t2, hs2, ht2, rfl, hbx⟩
          have HB2 := Lib.hid (HB1.out.trans (hbx.mono HB1.out.size))
          clear hbx HB1
          cases hT : twoB s2 t2
          · have HT := Lib.hid hT
            clear hT
            go_wp2_with fail
            refine (iTimes_any s2 t2 (mx10 hs2) (mx10 ht2) _).mono ?_
            rintro e w3 ⟨rfl, hbx⟩
            rw [HT.out]
            have HB3 := Lib.hid (HB2.out.trans (hbx.mono HB2.out.size))
            clear hbx HB2
            go_wp2_with fail
            refine (DrawPowerOf_any a2 l2 c2 z2 _ (HZ2.out.below HB3.out) HL2.out).mono ?_
            rintro e w4 ⟨d, kk, hd, rfl, hbx⟩
            have HB4 := Lib.hid (HB3.out.trans (hbx.mono HB3.out.size))
            clear hbx HB3
            go_wp2_with fail
            refine (iPowerOf_fn d kk (mx10 hd) _).mono ?_
            rintro e w5 ⟨rfl, hbx⟩
            have HB5 := Lib.hid (HB4.out.trans (hbx.mono HB4.out.size))
            clear hbx HB4
            go_wp2_with fail
            refine (sPowerOf_fn d kk (mx10 hd) _).mono ?_
            rintro e w6 ⟨rfl, hbx⟩
            have HB6 := Lib.hid (HB5.out.trans (hbx.mono HB5.out.size))
            clear hbx HB5
            go_wp2_with fail
            refine (DrawIsEven_any a2 l2 c2 z2 _ (HZ2.out.below HB6.out) HL2.out).mono ?_
            rintro e w7 ⟨ee, hee, rfl, hbx⟩
            have HB7 := Lib.hid (HB6.out.trans (hbx.mono HB6.out.size))
            clear hbx HB6
            go_wp2_with fail
            refine (iIsEven_fn ee (mx10 hee) _).mono ?_
            rintro e w8 ⟨rfl, hbx⟩
            have HB8 := Lib.hid (HB7.out.trans (hbx.mono HB7.out.size))
            clear hbx HB7
            go_wp2_with fail
            refine (sIsEven_fn ee (mx10 hee) _).mono ?_
            rintro e w9 ⟨rfl, hbx⟩
            have HB9 := Lib.hid (HB8.out.trans (hbx.mono HB8.out.size))
            clear hbx HB8
            go_wp2
            go_ret
            exact ⟨rfl, HB9.out⟩
          · obtain ⟨n2, f2, g2, hf2, hg2, rfl, rfl, htm⟩ := two_rows hT
            have HT := Lib.hid hT
            have HTM := Lib.hid htm
            have HF2 := Lib.hid hf2
            have HG2 := Lib.hid hg2
            have HFG := Lib.hid (isRow_mul hf2 hg2)
            clear hT htm hf2 hg2
            go_wp2_with fail
            refine (iTimes_any _ _ (mx10 hs2) (mx10 ht2) _).mono ?_
            rintro e w3 ⟨rfl, hbx⟩
            rw [HT.out, HTM.out]
            have HB3 := Lib.hid (HB2.out.trans (hbx.mono HB2.out.size))
            clear hbx HB2
            go_wp2_with fail
            refine (iIsEven_yes n2 f2 HF2.out _).mono ?_
            rintro e w4 ⟨rfl, hbx⟩
            have HB4 := Lib.hid (HB3.out.trans (hbx.mono HB3.out.size))
            clear hbx HB3
            go_wp2_with fail
            refine (iIsEven_yes n2 g2 HG2.out _).mono ?_
            rintro e w5 ⟨rfl, hbx⟩
            have HB5 := Lib.hid (HB4.out.trans (hbx.mono HB4.out.size))
            clear hbx HB4
            go_wp2_with fail
            refine (iIsEven_yes n2 _ HFG.out _).mono ?_
            rintro e w6 ⟨rfl, hbx⟩
            rw [even_mul HF2.out HG2.out]
            have HB6 := Lib.hid (HB5.out.trans (hbx.mono HB5.out.size))
            clear hbx HB5
            go_wp2_with fail
            refine (DrawPowerOf_any a2 l2 c2 z2 _ (HZ2.out.below HB6.out) HL2.out).mono ?_
            rintro e w7 ⟨d, kk, hd, rfl, hbx⟩
            have HB7 := Lib.hid (HB6.out.trans (hbx.mono HB6.out.size))
            clear hbx HB6
            go_wp2_with fail
            refine (iPowerOf_fn d kk (mx10 hd) _).mono ?_
            rintro e w8 ⟨rfl, hbx⟩
            have HB8 := Lib.hid (HB7.out.trans (hbx.mono HB7.out.size))
            clear hbx HB7
            go_wp2_with fail
            refine (sPowerOf_fn d kk (mx10 hd) _).mono ?_
            rintro e w9 ⟨rfl, hbx⟩
            have HB9 := Lib.hid (HB8.out.trans (hbx.mono HB8.out.size))
            clear hbx HB8
            go_wp2_with fail
            refine (DrawIsEven_any a2 l2 c2 z2 _ (HZ2.out.below HB9.out) HL2.out).mono ?_
            rintro e w10 ⟨ee, hee, rfl, hbx⟩
            have HB10 := Lib.hid (HB9.out.trans (hbx.mono HB9.out.size))
            clear hbx HB9
            go_wp2_with fail
            refine (iIsEven_fn ee (mx10 hee) _).mono ?_
            rintro e w11 ⟨rfl, hbx⟩
            have HB11 := Lib.hid (HB10.out.trans (hbx.mono HB10.out.size))
            clear hbx HB10
            go_wp2_with fail
            refine (sIsEven_fn ee (mx10 hee) _).mono ?_
            rintro e w12 ⟨rfl, hbx⟩
            have HB12 := Lib.hid (HB11.out.trans (hbx.mono HB11.out.size))
            clear hbx HB11
            go_wp2
            go_ret
            exact ⟨rfl, HB12.out⟩
end Go.Proofs.Ytkjdldidgijloaa
