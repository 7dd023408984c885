/- The law FnCalls. -/
import Derived.Test.YtkhglknpcajmiaaQX
import Derived.Test.YtkhglknpcajmiaaQW
import Derived.Test.YtkhglknpcajmiaaQU
import Derived.Test.YtkhglknpcajmiaaD5
import Derived.Test.YtkhglknpcajmiaaQI
import Derived.Test.YtkhglknpcajmiaaQO
import Derived.Deep.RegionHeld3
namespace Go.Proofs.Ytkhglknpcajmiaa
open Go.RowKit
set_option linter.unusedSimpArgs false
set_option linter.unusedVariables false

theorem small10k {L : List (List Nat)} (h : ∀ l ∈ L, l.length ≤ 10) : Small L := fun l hl => by
  have := h l hl
  unfold maxLen
  omega

set_option maxRecDepth 100000 in
set_option maxHeartbeats 32000000 in
theorem lawCalls (a1 : Option Addr) (l1 c1 : Nat) (z1 : List Int) (a2 : Option Addr) (l2 c2 : Nat) (z2 : List Int) (w : World) (hz1 : IsBytes w a1 l1 c1 z1) (hz2 : IsBytes w a2 l2 c2 z2) :
    Calls Try.prog 3 #[.slice a1 l1 c1, .slice a2 l2 c2] w fun e w' => e = .returned (.bool true) ∧ Below w.heap.size w w' := by
  have HZ1 := Lib.hid hz1
  have HZ2 := Lib.hid hz2
  have hm1 := hz1.lenW
  have hm2 := hz2.lenW
  unfold maxLen at hm1 hm2
  have HL1 := Lib.hid (show l1 ≤ 9223372036854775807 by omega)
  have HL2 := Lib.hid (show l2 ≤ 9223372036854775807 by omega)
  clear hz1 hz2
  by_cases hbig : 1048576 < l1 + l2 ∧ l1 + l2 ≤ 9223372036854775807
  · obtain ⟨hg1, hg2⟩ := hbig
    have hbi : (1048576 : Int) < l1 + l2 := by omega
    have hbj : (l1 : Int) + l2 ≤ 9223372036854775807 := by omega
    go_enter Try.func3, Try.ntmps3
    go_wp2
    go_ret
    exact ⟨rfl, Below.refl _ _⟩
  obtain ⟨z, hz, hz2, hz3⟩ : ∃ z : Int, IntKind.i64.wrap ((l1 : Int) + l2) = z ∧ wrap64 ((l1 : Int) + l2) = z ∧ ¬ 1048576 < z := by
    by_cases h : l1 + l2 ≤ 9223372036854775807
    · exact ⟨(l1 : Int) + l2, IntWalk.i64_in _ (by omega), by unfold wrap64; omega, by omega⟩
    · have e : IntKind.i64.wrap ((l1 : Int) + l2) = wrap64 ((l1 : Int) + l2) := by
        unfold wrap64 IntKind.wrap
        have e1 : ((2 : Int) ^ IntKind.i64.bits) = 18446744073709551616 := rfl
        have e2 : ((2 : Int) ^ (IntKind.i64.bits - 1)) = 9223372036854775808 := rfl
        have e3 : IntKind.i64.signed = true := rfl
        simp only [e1, e2, e3, Bool.true_and, decide_eq_true_eq, true_and]
        split <;> omega
      refine ⟨_, e, rfl, ?_⟩
      unfold wrap64
      omega
  clear hbig hm1 hm2
  go_enter Try.func3, Try.ntmps3
  go_wp2_with fail
  clear hz hz2 hz3
  refine (DrawCallHead_any a1 l1 c1 z1 _ HZ1.out HL1.out).mono ?_
  rintro e w1 ⟨s, n, v, L, x, y, r, rfl, hsz, hn2, hn9, hn, hL, hs, hx, hy, hr, hb1⟩
  have hsx : s.size ≤ maxLen := by unfold maxLen; omega
  obtain ⟨sp, np, P, th, tr, o, xs, fl, hP, hxs, f1, f2, f3, f4, f5, f6, f7, f8, f9, f10, hfact⟩ := callsFacts s hsx n L (by omega) (small10k hs) x y hx hy r
  have HF1 := Lib.hid f1
  have HF2 := Lib.hid f2
  have HF3 := Lib.hid f3
  have HF4 := Lib.hid f4
  have HF5 := Lib.hid f5
  have HF6 := Lib.hid f6
  have HF7 := Lib.hid f7
  have HF8 := Lib.hid f8
  have HF9 := Lib.hid f9
  have HF10 := Lib.hid f10
  have HFACT := Lib.hid hfact
  obtain ⟨gk, hgk⟩ : ∃ gk, goodK s n L x y = gk := ⟨_, rfl⟩
  have HG1 : Hid (∀ u w, Txts w u L → Calls Try.prog 29 #[.agg #[.string s, .int .i64 n, u], .agg #[.string x, .string y]] w fun e w' => e = .returned (.bool gk) ∧ Below w.heap.size w w') := Lib.hid (fun u w h => by
    have := iGoodCalls_any s hsx n u L x y w h (by omega)
    rwa [hgk] at this)
  have HG2 : Hid (∀ u w, Txts w u L → Calls Try.prog 30 #[.agg #[.string s, .int .i64 n, u], .agg #[.string x, .string y]] w fun e w' => e = .returned (.bool gk) ∧ Below w.heap.size w w') := Lib.hid (fun u w h => by
    have := sGoodCalls_any s hsx n u L x y (by unfold maxLen; omega) (by unfold maxLen; omega) w h (by omega) (small10k hs)
    rwa [hgk] at this)
  have HPL := Lib.hid hP
  have HXL := Lib.hid hxs
  unfold MethK at HF1 HF2
  unfold NumsAny at HF9 HF10
  obtain ⟨a, cap, hv, -⟩ := hn.own.view
  rw [strs_len] at hv
  subst hv
  have hal := ((Below.refl w1.heap.size w1).alloc (Nat.le_refl _) (.cells #[.string s, .int .i64 n, .slice a L.length cap] 25)).alloc (by simp) (.cells #[.string x, .string y] 27)
  have HM2 := Lib.hid ((RowAt.new w1 25 #[.string s, .int .i64 n, .slice a L.length cap]).push (.cells #[.string x, .string y] 27))
  have HK2 : Hid (RowAt ((w1.alloc (.cells #[.string s, .int .i64 n, .slice a L.length cap] 25)).alloc (.cells #[.string x, .string y] 27)) (w1.heap.size + 1) 27 #[.string x, .string y]) := Lib.hid (by
    have := RowAt.new (w1.alloc (.cells #[.string s, .int .i64 n, .slice a L.length cap] 25)) 27 #[.string x, .string y]
    simpa using this)
  have HT2 := Lib.hid (hn.own.txts.kept hal)
  have HB2 := Lib.hid (hb1.trans (hal.mono hb1.size))
  obtain ⟨mL, hmL⟩ : ∃ mL, L.length = mL := ⟨_, rfl⟩
  have HLL := Lib.hid hmL
  rw [hmL] at HM2 HK2 HT2 HB2 ⊢
  clear hn hb1 hal hs hsz hn2 hn9 hx hy hr hsx f1 f2 f3 f4 f5 f6 f7 f8 f9 f10 hfact hP hxs hgk hL hmL HZ1 HL1
  go_wp2_with (first | (refine wpList_store_row rfl 25 _ _ rfl _ _ rfl rfl 25 _ (heap_at _ _ _ (by simp)) (by kernel_rfl) rfl (by kernel_rfl) ?_; rw [setRow_at _ _ _ _ _ (by simp)]) | (refine wpList_store_row rfl 27 _ _ rfl _ _ rfl rfl 27 _ (heap_at _ _ _ (by simp)) (by kernel_rfl) rfl (by kernel_rfl) ?_; rw [setRow_at _ _ _ _ _ (by simp)]) | (refine wpList_load_row rfl 25 _ rfl _ rfl 25 _ _ _ (HM2.out) Try.underlying25 rfl (by kernel_rfl) ?_) | (refine wpList_load_row rfl 27 _ rfl _ rfl 27 _ _ _ (HK2.out) Try.underlying27 rfl (by kernel_rfl) ?_) | fail)
  obtain ⟨p, hp⟩ : ∃ p, P.length = p := ⟨_, rfl⟩
  have HPP := Lib.hid hp
  clear hp
  refine (HF1.out _ _ HT2.out).mono ?_
  rintro e w12 ⟨v12, rfl, hn12, hb12⟩
  have ho12 := hn12.own
  obtain ⟨a12, k12, rfl, -⟩ := ho12.view
  rw [strs_len, HPP.out] at ho12 ⊢
  have HM3 := Lib.hid (HM2.out.kept hb12)
  have HK3 := Lib.hid (HK2.out.kept hb12)
  have HT3 := Lib.hid (HT2.out.kept hb12)
  have HB3 := Lib.hid (HB2.out.trans (hb12.mono HB2.out.size))
  clear HM2 HK2 HT2 HB2 hb12
  have hal := (Below.refl w12.heap.size w12).alloc (Nat.le_refl _) (.cells #[.string sp, .int .i64 np, .slice a12 p k12] 25)
  have HA4 := Lib.hid (RowAt.new w12 25 #[.string sp, .int .i64 np, .slice a12 p k12])
  have HN4 := Lib.hid (ho12.kept hal)
  have HM4 := Lib.hid (HM3.out.kept hal)
  have HK4 := Lib.hid (HK3.out.kept hal)
  have HT4 := Lib.hid (HT3.out.kept hal)
  have HB4 := Lib.hid (HB3.out.trans (hal.mono HB3.out.size))
  clear HM3 HK3 HT3 HB3 hal
  clear hn12 ho12
  go_wp2_with (first | (refine wpList_store_row rfl 25 _ _ rfl _ _ rfl rfl 25 _ (heap_alloc_new _ _) (by kernel_rfl) rfl (by kernel_rfl) ?_; rw [World.setRow_alloc_new]) | (refine wpList_load_row rfl 25 _ rfl _ rfl 25 _ _ _ (HM4.out) Try.underlying25 rfl (by kernel_rfl) ?_) | (refine wpList_load_row rfl 27 _ rfl _ rfl 27 _ _ _ (HK4.out) Try.underlying27 rfl (by kernel_rfl) ?_) | fail)
  generalize hgw12 : w12.alloc (.cells #[.string sp, .int .i64 np, .slice a12 p k12] 25) = w62 at *
  clear hgw12
  obtain ⟨lb, hlb⟩ : ∃ lb, w12.heap.size = lb := ⟨_, rfl⟩
  rw [hlb] at HA4
  simp only [hlb]
  clear hlb
  refine (HF2.out _ _ HT4.out).mono ?_
  rintro e w14 ⟨v14, rfl, hn14, hb14⟩
  have ho14 := hn14.own
  obtain ⟨a14, k14, rfl, -⟩ := ho14.view
  rw [strs_len, HPP.out] at ho14 ⊢
  have HM5 := Lib.hid (HM4.out.kept hb14)
  have HK5 := Lib.hid (HK4.out.kept hb14)
  have HT5 := Lib.hid (HT4.out.kept hb14)
  have HB5 := Lib.hid (HB4.out.trans (hb14.mono HB4.out.size))
  have HA5 := Lib.hid (HA4.out.kept hb14)
  have HN5 := Lib.hid (HN4.out.kept hb14)
  clear HM4 HK4 HT4 HB4 HA4 HN4 hb14
  have hal := (Below.refl w14.heap.size w14).alloc (Nat.le_refl _) (.cells #[.string sp, .int .i64 np, .slice a14 p k14] 25)
  have HC6 := Lib.hid (RowAt.new w14 25 #[.string sp, .int .i64 np, .slice a14 p k14])
  have HQ6 := Lib.hid (ho14.kept hal)
  have HM6 := Lib.hid (HM5.out.kept hal)
  have HK6 := Lib.hid (HK5.out.kept hal)
  have HT6 := Lib.hid (HT5.out.kept hal)
  have HB6 := Lib.hid (HB5.out.trans (hal.mono HB5.out.size))
  have HA6 := Lib.hid (HA5.out.kept hal)
  have HN6 := Lib.hid (HN5.out.kept hal)
  clear HM5 HK5 HT5 HB5 HA5 HN5 hal
  clear hn14 ho14
  go_wp2_with (first | (refine wpList_store_row rfl 25 _ _ rfl _ _ rfl rfl 25 _ (heap_alloc_new _ _) (by kernel_rfl) rfl (by kernel_rfl) ?_; rw [World.setRow_alloc_new]) | (refine wpList_load_row rfl 25 _ rfl _ rfl 25 _ _ _ (HM6.out) Try.underlying25 rfl (by kernel_rfl) ?_) | (refine wpList_load_row rfl 27 _ rfl _ rfl 27 _ _ _ (HK6.out) Try.underlying27 rfl (by kernel_rfl) ?_) | fail)
  generalize hgw14 : w14.alloc (.cells #[.string sp, .int .i64 np, .slice a14 p k14] 25) = w64 at *
  clear hgw14
  obtain ⟨wb, hwb⟩ : ∃ wb, w14.heap.size = wb := ⟨_, rfl⟩
  rw [hwb] at HC6
  simp only [hwb]
  clear hwb
  refine (HF3.out _ _ HT6.out).mono ?_
  rintro e w16 ⟨rfl, hb16⟩
  have HM7 := Lib.hid (HM6.out.kept hb16)
  have HK7 := Lib.hid (HK6.out.kept hb16)
  have HT7 := Lib.hid (HT6.out.kept hb16)
  have HB7 := Lib.hid (HB6.out.trans (hb16.mono HB6.out.size))
  have HA7 := Lib.hid (HA6.out.kept hb16)
  have HN7 := Lib.hid (HN6.out.kept hb16)
  have HC7 := Lib.hid (HC6.out.kept hb16)
  have HQ7 := Lib.hid (HQ6.out.kept hb16)
  clear HM6 HK6 HT6 HB6 HA6 HN6 HC6 HQ6 hb16
  go_wp2_with (first | (refine wpList_load_row rfl 25 _ rfl _ rfl 25 _ _ _ (HM7.out) Try.underlying25 rfl (by kernel_rfl) ?_) | (refine wpList_load_row rfl 27 _ rfl _ rfl 27 _ _ _ (HK7.out) Try.underlying27 rfl (by kernel_rfl) ?_) | fail)
  refine (HF4.out _ _ HT7.out).mono ?_
  rintro e w17 ⟨rfl, hb17⟩
  have HM8 := Lib.hid (HM7.out.kept hb17)
  have HK8 := Lib.hid (HK7.out.kept hb17)
  have HT8 := Lib.hid (HT7.out.kept hb17)
  have HB8 := Lib.hid (HB7.out.trans (hb17.mono HB7.out.size))
  have HA8 := Lib.hid (HA7.out.kept hb17)
  have HN8 := Lib.hid (HN7.out.kept hb17)
  have HC8 := Lib.hid (HC7.out.kept hb17)
  have HQ8 := Lib.hid (HQ7.out.kept hb17)
  clear HM7 HK7 HT7 HB7 HA7 HN7 HC7 HQ7 hb17
  go_wp2_with (first | (refine wpList_load_row rfl 25 _ rfl _ rfl 25 _ _ _ (HM8.out) Try.underlying25 rfl (by kernel_rfl) ?_) | (refine wpList_load_row rfl 27 _ rfl _ rfl 27 _ _ _ (HK8.out) Try.underlying27 rfl (by kernel_rfl) ?_) | fail)
  refine (HF5.out _ _ HT8.out).mono ?_
  rintro e w18 ⟨rfl, hb18⟩
  have HM9 := Lib.hid (HM8.out.kept hb18)
  have HK9 := Lib.hid (HK8.out.kept hb18)
  have HT9 := Lib.hid (HT8.out.kept hb18)
  have HB9 := Lib.hid (HB8.out.trans (hb18.mono HB8.out.size))
  have HA9 := Lib.hid (HA8.out.kept hb18)
  have HN9 := Lib.hid (HN8.out.kept hb18)
  have HC9 := Lib.hid (HC8.out.kept hb18)
  have HQ9 := Lib.hid (HQ8.out.kept hb18)
  clear HM8 HK8 HT8 HB8 HA8 HN8 HC8 HQ8 hb18
  go_wp2_with (first | (refine wpList_load_row rfl 25 _ rfl _ rfl 25 _ _ _ (HM9.out) Try.underlying25 rfl (by kernel_rfl) ?_) | (refine wpList_load_row rfl 27 _ rfl _ rfl 27 _ _ _ (HK9.out) Try.underlying27 rfl (by kernel_rfl) ?_) | fail)
  refine (HF6.out _ _ HT9.out).mono ?_
  rintro e w19 ⟨rfl, hb19⟩
  have HM10 := Lib.hid (HM9.out.kept hb19)
  have HK10 := Lib.hid (HK9.out.kept hb19)
  have HT10 := Lib.hid (HT9.out.kept hb19)
  have HB10 := Lib.hid (HB9.out.trans (hb19.mono HB9.out.size))
  have HA10 := Lib.hid (HA9.out.kept hb19)
  have HN10 := Lib.hid (HN9.out.kept hb19)
  have HC10 := Lib.hid (HC9.out.kept hb19)
  have HQ10 := Lib.hid (HQ9.out.kept hb19)
  clear HM9 HK9 HT9 HB9 HA9 HN9 HC9 HQ9 hb19
  go_wp2_with (first | (refine wpList_load_row rfl 25 _ rfl _ rfl 25 _ _ _ (HM10.out) Try.underlying25 rfl (by kernel_rfl) ?_) | (refine wpList_load_row rfl 27 _ rfl _ rfl 27 _ _ _ (HK10.out) Try.underlying27 rfl (by kernel_rfl) ?_) | fail)
  refine (HF7.out _ _ HT10.out).mono ?_
  rintro e w20 ⟨rfl, hb20⟩
  have HM11 := Lib.hid (HM10.out.kept hb20)
  have HK11 := Lib.hid (HK10.out.kept hb20)
  have HT11 := Lib.hid (HT10.out.kept hb20)
  have HB11 := Lib.hid (HB10.out.trans (hb20.mono HB10.out.size))
  have HA11 := Lib.hid (HA10.out.kept hb20)
  have HN11 := Lib.hid (HN10.out.kept hb20)
  have HC11 := Lib.hid (HC10.out.kept hb20)
  have HQ11 := Lib.hid (HQ10.out.kept hb20)
  clear HM10 HK10 HT10 HB10 HA10 HN10 HC10 HQ10 hb20
  go_wp2_with (first | (refine wpList_load_row rfl 25 _ rfl _ rfl 25 _ _ _ (HM11.out) Try.underlying25 rfl (by kernel_rfl) ?_) | (refine wpList_load_row rfl 27 _ rfl _ rfl 27 _ _ _ (HK11.out) Try.underlying27 rfl (by kernel_rfl) ?_) | fail)
  refine (HF8.out _ _ HT11.out).mono ?_
  rintro e w21 ⟨rfl, hb21⟩
  have HM12 := Lib.hid (HM11.out.kept hb21)
  have HK12 := Lib.hid (HK11.out.kept hb21)
  have HT12 := Lib.hid (HT11.out.kept hb21)
  have HB12 := Lib.hid (HB11.out.trans (hb21.mono HB11.out.size))
  have HA12 := Lib.hid (HA11.out.kept hb21)
  have HN12 := Lib.hid (HN11.out.kept hb21)
  have HC12 := Lib.hid (HC11.out.kept hb21)
  have HQ12 := Lib.hid (HQ11.out.kept hb21)
  clear HM11 HK11 HT11 HB11 HA11 HN11 HC11 HQ11 hb21
  go_wp2_with (first | (refine wpList_load_row rfl 25 _ rfl _ rfl 25 _ _ _ (HM12.out) Try.underlying25 rfl (by kernel_rfl) ?_) | (refine wpList_load_row rfl 27 _ rfl _ rfl 27 _ _ _ (HK12.out) Try.underlying27 rfl (by kernel_rfl) ?_) | fail)
  refine (HF9.out _ _ HT12.out).mono ?_
  rintro e w22 ⟨vX, rfl, hn22, hb22⟩
  have ho22 := hn22.own
  have HM13 := Lib.hid (HM12.out.kept hb22)
  have HK13 := Lib.hid (HK12.out.kept hb22)
  have HT13 := Lib.hid (HT12.out.kept hb22)
  have HB13 := Lib.hid (HB12.out.trans (hb22.mono HB12.out.size))
  have HA13 := Lib.hid (HA12.out.kept hb22)
  have HN13 := Lib.hid (HN12.out.kept hb22)
  have HC13 := Lib.hid (HC12.out.kept hb22)
  have HQ13 := Lib.hid (HQ12.out.kept hb22)
  clear HM12 HK12 HT12 HB12 HA12 HN12 HC12 HQ12 hb22
  have HX13 := Lib.hid ho22
  clear hn22 ho22
  go_wp2_with (first | (refine wpList_load_row rfl 25 _ rfl _ rfl 25 _ _ _ (HM13.out) Try.underlying25 rfl (by kernel_rfl) ?_) | (refine wpList_load_row rfl 27 _ rfl _ rfl 27 _ _ _ (HK13.out) Try.underlying27 rfl (by kernel_rfl) ?_) | fail)
  refine (HF10.out _ _ HT13.out).mono ?_
  rintro e w23 ⟨vY, rfl, hn23, hb23⟩
  have ho23 := hn23.own
  have HM14 := Lib.hid (HM13.out.kept hb23)
  have HK14 := Lib.hid (HK13.out.kept hb23)
  have HT14 := Lib.hid (HT13.out.kept hb23)
  have HB14 := Lib.hid (HB13.out.trans (hb23.mono HB13.out.size))
  have HA14 := Lib.hid (HA13.out.kept hb23)
  have HN14 := Lib.hid (HN13.out.kept hb23)
  have HC14 := Lib.hid (HC13.out.kept hb23)
  have HQ14 := Lib.hid (HQ13.out.kept hb23)
  have HX14 := Lib.hid (HX13.out.kept hb23)
  clear HM13 HK13 HT13 HB13 HA13 HN13 HC13 HQ13 HX13 hb23
  have HY14 := Lib.hid ho23
  clear hn23 ho23
  obtain ⟨aX, kX, hvX, -⟩ := HX14.out.view
  rw [nums_len] at hvX
  subst hvX
  obtain ⟨aY, kY, hvY, -⟩ := HY14.out.view
  rw [nums_len] at hvY
  subst hvY
  have hsame : sameB sp sp np np P P = true := by
    unfold sameB
    rw [sameLs_yes rfl (fun t _ => sameT_self _)]
    simp
  have HXA : Hid (∀ W', Below w23.heap.size w23 W' → (W'.cell? ⟨lb, 0, none⟩ = some (.string sp) ∧ W'.cell? ⟨lb, 1, none⟩ = some (.int .i64 np) ∧ W'.cell? ⟨lb, 2, none⟩ = some (.slice a12 p k12) ∧ W'.cell? ⟨wb, 0, none⟩ = some (.string sp) ∧ W'.cell? ⟨wb, 1, none⟩ = some (.int .i64 np) ∧ W'.cell? ⟨wb, 2, none⟩ = some (.slice a14 p k14) ∧ W'.cell? ⟨w1.heap.size, 0, none⟩ = some (.string s) ∧ W'.cell? ⟨w1.heap.size, 1, none⟩ = some (.int .i64 n) ∧ W'.cell? ⟨w1.heap.size, 2, none⟩ = some (.slice a mL cap) ∧ W'.cell? ⟨w1.heap.size + 1, 0, none⟩ = some (.string x) ∧ W'.cell? ⟨w1.heap.size + 1, 1, none⟩ = some (.string y))) := Lib.hid (fun W' h => by
    have h1 := HA14.out.keep h HA14.out.lt
    have h2 := HC14.out.keep h HC14.out.lt
    have h3 := HM14.out.keep h HM14.out.lt
    have h4 := HK14.out.keep h HK14.out.lt
    exact ⟨h1.cell 0 rfl, h1.cell 1 rfl, h1.cell 2 rfl, h2.cell 0 rfl, h2.cell 1 rfl, h2.cell 2 rfl, h3.cell 0 rfl, h3.cell 1 rfl, h3.cell 2 rfl, h4.cell 0 rfl, h4.cell 1 rfl⟩)
  have HC1 : Hid (∀ W', Below w23.heap.size w23 W' → Calls Try.prog 27 #[.agg #[.string sp, .int .i64 np, .slice a12 p k12], .agg #[.string sp, .int .i64 np, .slice a14 p k14]] W' fun e w' => e = .returned (.bool true) ∧ Below w23.heap.size w23 w') := Lib.hid (fun W' h => (sSameMethod_any sp sp np np _ _ P P W' (HN14.out.kept h).txts (HQ14.out.kept h).txts (by have := HPL.out; omega) (by have := HPL.out; omega)).mono fun e w' hw => ⟨by rw [hw.1, hsame], h.trans (hw.2.mono h.size)⟩)
  have HC2 : Hid (∀ W', Below w23.heap.size w23 W' → Calls Try.prog 28 #[.slice aX xs.length kX, .slice aY xs.length kY] W' fun e w' => e = .returned (.bool true) ∧ Below w23.heap.size w23 w') := Lib.hid (fun W' h => (qSameN_same _ _ _ W' (HX14.out.kept h) (HY14.out.kept h) (by rw [List.length_map]; have := HXL.out; omega)).mono fun e w' hw => by
    obtain ⟨rfl, d, rfl⟩ := hw
    exact ⟨rfl, below_drewN h _⟩)
  have HC3 : Hid (∀ W', Below w23.heap.size w23 W' → Calls Try.prog 29 #[.agg #[.string s, .int .i64 n, .slice a mL cap], .agg #[.string x, .string y]] W' fun e w' => e = .returned (.bool gk) ∧ Below w23.heap.size w23 w') := Lib.hid (fun W' h => (HG1.out _ _ (HT14.out.kept h)).mono fun e w' hw => ⟨hw.1, h.trans (hw.2.mono h.size)⟩)
  have HC4 : Hid (∀ W', Below w23.heap.size w23 W' → Calls Try.prog 30 #[.agg #[.string s, .int .i64 n, .slice a mL cap], .agg #[.string x, .string y]] W' fun e w' => e = .returned (.bool gk) ∧ Below w23.heap.size w23 w') := Lib.hid (fun W' h => (HG2.out _ _ (HT14.out.kept h)).mono fun e w' hw => ⟨hw.1, h.trans (hw.2.mono h.size)⟩)
  have hq0 := HXA.out _ (Below.refl _ _).drew
  have hf1 : (fl != fl) = false := by simp
  have hf2 : (th.toList != th.toList) = false := by simp
  have hf3 : (tr.toList != tr.toList) = false := by simp
  have hf4 : (gk != gk) = false := by simp
  have hf5 : (o != o) = false := by simp
  clear hsame
  go_wp2
  go_region_held3 (fun w' => w'.cell? ⟨lb, 0, none⟩ = some (.string sp) ∧ w'.cell? ⟨lb, 1, none⟩ = some (.int .i64 np) ∧ w'.cell? ⟨lb, 2, none⟩ = some (.slice a12 p k12) ∧ w'.cell? ⟨wb, 0, none⟩ = some (.string sp) ∧ w'.cell? ⟨wb, 1, none⟩ = some (.int .i64 np) ∧ w'.cell? ⟨wb, 2, none⟩ = some (.slice a14 p k14) ∧ w'.cell? ⟨w1.heap.size, 0, none⟩ = some (.string s) ∧ w'.cell? ⟨w1.heap.size, 1, none⟩ = some (.int .i64 n) ∧ w'.cell? ⟨w1.heap.size, 2, none⟩ = some (.slice a mL cap) ∧ w'.cell? ⟨w1.heap.size + 1, 0, none⟩ = some (.string x) ∧ w'.cell? ⟨w1.heap.size + 1, 1, none⟩ = some (.string y)) (first | with_reducible assumption | with_reducible exact hq0) (first
    | (go_at_call 27; refine (HC1.out _ (Below.refl _ _).drew).mono ?_; rintro e31 x31 ⟨rfl, hb31⟩; have hS31 := HXA.out _ hb31)
    | (go_at_call 28; refine (HC2.out _ hb31).mono ?_; rintro e32 x32 ⟨rfl, hb32⟩; have hS32 := HXA.out _ hb32)
    | (go_at_call 29; refine (HC3.out _ hb32).mono ?_; rintro e33 x33 ⟨rfl, hb33⟩; have hS33 := HXA.out _ hb33)
    | (go_at_call 30; refine (HC4.out _ hb33).mono ?_; rintro e34 x34 ⟨rfl, hb34⟩; have hS34 := HXA.out _ hb34)
    | fail)
  have HMa := Lib.hid (HM14.out.kept hb34)
  have HKa := Lib.hid (HK14.out.kept hb34)
  have HTa := Lib.hid (HT14.out.kept hb34)
  have HBa := Lib.hid (HB14.out.trans (hb34.mono HB14.out.size))
  have HAa := Lib.hid (HA14.out.kept hb34)
  have HNa := Lib.hid (HN14.out.kept hb34)
  have HXa := Lib.hid (HX14.out.kept hb34)
  clear hS31 hS32 hS33 hS34 hb31 hb32 hb33 hb34 HXA HC1 HC2 HC3 HC4 hq0 hf1 hf2 hf3 hf4 hf5 HM14 HK14 HT14 HB14 HA14 HN14 HC14 HQ14 HX14 HY14
  cases fl
  · clear HFACT HMa HKa HTa HAa HNa HXa
    go_wp2_with fail
    refine (DrawSameLead_any a2 l2 c2 z2 _ (HZ2.out.belowW HBa.out) HL2.out).mono ?_
    rintro e x51 ⟨s2, n2, v2, L2, p2, y2, r21, r22, rfl, gsz, gn2, gn9, gn, gL, gs, gx, gy, gr1, gr2, gb⟩
    have gsx : s2.size ≤ maxLen := by unfold maxLen; omega
    obtain ⟨rs, fs, f1, f2⟩ := bothSameLead s2 gsx n2 L2 (by omega) (small10k gs) p2 y2 (by unfold maxLen; omega) (by unfold maxLen; omega) r21 r22 (by unfold maxLen; omega) (by unfold maxLen; omega)
    obtain ⟨PH, fh, hPH, f3, f4⟩ := bothCallHeads s2 gsx n2 L2 (by omega) (small10k gs) p2 y2 (by unfold maxLen; omega) (by unfold maxLen; omega)
    have HF1 := Lib.hid f1
    have HF2 := Lib.hid f2
    have HF3 := Lib.hid f3
    have HF4 := Lib.hid f4
    unfold TextsAny at HF3 HF4
    obtain ⟨av2, cv2, hv2, -⟩ := gn.own.view
    rw [strs_len] at hv2
    subst hv2
    have hal := ((Below.refl x51.heap.size x51).alloc (Nat.le_refl _) (.cells #[.string s2, .int .i64 n2, .slice av2 L2.length cv2] 25)).alloc (by simp) (.cells #[.string p2, .string y2] 27)
    have HM52 := Lib.hid ((RowAt.new x51 25 #[.string s2, .int .i64 n2, .slice av2 L2.length cv2]).push (.cells #[.string p2, .string y2] 27))
    have HK52 : Hid (RowAt ((x51.alloc (.cells #[.string s2, .int .i64 n2, .slice av2 L2.length cv2] 25)).alloc (.cells #[.string p2, .string y2] 27)) (x51.heap.size + 1) 27 #[.string p2, .string y2]) := Lib.hid (by
      have := RowAt.new (x51.alloc (.cells #[.string s2, .int .i64 n2, .slice av2 L2.length cv2] 25)) 27 #[.string p2, .string y2]
      simpa using this)
    have HT52 := Lib.hid (gn.own.txts.kept hal)
    have HB51 := Lib.hid (HBa.out.trans (gb.mono HBa.out.size))
    have HB52 := Lib.hid (HB51.out.trans (hal.mono HB51.out.size))
    have hPHL := Lib.hid hPH
    clear gn gb hal gs gsz gn2 gn9 gx gy gr1 gr2 gsx f1 f2 f3 f4 hPH gL HB51
    generalize L2.length = mL2 at *
    go_wp2_with (first | (refine wpList_store_row rfl 25 _ _ rfl _ _ rfl rfl 25 _ (heap_at _ _ _ (by simp)) (by kernel_rfl) rfl (by kernel_rfl) ?_; rw [setRow_at _ _ _ _ _ (by simp)]) | (refine wpList_store_row rfl 27 _ _ rfl _ _ rfl rfl 27 _ (heap_at _ _ _ (by simp)) (by kernel_rfl) rfl (by kernel_rfl) ?_; rw [setRow_at _ _ _ _ _ (by simp)]) | (refine wpList_load_row rfl 25 _ rfl _ rfl 25 _ _ _ (HM52.out) Try.underlying25 rfl (by kernel_rfl) ?_) | (refine wpList_load_row rfl 27 _ rfl _ rfl 27 _ _ _ (HK52.out) Try.underlying27 rfl (by kernel_rfl) ?_) | fail)
    refine (HF1.out _ _ HT52.out).mono ?_
    rintro e x53 ⟨rfl, hb53⟩
    have HM53 := Lib.hid (HM52.out.kept hb53)
    have HK53 := Lib.hid (HK52.out.kept hb53)
    have HT53 := Lib.hid (HT52.out.kept hb53)
    have HB53 := Lib.hid (HB52.out.trans (hb53.mono HB52.out.size))
    clear hb53 HM52 HK52 HT52 HB52
    go_wp2_with (first | (refine wpList_load_row rfl 25 _ rfl _ rfl 25 _ _ _ (HM53.out) Try.underlying25 rfl (by kernel_rfl) ?_) | (refine wpList_load_row rfl 27 _ rfl _ rfl 27 _ _ _ (HK53.out) Try.underlying27 rfl (by kernel_rfl) ?_) | fail)
    refine (HF2.out _ _ HT53.out).mono ?_
    rintro e x54 ⟨rfl, hb54⟩
    have HM54 := Lib.hid (HM53.out.kept hb54)
    have HK54 := Lib.hid (HK53.out.kept hb54)
    have HT54 := Lib.hid (HT53.out.kept hb54)
    have HB54 := Lib.hid (HB53.out.trans (hb54.mono HB53.out.size))
    clear hb54 HM53 HK53 HT53 HB53
    go_wp2_with (first | (refine wpList_load_row rfl 25 _ rfl _ rfl 25 _ _ _ (HM54.out) Try.underlying25 rfl (by kernel_rfl) ?_) | (refine wpList_load_row rfl 27 _ rfl _ rfl 27 _ _ _ (HK54.out) Try.underlying27 rfl (by kernel_rfl) ?_) | fail)
    refine (HF3.out _ _ HT54.out).mono ?_
    rintro e x55 ⟨v55, rfl, hn55, hb55⟩
    have HM55 := Lib.hid (HM54.out.kept hb55)
    have HK55 := Lib.hid (HK54.out.kept hb55)
    have HT55 := Lib.hid (HT54.out.kept hb55)
    have HB55 := Lib.hid (HB54.out.trans (hb55.mono HB54.out.size))
    clear hb55 HM54 HK54 HT54 HB54
    have HU55 := Lib.hid hn55.own
    clear hn55
    go_wp2_with (first | (refine wpList_load_row rfl 25 _ rfl _ rfl 25 _ _ _ (HM55.out) Try.underlying25 rfl (by kernel_rfl) ?_) | (refine wpList_load_row rfl 27 _ rfl _ rfl 27 _ _ _ (HK55.out) Try.underlying27 rfl (by kernel_rfl) ?_) | fail)
    refine (HF4.out _ _ HT55.out).mono ?_
    rintro e x56 ⟨v56, rfl, hn56, hb56⟩
    have HB56 := Lib.hid (HB55.out.trans (hb56.mono HB55.out.size))
    have HU56 := Lib.hid (HU55.out.kept hb56)
    have HV56 := Lib.hid hn56.own
    clear hn56 hb56 HM55 HK55 HT55 HB55 HU55 HF1 HF2 HF3 HF4
    have he1 : (fs == fs) = true := by simp
    have he2 : (rs == rs) = true := by simp
    have he3 : (fh == fh) = true := by simp
    have HQS := Lib.hid (qSameS_same v55 v56 PH x56 HU56.out HV56.out (by have := hPHL.out; omega))
    go_wp2_with (first | (go_at_call 40; refine HQS.out.mono ?_; rintro e57 x57 ⟨rfl, d57, rfl⟩) | fail)
    go_ret
    exact ⟨rfl, below_drewN HB56.out _⟩
  · obtain ⟨⟨kk, hnk, hk3, hk8⟩, hlead, ⟨tp, hpl, htm⟩, ⟨tn, hrd, hpw⟩, hstill⟩ := HFACT.out rfl
    have HLEAD := Lib.hid hlead
    have HPLN := Lib.hid hpl
    have HTMS := Lib.hid htm
    have HRDS := Lib.hid hrd
    have HPWR := Lib.hid hpw
    have HSTL := Lib.hid hstill
    clear HFACT hlead hpl htm hrd hpw hstill hk3 hk8 hnk
    go_wp2_with (first | (refine wpList_load_row rfl 25 _ rfl _ rfl 25 _ _ _ (HAa.out) Try.underlying25 rfl (by kernel_rfl) ?_) | fail)
    refine (HLEAD.out _ _ HNa.out.txts).mono ?_
    rintro e x41 ⟨rfl, hb41⟩
    have HM41 := Lib.hid (HMa.out.kept hb41)
    have HT41 := Lib.hid (HTa.out.kept hb41)
    have HB41 := Lib.hid (HBa.out.trans (hb41.mono HBa.out.size))
    have HX41 := Lib.hid (HXa.out.kept hb41)
    clear hb41 HMa HKa HTa HBa HAa HNa HXa
    go_wp2_with (first | (refine wpList_load_row rfl 25 _ rfl _ rfl 25 _ _ _ (HM41.out) Try.underlying25 rfl (by kernel_rfl) ?_) | fail)
    refine (HPLN.out _ _ HT41.out).mono ?_
    rintro e x42 ⟨rfl, hb42⟩
    have HM42 := Lib.hid (HM41.out.kept hb42)
    have HB42 := Lib.hid (HB41.out.trans (hb42.mono HB41.out.size))
    have HX42 := Lib.hid (HX41.out.kept hb42)
    clear hb42 HM41 HT41 HB41 HX41
    go_wp2_with fail
    refine (HTMS.out _).mono ?_
    rintro e x43 ⟨rfl, hb43⟩
    have HM43 := Lib.hid (HM42.out.kept hb43)
    have HB43 := Lib.hid (HB42.out.trans (hb43.mono HB42.out.size))
    have HX43 := Lib.hid (HX42.out.kept hb43)
    clear hb43 HM42 HB42 HX42
    have c1 := HM43.out.cell 1 rfl
    go_wp2_with fail
    refine (HRDS.out _).mono ?_
    rintro e x44 ⟨rfl, rfl⟩
    clear c1
    go_wp2_with fail
    refine (HPWR.out _).mono ?_
    rintro e x45 ⟨rfl, hb45⟩
    have HBb := Lib.hid (HB43.out.trans (hb45.mono HB43.out.size))
    have hf2 : (th.toList != th.toList) = false := by simp
    have hf3 : (tn.toList != tn.toList) = false := by simp
    clear hb45 HM43 HB43 HX43
    by_cases hr : r = ⟨#[112]⟩
    · have hx0 := HSTL.out hr
      subst hr
      subst hx0
      go_wp2_with fail
      refine (DrawSameLead_any a2 l2 c2 z2 _ (HZ2.out.belowW HBb.out) HL2.out).mono ?_
      rintro e x51 ⟨s2, n2, v2, L2, p2, y2, r21, r22, rfl, gsz, gn2, gn9, gn, gL, gs, gx, gy, gr1, gr2, gb⟩
      have gsx : s2.size ≤ maxLen := by unfold maxLen; omega
      obtain ⟨rs, fs, f1, f2⟩ := bothSameLead s2 gsx n2 L2 (by omega) (small10k gs) p2 y2 (by unfold maxLen; omega) (by unfold maxLen; omega) r21 r22 (by unfold maxLen; omega) (by unfold maxLen; omega)
      obtain ⟨PH, fh, hPH, f3, f4⟩ := bothCallHeads s2 gsx n2 L2 (by omega) (small10k gs) p2 y2 (by unfold maxLen; omega) (by unfold maxLen; omega)
      have HF1 := Lib.hid f1
      have HF2 := Lib.hid f2
      have HF3 := Lib.hid f3
      have HF4 := Lib.hid f4
      unfold TextsAny at HF3 HF4
      obtain ⟨av2, cv2, hv2, -⟩ := gn.own.view
      rw [strs_len] at hv2
      subst hv2
      have hal := ((Below.refl x51.heap.size x51).alloc (Nat.le_refl _) (.cells #[.string s2, .int .i64 n2, .slice av2 L2.length cv2] 25)).alloc (by simp) (.cells #[.string p2, .string y2] 27)
      have HM52 := Lib.hid ((RowAt.new x51 25 #[.string s2, .int .i64 n2, .slice av2 L2.length cv2]).push (.cells #[.string p2, .string y2] 27))
      have HK52 : Hid (RowAt ((x51.alloc (.cells #[.string s2, .int .i64 n2, .slice av2 L2.length cv2] 25)).alloc (.cells #[.string p2, .string y2] 27)) (x51.heap.size + 1) 27 #[.string p2, .string y2]) := Lib.hid (by
        have := RowAt.new (x51.alloc (.cells #[.string s2, .int .i64 n2, .slice av2 L2.length cv2] 25)) 27 #[.string p2, .string y2]
        simpa using this)
      have HT52 := Lib.hid (gn.own.txts.kept hal)
      have HB51 := Lib.hid (HBb.out.trans (gb.mono HBb.out.size))
      have HB52 := Lib.hid (HB51.out.trans (hal.mono HB51.out.size))
      have hPHL := Lib.hid hPH
      clear gn gb hal gs gsz gn2 gn9 gx gy gr1 gr2 gsx f1 f2 f3 f4 hPH gL HB51
      generalize L2.length = mL2 at *
      go_wp2_with (first | (refine wpList_store_row rfl 25 _ _ rfl _ _ rfl rfl 25 _ (heap_at _ _ _ (by simp)) (by kernel_rfl) rfl (by kernel_rfl) ?_; rw [setRow_at _ _ _ _ _ (by simp)]) | (refine wpList_store_row rfl 27 _ _ rfl _ _ rfl rfl 27 _ (heap_at _ _ _ (by simp)) (by kernel_rfl) rfl (by kernel_rfl) ?_; rw [setRow_at _ _ _ _ _ (by simp)]) | (refine wpList_load_row rfl 25 _ rfl _ rfl 25 _ _ _ (HM52.out) Try.underlying25 rfl (by kernel_rfl) ?_) | (refine wpList_load_row rfl 27 _ rfl _ rfl 27 _ _ _ (HK52.out) Try.underlying27 rfl (by kernel_rfl) ?_) | fail)
      refine (HF1.out _ _ HT52.out).mono ?_
      rintro e x53 ⟨rfl, hb53⟩
      have HM53 := Lib.hid (HM52.out.kept hb53)
      have HK53 := Lib.hid (HK52.out.kept hb53)
      have HT53 := Lib.hid (HT52.out.kept hb53)
      have HB53 := Lib.hid (HB52.out.trans (hb53.mono HB52.out.size))
      clear hb53 HM52 HK52 HT52 HB52
      go_wp2_with (first | (refine wpList_load_row rfl 25 _ rfl _ rfl 25 _ _ _ (HM53.out) Try.underlying25 rfl (by kernel_rfl) ?_) | (refine wpList_load_row rfl 27 _ rfl _ rfl 27 _ _ _ (HK53.out) Try.underlying27 rfl (by kernel_rfl) ?_) | fail)
      refine (HF2.out _ _ HT53.out).mono ?_
      rintro e x54 ⟨rfl, hb54⟩
      have HM54 := Lib.hid (HM53.out.kept hb54)
      have HK54 := Lib.hid (HK53.out.kept hb54)
      have HT54 := Lib.hid (HT53.out.kept hb54)
      have HB54 := Lib.hid (HB53.out.trans (hb54.mono HB53.out.size))
      clear hb54 HM53 HK53 HT53 HB53
      go_wp2_with (first | (refine wpList_load_row rfl 25 _ rfl _ rfl 25 _ _ _ (HM54.out) Try.underlying25 rfl (by kernel_rfl) ?_) | (refine wpList_load_row rfl 27 _ rfl _ rfl 27 _ _ _ (HK54.out) Try.underlying27 rfl (by kernel_rfl) ?_) | fail)
      refine (HF3.out _ _ HT54.out).mono ?_
      rintro e x55 ⟨v55, rfl, hn55, hb55⟩
      have HM55 := Lib.hid (HM54.out.kept hb55)
      have HK55 := Lib.hid (HK54.out.kept hb55)
      have HT55 := Lib.hid (HT54.out.kept hb55)
      have HB55 := Lib.hid (HB54.out.trans (hb55.mono HB54.out.size))
      clear hb55 HM54 HK54 HT54 HB54
      have HU55 := Lib.hid hn55.own
      clear hn55
      go_wp2_with (first | (refine wpList_load_row rfl 25 _ rfl _ rfl 25 _ _ _ (HM55.out) Try.underlying25 rfl (by kernel_rfl) ?_) | (refine wpList_load_row rfl 27 _ rfl _ rfl 27 _ _ _ (HK55.out) Try.underlying27 rfl (by kernel_rfl) ?_) | fail)
      refine (HF4.out _ _ HT55.out).mono ?_
      rintro e x56 ⟨v56, rfl, hn56, hb56⟩
      have HB56 := Lib.hid (HB55.out.trans (hb56.mono HB55.out.size))
      have HU56 := Lib.hid (HU55.out.kept hb56)
      have HV56 := Lib.hid hn56.own
      clear hn56 hb56 HM55 HK55 HT55 HB55 HU55 HF1 HF2 HF3 HF4
      have he1 : (fs == fs) = true := by simp
      have he2 : (rs == rs) = true := by simp
      have he3 : (fh == fh) = true := by simp
      have HQS := Lib.hid (qSameS_same v55 v56 PH x56 HU56.out HV56.out (by have := hPHL.out; omega))
      go_wp2_with (first | (go_at_call 40; refine HQS.out.mono ?_; rintro e57 x57 ⟨rfl, d57, rfl⟩) | fail)
      go_ret
      exact ⟨rfl, below_drewN HB56.out _⟩
    · have hp := ne_p hr
      have hp2 := Lib.hid hr
      clear hr
      go_wp2_with fail
      refine (DrawSameLead_any a2 l2 c2 z2 _ (HZ2.out.belowW HBb.out) HL2.out).mono ?_
      rintro e x51 ⟨s2, n2, v2, L2, p2, y2, r21, r22, rfl, gsz, gn2, gn9, gn, gL, gs, gx, gy, gr1, gr2, gb⟩
      have gsx : s2.size ≤ maxLen := by unfold maxLen; omega
      obtain ⟨rs, fs, f1, f2⟩ := bothSameLead s2 gsx n2 L2 (by omega) (small10k gs) p2 y2 (by unfold maxLen; omega) (by unfold maxLen; omega) r21 r22 (by unfold maxLen; omega) (by unfold maxLen; omega)
      obtain ⟨PH, fh, hPH, f3, f4⟩ := bothCallHeads s2 gsx n2 L2 (by omega) (small10k gs) p2 y2 (by unfold maxLen; omega) (by unfold maxLen; omega)
      have HF1 := Lib.hid f1
      have HF2 := Lib.hid f2
      have HF3 := Lib.hid f3
      have HF4 := Lib.hid f4
      unfold TextsAny at HF3 HF4
      obtain ⟨av2, cv2, hv2, -⟩ := gn.own.view
      rw [strs_len] at hv2
      subst hv2
      have hal := ((Below.refl x51.heap.size x51).alloc (Nat.le_refl _) (.cells #[.string s2, .int .i64 n2, .slice av2 L2.length cv2] 25)).alloc (by simp) (.cells #[.string p2, .string y2] 27)
      have HM52 := Lib.hid ((RowAt.new x51 25 #[.string s2, .int .i64 n2, .slice av2 L2.length cv2]).push (.cells #[.string p2, .string y2] 27))
      have HK52 : Hid (RowAt ((x51.alloc (.cells #[.string s2, .int .i64 n2, .slice av2 L2.length cv2] 25)).alloc (.cells #[.string p2, .string y2] 27)) (x51.heap.size + 1) 27 #[.string p2, .string y2]) := Lib.hid (by
        have := RowAt.new (x51.alloc (.cells #[.string s2, .int .i64 n2, .slice av2 L2.length cv2] 25)) 27 #[.string p2, .string y2]
        simpa using this)
      have HT52 := Lib.hid (gn.own.txts.kept hal)
      have HB51 := Lib.hid (HBb.out.trans (gb.mono HBb.out.size))
      have HB52 := Lib.hid (HB51.out.trans (hal.mono HB51.out.size))
      have hPHL := Lib.hid hPH
      clear gn gb hal gs gsz gn2 gn9 gx gy gr1 gr2 gsx f1 f2 f3 f4 hPH gL HB51
      generalize L2.length = mL2 at *
      go_wp2_with (first | (refine wpList_store_row rfl 25 _ _ rfl _ _ rfl rfl 25 _ (heap_at _ _ _ (by simp)) (by kernel_rfl) rfl (by kernel_rfl) ?_; rw [setRow_at _ _ _ _ _ (by simp)]) | (refine wpList_store_row rfl 27 _ _ rfl _ _ rfl rfl 27 _ (heap_at _ _ _ (by simp)) (by kernel_rfl) rfl (by kernel_rfl) ?_; rw [setRow_at _ _ _ _ _ (by simp)]) | (refine wpList_load_row rfl 25 _ rfl _ rfl 25 _ _ _ (HM52.out) Try.underlying25 rfl (by kernel_rfl) ?_) | (refine wpList_load_row rfl 27 _ rfl _ rfl 27 _ _ _ (HK52.out) Try.underlying27 rfl (by kernel_rfl) ?_) | fail)
      refine (HF1.out _ _ HT52.out).mono ?_
      rintro e x53 ⟨rfl, hb53⟩
      have HM53 := Lib.hid (HM52.out.kept hb53)
      have HK53 := Lib.hid (HK52.out.kept hb53)
      have HT53 := Lib.hid (HT52.out.kept hb53)
      have HB53 := Lib.hid (HB52.out.trans (hb53.mono HB52.out.size))
      clear hb53 HM52 HK52 HT52 HB52
      go_wp2_with (first | (refine wpList_load_row rfl 25 _ rfl _ rfl 25 _ _ _ (HM53.out) Try.underlying25 rfl (by kernel_rfl) ?_) | (refine wpList_load_row rfl 27 _ rfl _ rfl 27 _ _ _ (HK53.out) Try.underlying27 rfl (by kernel_rfl) ?_) | fail)
      refine (HF2.out _ _ HT53.out).mono ?_
      rintro e x54 ⟨rfl, hb54⟩
      have HM54 := Lib.hid (HM53.out.kept hb54)
      have HK54 := Lib.hid (HK53.out.kept hb54)
      have HT54 := Lib.hid (HT53.out.kept hb54)
      have HB54 := Lib.hid (HB53.out.trans (hb54.mono HB53.out.size))
      clear hb54 HM53 HK53 HT53 HB53
      go_wp2_with (first | (refine wpList_load_row rfl 25 _ rfl _ rfl 25 _ _ _ (HM54.out) Try.underlying25 rfl (by kernel_rfl) ?_) | (refine wpList_load_row rfl 27 _ rfl _ rfl 27 _ _ _ (HK54.out) Try.underlying27 rfl (by kernel_rfl) ?_) | fail)
      refine (HF3.out _ _ HT54.out).mono ?_
      rintro e x55 ⟨v55, rfl, hn55, hb55⟩
      have HM55 := Lib.hid (HM54.out.kept hb55)
      have HK55 := Lib.hid (HK54.out.kept hb55)
      have HT55 := Lib.hid (HT54.out.kept hb55)
      have HB55 := Lib.hid (HB54.out.trans (hb55.mono HB54.out.size))
      clear hb55 HM54 HK54 HT54 HB54
      have HU55 := Lib.hid hn55.own
      clear hn55
      go_wp2_with (first | (refine wpList_load_row rfl 25 _ rfl _ rfl 25 _ _ _ (HM55.out) Try.underlying25 rfl (by kernel_rfl) ?_) | (refine wpList_load_row rfl 27 _ rfl _ rfl 27 _ _ _ (HK55.out) Try.underlying27 rfl (by kernel_rfl) ?_) | fail)
      refine (HF4.out _ _ HT55.out).mono ?_
      rintro e x56 ⟨v56, rfl, hn56, hb56⟩
      have HB56 := Lib.hid (HB55.out.trans (hb56.mono HB55.out.size))
      have HU56 := Lib.hid (HU55.out.kept hb56)
      have HV56 := Lib.hid hn56.own
      clear hn56 hb56 HM55 HK55 HT55 HB55 HU55 HF1 HF2 HF3 HF4
      have he1 : (fs == fs) = true := by simp
      have he2 : (rs == rs) = true := by simp
      have he3 : (fh == fh) = true := by simp
      have HQS := Lib.hid (qSameS_same v55 v56 PH x56 HU56.out HV56.out (by have := hPHL.out; omega))
      go_wp2_with (first | (go_at_call 40; refine HQS.out.mono ?_; rintro e57 x57 ⟨rfl, d57, rfl⟩) | fail)
      go_ret
      exact ⟨rfl, below_drewN HB56.out _⟩
end Go.Proofs.Ytkhglknpcajmiaa

