/- The law FnTouch. -/
import Derived.Test.YtkhglknpcajmiaaZC
import Derived.Test.YtkhglknpcajmiaaYB
import Derived.Test.YtkhglknpcajmiaaQU
import Derived.Deep.RegionHeld3
namespace Go.Proofs.Ytkhglknpcajmiaa
open Go.RowKit
set_option linter.unusedSimpArgs false
set_option linter.unusedVariables false

theorem small10T {L : List (List Nat)} (h : ∀ l ∈ L, l.length ≤ 10) : Small L := fun l hl => by
  have := h l hl
  unfold maxLen
  omega

set_option maxRecDepth 100000 in
set_option maxHeartbeats 1000000 in
set_option maxHeartbeats 16000000 in
theorem lawTouch (a1 : Option Addr) (l1 c1 : Nat) (z1 : List Int) (a2 : Option Addr) (l2 c2 : Nat) (z2 : List Int) (w : World) (hz1 : IsBytes w a1 l1 c1 z1) (hz2 : IsBytes w a2 l2 c2 z2) :
    Calls Try.prog 4 #[.slice a1 l1 c1, .slice a2 l2 c2] w fun e w' => e = .returned (.bool true) ∧ Below w.heap.size w w' := by
  have HZ1 := Lib.hid hz1
  have HZ2 := Lib.hid hz2
  have hm1 := hz1.lenW
  have hm2 := hz2.lenW
  unfold maxLen at hm1 hm2
  have HL1 := Lib.hid (show l1 ≤ 9223372036854775807 by omega)
  have HL2 := Lib.hid (show l2 ≤ 9223372036854775807 by omega)
  clear hz1 hz2
  by_cases hbig : 1048576 < l1 + l2 ∧ l1 + l2 ≤ 9223372036854775807
  · obtain ⟨hg1, hg2⟩ := hbig
    have hbi : (1048576 : Int) < l1 + l2 := by omega
    have hbj : (l1 : Int) + l2 ≤ 9223372036854775807 := by omega
    go_enter Try.func4, Try.ntmps4
    go_wp2
    go_ret
    exact ⟨rfl, Below.refl _ _⟩
  obtain ⟨z, hz, hz2, hz3⟩ : ∃ z : Int, IntKind.i64.wrap ((l1 : Int) + l2) = z ∧ wrap64 ((l1 : Int) + l2) = z ∧ ¬ 1048576 < z := by
    by_cases h : l1 + l2 ≤ 9223372036854775807
    · exact ⟨(l1 : Int) + l2, IntWalk.i64_in _ (by omega), by unfold wrap64; omega, by omega⟩
    · have e : IntKind.i64.wrap ((l1 : Int) + l2) = wrap64 ((l1 : Int) + l2) := by
        unfold wrap64 IntKind.wrap
        have e1 : ((2 : Int) ^ IntKind.i64.bits) = 18446744073709551616 := rfl
        have e2 : ((2 : Int) ^ (IntKind.i64.bits - 1)) = 9223372036854775808 := rfl
        have e3 : IntKind.i64.signed = true := rfl
        simp only [e1, e2, e3, Bool.true_and, decide_eq_true_eq, true_and]
        split <;> omega
      refine ⟨_, e, rfl, ?_⟩
      unfold wrap64
      omega
  clear hbig hm1 hm2
  go_enter Try.func4, Try.ntmps4
  go_wp2_with fail
  clear hz hz2 hz3
  refine (DrawTouchRows_any a1 l1 c1 z1 _ HZ1.out HL1.out).mono ?_
  rintro e w1 ⟨s, n, v, L, x, y, t, rfl, hsz, hn2, hn9, hn, hL, hs, hx, hy, ht, hb1⟩
  have hsx : s.size ≤ maxLen := by unfold maxLen; omega
  have hxm : x.size ≤ maxLen := by unfold maxLen; omega
  have hym : y.size ≤ maxLen := by unfold maxLen; omega
  have htm : t.size ≤ maxLen := by unfold maxLen; omega
  have hsm := small10T hs
  have hl2 : L.length ≤ 2000000 := by omega
  obtain ⟨a, cap, hv, -⟩ := hn.own.view
  rw [strs_len] at hv
  subst hv
  have hal := ((Below.refl w1.heap.size w1).alloc (Nat.le_refl _) (.cells #[.string s, .int .i64 n, .slice a L.length cap] 25)).alloc (by simp) (.cells #[.string x, .string y] 27)
  have HM2 := Lib.hid ((RowAt.new w1 25 #[.string s, .int .i64 n, .slice a L.length cap]).push (.cells #[.string x, .string y] 27))
  have HK2 : Hid (RowAt ((w1.alloc (.cells #[.string s, .int .i64 n, .slice a L.length cap] 25)).alloc (.cells #[.string x, .string y] 27)) (w1.heap.size + 1) 27 #[.string x, .string y]) := Lib.hid (by
    have := RowAt.new (w1.alloc (.cells #[.string s, .int .i64 n, .slice a L.length cap] 25)) 27 #[.string x, .string y]
    simpa using this)
  have HT2 := Lib.hid (hn.own.txts.kept hal)
  have HB2 := Lib.hid (hb1.trans (hal.mono hb1.size))
  obtain ⟨P, Q, en, rd, f, g, hP, hQ, f1, f2, f3, f4, f5, f6, f7, f8, hfact⟩ := touchFacts s hsx n L hl2 hsm x y hxm hym t htm
  have HF1 := Lib.hid f1
  have HF2 := Lib.hid f2
  have HF3 := Lib.hid f3
  have HF4 := Lib.hid f4
  have HF5 := Lib.hid f5
  have HF6 := Lib.hid f6
  have HF7 := Lib.hid f7
  have HF8 := Lib.hid f8
  have HFACT := Lib.hid hfact
  have HPL := Lib.hid hP
  have HQL := Lib.hid hQ
  unfold TextsAny at HF1 HF2 HF3 HF4
  have HG1 := Lib.hid (iGoodTouch_any t htm)
  have HG2 := Lib.hid (sGoodTouch_any t htm)
  obtain ⟨mL, hmL⟩ : ∃ mL, L.length = mL := ⟨_, rfl⟩
  have HML := Lib.hid hmL
  obtain ⟨p, hp⟩ : ∃ p, P.length = p := ⟨_, rfl⟩
  have HPP := Lib.hid hp
  obtain ⟨qn, hqn⟩ : ∃ qn, Q.length = qn := ⟨_, rfl⟩
  have HQQ := Lib.hid hqn
  rw [hmL] at HM2 HK2 HT2 HB2 ⊢
  clear hn hb1 hal hs hsz hn2 hn9 hx hy ht hsx hxm hym htm hsm hl2 f1 f2 f3 f4 f5 f6 f7 f8 hfact hP hQ hL hmL hp hqn HZ1 HL1 HZ2 HL2
  generalize goodT t = gt at *
  go_wp2_with (first | (refine wpList_store_row rfl 25 _ _ rfl _ _ rfl rfl 25 _ (heap_at _ _ _ (by simp)) (by kernel_rfl) rfl (by kernel_rfl) ?_; rw [setRow_at _ _ _ _ _ (by simp)]) | (refine wpList_store_row rfl 27 _ _ rfl _ _ rfl rfl 27 _ (heap_at _ _ _ (by simp)) (by kernel_rfl) rfl (by kernel_rfl) ?_; rw [setRow_at _ _ _ _ _ (by simp)]) | (refine wpList_load_row rfl 25 _ rfl _ rfl 25 _ _ _ (HM2.out) Try.underlying25 rfl (by kernel_rfl) ?_) | (refine wpList_load_row rfl 27 _ rfl _ rfl 27 _ _ _ (HK2.out) Try.underlying27 rfl (by kernel_rfl) ?_) | fail)
  refine (HF1.out _ _ HT2.out).mono ?_
  rintro e w3 ⟨v3, rfl, hn3, hb3⟩
  have ho3 := hn3.own
  obtain ⟨a3, k3, rfl, hv3⟩ := ho3.view
  rw [strs_len, HPP.out] at ho3 hv3 ⊢
  have HV3 := Lib.hid hv3
  have HM3 := Lib.hid (HM2.out.kept hb3)
  have HK3 := Lib.hid (HK2.out.kept hb3)
  have HT3 := Lib.hid (HT2.out.kept hb3)
  have HB3 := Lib.hid (HB2.out.trans (hb3.mono HB2.out.size))
  clear hb3 HM2 HK2 HT2 HB2
  have HX3 := Lib.hid ho3
  clear hn3 ho3 hv3
  go_wp2_with (first | (refine wpList_load_row rfl 25 _ rfl _ rfl 25 _ _ _ (HM3.out) Try.underlying25 rfl (by kernel_rfl) ?_) | (refine wpList_load_row rfl 27 _ rfl _ rfl 27 _ _ _ (HK3.out) Try.underlying27 rfl (by kernel_rfl) ?_) | fail)
  refine (HF2.out _ _ HT3.out).mono ?_
  rintro e w4 ⟨v4, rfl, hn4, hb4⟩
  have ho4 := hn4.own
  obtain ⟨a4, k4, rfl, hv4⟩ := ho4.view
  rw [strs_len, HPP.out] at ho4 hv4 ⊢
  have HV4 := Lib.hid hv4
  have HM4 := Lib.hid (HM3.out.kept hb4)
  have HK4 := Lib.hid (HK3.out.kept hb4)
  have HT4 := Lib.hid (HT3.out.kept hb4)
  have HB4 := Lib.hid (HB3.out.trans (hb4.mono HB3.out.size))
  have HX4 := Lib.hid (HX3.out.kept hb4)
  clear hb4 HM3 HK3 HT3 HB3 HX3
  have HY4 := Lib.hid ho4
  clear hn4 ho4 hv4
  go_wp2_with (first | (refine wpList_load_row rfl 25 _ rfl _ rfl 25 _ _ _ (HM4.out) Try.underlying25 rfl (by kernel_rfl) ?_) | (refine wpList_load_row rfl 27 _ rfl _ rfl 27 _ _ _ (HK4.out) Try.underlying27 rfl (by kernel_rfl) ?_) | fail)
  refine (HF3.out _ _ HT4.out).mono ?_
  rintro e w5 ⟨v5, rfl, hn5, hb5⟩
  have ho5 := hn5.own
  obtain ⟨a5, k5, rfl, hv5⟩ := ho5.view
  rw [strs_len, HQQ.out] at ho5 hv5 ⊢
  have HV5 := Lib.hid hv5
  have HM5 := Lib.hid (HM4.out.kept hb5)
  have HK5 := Lib.hid (HK4.out.kept hb5)
  have HT5 := Lib.hid (HT4.out.kept hb5)
  have HB5 := Lib.hid (HB4.out.trans (hb5.mono HB4.out.size))
  have HX5 := Lib.hid (HX4.out.kept hb5)
  have HY5 := Lib.hid (HY4.out.kept hb5)
  clear hb5 HM4 HK4 HT4 HB4 HX4 HY4
  have HU5 := Lib.hid ho5
  clear hn5 ho5 hv5
  go_wp2_with (first | (refine wpList_load_row rfl 25 _ rfl _ rfl 25 _ _ _ (HM5.out) Try.underlying25 rfl (by kernel_rfl) ?_) | (refine wpList_load_row rfl 27 _ rfl _ rfl 27 _ _ _ (HK5.out) Try.underlying27 rfl (by kernel_rfl) ?_) | fail)
  refine (HF4.out _ _ HT5.out).mono ?_
  rintro e w6 ⟨v6, rfl, hn6, hb6⟩
  have ho6 := hn6.own
  obtain ⟨a6, k6, rfl, hv6⟩ := ho6.view
  rw [strs_len, HQQ.out] at ho6 hv6 ⊢
  have HV6 := Lib.hid hv6
  have HM6 := Lib.hid (HM5.out.kept hb6)
  have HK6 := Lib.hid (HK5.out.kept hb6)
  have HT6 := Lib.hid (HT5.out.kept hb6)
  have HB6 := Lib.hid (HB5.out.trans (hb6.mono HB5.out.size))
  have HX6 := Lib.hid (HX5.out.kept hb6)
  have HY6 := Lib.hid (HY5.out.kept hb6)
  have HU6 := Lib.hid (HU5.out.kept hb6)
  clear hb6 HM5 HK5 HT5 HB5 HX5 HY5 HU5
  have HV6 := Lib.hid ho6
  clear hn6 ho6 hv6
  go_wp2_with (first | (refine wpList_load_row rfl 25 _ rfl _ rfl 25 _ _ _ (HM6.out) Try.underlying25 rfl (by kernel_rfl) ?_) | (refine wpList_load_row rfl 27 _ rfl _ rfl 27 _ _ _ (HK6.out) Try.underlying27 rfl (by kernel_rfl) ?_) | fail)
  refine (HF5.out _ _ HT6.out).mono ?_
  rintro e w7 ⟨rfl, hb7⟩
  have HM7 := Lib.hid (HM6.out.kept hb7)
  have HK7 := Lib.hid (HK6.out.kept hb7)
  have HT7 := Lib.hid (HT6.out.kept hb7)
  have HB7 := Lib.hid (HB6.out.trans (hb7.mono HB6.out.size))
  have HX7 := Lib.hid (HX6.out.kept hb7)
  have HY7 := Lib.hid (HY6.out.kept hb7)
  have HU7 := Lib.hid (HU6.out.kept hb7)
  have HV7 := Lib.hid (HV6.out.kept hb7)
  clear hb7 HM6 HK6 HT6 HB6 HX6 HY6 HU6 HV6
  go_wp2_with (first | (refine wpList_load_row rfl 25 _ rfl _ rfl 25 _ _ _ (HM7.out) Try.underlying25 rfl (by kernel_rfl) ?_) | (refine wpList_load_row rfl 27 _ rfl _ rfl 27 _ _ _ (HK7.out) Try.underlying27 rfl (by kernel_rfl) ?_) | fail)
  refine (HF6.out _ _ HT7.out).mono ?_
  rintro e w8 ⟨rfl, hb8⟩
  have HM8 := Lib.hid (HM7.out.kept hb8)
  have HK8 := Lib.hid (HK7.out.kept hb8)
  have HT8 := Lib.hid (HT7.out.kept hb8)
  have HB8 := Lib.hid (HB7.out.trans (hb8.mono HB7.out.size))
  have HX8 := Lib.hid (HX7.out.kept hb8)
  have HY8 := Lib.hid (HY7.out.kept hb8)
  have HU8 := Lib.hid (HU7.out.kept hb8)
  have HV8 := Lib.hid (HV7.out.kept hb8)
  clear hb8 HM7 HK7 HT7 HB7 HX7 HY7 HU7 HV7
  go_wp2_with (first | (refine wpList_load_row rfl 25 _ rfl _ rfl 25 _ _ _ (HM8.out) Try.underlying25 rfl (by kernel_rfl) ?_) | (refine wpList_load_row rfl 27 _ rfl _ rfl 27 _ _ _ (HK8.out) Try.underlying27 rfl (by kernel_rfl) ?_) | fail)
  refine (HF7.out _ _ HT8.out).mono ?_
  rintro e w9 ⟨rfl, hb9⟩
  have HM9 := Lib.hid (HM8.out.kept hb9)
  have HK9 := Lib.hid (HK8.out.kept hb9)
  have HT9 := Lib.hid (HT8.out.kept hb9)
  have HB9 := Lib.hid (HB8.out.trans (hb9.mono HB8.out.size))
  have HX9 := Lib.hid (HX8.out.kept hb9)
  have HY9 := Lib.hid (HY8.out.kept hb9)
  have HU9 := Lib.hid (HU8.out.kept hb9)
  have HV9 := Lib.hid (HV8.out.kept hb9)
  clear hb9 HM8 HK8 HT8 HB8 HX8 HY8 HU8 HV8
  go_wp2_with (first | (refine wpList_load_row rfl 25 _ rfl _ rfl 25 _ _ _ (HM9.out) Try.underlying25 rfl (by kernel_rfl) ?_) | (refine wpList_load_row rfl 27 _ rfl _ rfl 27 _ _ _ (HK9.out) Try.underlying27 rfl (by kernel_rfl) ?_) | fail)
  refine (HF8.out _ _ HT9.out).mono ?_
  rintro e w10 ⟨rfl, hb10⟩
  have HM10 := Lib.hid (HM9.out.kept hb10)
  have HK10 := Lib.hid (HK9.out.kept hb10)
  have HT10 := Lib.hid (HT9.out.kept hb10)
  have HB10 := Lib.hid (HB9.out.trans (hb10.mono HB9.out.size))
  have HX10 := Lib.hid (HX9.out.kept hb10)
  have HY10 := Lib.hid (HY9.out.kept hb10)
  have HU10 := Lib.hid (HU9.out.kept hb10)
  have HV10 := Lib.hid (HV9.out.kept hb10)
  clear hb10 HM9 HK9 HT9 HB9 HX9 HY9 HU9 HV9
  have he1 : (f != f) = false := by simp
  have he2 : (g != g) = false := by simp
  have he3 : (en.toList != en.toList) = false := by simp
  have he4 : (rd != rd) = false := by simp
  have he5 : (gt != gt) = false := by simp
  have HQ1 : Hid (∀ W', Below w10.heap.size w10 W' → Calls Try.prog 40 #[.slice a3 p k3, .slice a4 p k4] W' fun e w' => e = .returned (.bool true) ∧ Below w10.heap.size w10 w') := Lib.hid (fun W' h => by
    have := qSameS_same (.slice a3 p k3) (.slice a4 p k4) P W' (HX10.out.kept h) (HY10.out.kept h) (by have := HPL.out; omega)
    refine this.mono fun e w' hw => ?_
    obtain ⟨rfl, d, rfl⟩ := hw
    exact ⟨rfl, below_drewN h d⟩)
  have HQ2 : Hid (∀ W', Below w10.heap.size w10 W' → Calls Try.prog 40 #[.slice a5 qn k5, .slice a6 qn k6] W' fun e w' => e = .returned (.bool true) ∧ Below w10.heap.size w10 w') := Lib.hid (fun W' h => by
    have := qSameS_same (.slice a5 qn k5) (.slice a6 qn k6) Q W' (HU10.out.kept h) (HV10.out.kept h) (by have := HQL.out; omega)
    refine this.mono fun e w' hw => ?_
    obtain ⟨rfl, d, rfl⟩ := hw
    exact ⟨rfl, below_drewN h d⟩)
  have HG3 : Hid (∀ W', Below w10.heap.size w10 W' → Calls Try.prog 50 #[.string t] W' fun e w' => e = .returned (.bool gt) ∧ Below w10.heap.size w10 w') := Lib.hid (fun W' h => (HG1.out W').mono fun e w' hw => ⟨hw.1, h.trans (hw.2.mono h.size)⟩)
  have HG4 : Hid (∀ W', Below w10.heap.size w10 W' → Calls Try.prog 51 #[.string t] W' fun e w' => e = .returned (.bool gt) ∧ Below w10.heap.size w10 w') := Lib.hid (fun W' h => (HG2.out W').mono fun e w' hw => ⟨hw.1, by rw [hw.2]; exact h⟩)
  have HXA : Hid (∀ W', Below w10.heap.size w10 W' → (W'.cell? ⟨w1.heap.size, 0, none⟩ = some (.string s) ∧ W'.cell? ⟨w1.heap.size, 1, none⟩ = some (.int .i64 n) ∧ W'.cell? ⟨w1.heap.size, 2, none⟩ = some (.slice a mL cap) ∧ W'.cell? ⟨w1.heap.size + 1, 0, none⟩ = some (.string x) ∧ W'.cell? ⟨w1.heap.size + 1, 1, none⟩ = some (.string y))) := Lib.hid (fun W' h => by
    have h3 := HM10.out.keep h HM10.out.lt
    have h4 := HK10.out.keep h HK10.out.lt
    exact ⟨h3.cell 0 rfl, h3.cell 1 rfl, h3.cell 2 rfl, h4.cell 0 rfl, h4.cell 1 rfl⟩)
  cases f
  · clear HFACT HXA
    go_wp2_with (first
      | (go_at_call 40; refine (HQ2.out _ hb21).mono ?_; rintro e22 w22 ⟨rfl, hb22⟩)
      | (go_at_call 40; refine (HQ1.out _ (Below.refl _ _)).mono ?_; rintro e21 w21 ⟨rfl, hb21⟩)
      | (go_at_call 50; refine (HG3.out _ hb22).mono ?_; rintro e23 w23 ⟨rfl, hb23⟩)
      | (go_at_call 51; refine (HG4.out _ hb23).mono ?_; rintro e24 w24 ⟨rfl, hb24⟩)
      | fail)
    go_ret
    exact ⟨rfl, HB10.out.trans (hb24.mono HB10.out.size)⟩
  · obtain ⟨⟨k, rfl, h3, h8, t1, t60, hasc, hpt, hp0, hpe, hrd, hstep⟩, hL1, hL40, hro, hbig⟩ := HFACT.out rfl
    clear HFACT
    rw [HPP.out] at hpt
    obtain ⟨g3, rfl⟩ := HV3.out (by omega)
    obtain ⟨a', cap', e0, -, hal⟩ := HT10.out
    injection e0 with e1 e2 e3
    subst e1
    obtain ⟨gL, off, rfl, hgL, hcL⟩ := hal (by omega)
    have HCL := Lib.hid (fun W' (h : Below w10.heap.size w10 W') i (hi : i < L.length) => (h.cell (p := ⟨gL, off + i, none⟩) hgL).trans (hcL i hi))
    clear e2 e3 hal hcL hgL
    have HRO := Lib.hid (sRoundsOf_yes k h3 h8)
    have HASC := Lib.hid hasc
    have HSTEP := Lib.hid hstep
    have HROWS := Lib.hid hro
    have HBIG := Lib.hid hbig
    have hC0 : ∀ W', Below w10.heap.size w10 W' → ∀ j, j < p → W'.cell? ⟨g3, j, none⟩ = some (.string (txt (P.getD j []))) := fun W' h j hj => (HX10.out.kept h).cell j _ (strs_at P j (by rw [HPP.out]; exact hj))
    have HC0 := Lib.hid hC0
    have HXE : Hid (∀ W', Below w10.heap.size w10 W' → W'.cell? ⟨g3, 0, none⟩ = some (.string (rnds k)) ∧ W'.cell? ⟨g3, t.size, none⟩ = some (.string en)) := Lib.hid (fun W' h => by
      have c0 := hC0 W' h 0 (by omega)
      have c1 := hC0 W' h t.size (by omega)
      rw [hp0] at c0
      rw [hpe] at c1
      exact ⟨c0, c1⟩)
    have hq1 : (rd != (en.toList == (rnds k).toList)) = false := by rw [hrd]; simp
    have hq2 : (rd == (en.toList == (rnds k).toList)) = true := by rw [hrd]; simp
    clear h3 h8 hasc hstep hro hbig hC0 hp0 hpe hrd
    generalize rnds k = rk at *
    have he6 : (rk.toList != rk.toList) = false := by simp
    have hz1 : ((p : Int) != (t.size : Int) + 1) = false := by rw [hpt]; simp
    have hz0 : (0 : Int) < p := by omega
    have hz2 : (t.size : Int) < p := by omega
    have hz3 : (t.size : Int) ≤ 60 := by omega
    have hz4 : (0 : Int) ≤ (t.size : Int) := by omega
    have HPT := Lib.hid hpt
    clear hpt
    have HT60 := Lib.hid t60
    have HT1 := Lib.hid t1
    have HL1 := Lib.hid hL1
    have HL40 := Lib.hid hL40
    clear t60 t1 hL1 hL40
    go_wp2_with (first
      | (go_at_call 40; refine (HQ2.out _ hb21).mono ?_; rintro e22 w22 ⟨rfl, hb22⟩)
      | (go_at_call 40; refine (HQ1.out _ (Below.refl _ _)).mono ?_; rintro e21 w21 ⟨rfl, hb21⟩)
      | (go_at_call 50; refine (HG3.out _ hb22).mono ?_; rintro e23 w23 ⟨rfl, hb23⟩)
      | (go_at_call 51; refine (HG4.out _ hb23).mono ?_; rintro e24 w24 ⟨rfl, hb24⟩; have c1 := (HXA.out _ hb24).2.1)
      | fail)
    refine (HRO.out _).mono ?_
    rintro e w25 ⟨rfl, rfl⟩
    obtain ⟨c2, c3⟩ := HXE.out _ hb24
    have HI0 := Lib.hid (World.iter_heap w24 t 0)
    have HB24 := Lib.hid hb24
    have HB0 : Hid (Below w24.heap.size w24 (w24.iter t 0)) := Lib.hid ((Below.refl _ w24).alloc (Nat.le_refl _) _)
    clear HQ1 HQ2 HG3 HG4 hb24 HXE HF1 HF2 HF3 HF4 HF5 HF6 HF7 HF8 HG1 HG2 he1 he2 he3 he4 he5
    go_wp2
    clear c1 c2 c3 he6 hz0 hz1 hz2 hq1 hq2 HRO
    go_loopg [26] t.size (fun q o wr => ∃ j : Nat, q + j = t.size ∧ wr.heap[w24.heap.size]? = some (.stringIter t j) ∧ Below w24.heap.size w24 wr)
    case atStart => exact ⟨0, by omega, HI0.out, HB0.out⟩
    case round =>
      clear HI0 HB0
      obtain ⟨j, hq, hI, hB⟩ := hrel
      have HQ := Lib.hid hq
      have HI := Lib.hid hI
      have HB := Lib.hid hB
      clear hq hI hB
      by_cases hlt : j < t.size
      · have hji : (j : Int) < t.size := by omega
        have hnx := fun ty => Lib.run_next_ascii_at (P := Try.prog) wr w24.heap.size t j ty HI.out hlt (by
          have := HASC.out j hlt
          rw [dg_at t j hlt]
          unfold kcB at this
          simp only [Bool.or_eq_true, decide_eq_true_eq] at this
          omega)
        have hI2 := Lib.iterAt_heap wr w24.heap.size t j (j + 1) HI.out
        have hB2 := Lib.below_iterAt HB.out (k := w24.heap.size) (Nat.le_refl _) t (j + 1)
        have HI2 := Lib.hid hI2
        have HB2 := Lib.hid hB2
        clear hI2 hB2 HI HB
        obtain ⟨c, hc1, hc2⟩ := HSTEP.out j hlt
        have HBW := Lib.hid (HB24.out.trans (HB2.out.mono HB24.out.size))
        have hpj := HPT.out
        have hjp : (j : Int) < p := by omega
        have hjp1 : (j : Int) + 1 < p := by omega
        have HCJ := Lib.hid (fun W' (h : Below w10.heap.size w10 W') => And.intro (HC0.out W' h j (by omega)) (HC0.out W' h (j + 1) (by omega)))
        clear hpj
        have HCH0 := Lib.hid hc1
        have HTM := Lib.hid hc2
        clear hc1 hc2
        generalize txt (P.getD j []) = hj at *
        generalize txt (P.getD (j + 1) []) = hj1 at *
        generalize wr.iterAt w24.heap.size t (j + 1) = wi at *
        have HLT := Lib.hid hlt
        have hj2 : (j : Int) ≤ (j : Int) + 1 := by omega
        have hj3 : (0 : Int) ≤ (j : Int) + 1 := by omega
        have hj4 : (j : Int) ≤ t.size := by omega
        have hj0 : (0 : Int) ≤ j := by omega
        have hj6 : (j : Int) + 1 ≤ t.size := by omega
        have hj5 : ((j : Int) + 1).toNat = j + 1 := by omega
        have hwp : IntKind.i64.wrap ((j : Int) + 1) = (j : Int) + 1 := IntWalk.i64_in _ (by have := HT60.out; omega)
        have HXB : Hid (∀ W', Below wi.heap.size wi W' → (W'.cell? ⟨w1.heap.size, 0, none⟩ = some (.string s) ∧ W'.cell? ⟨w1.heap.size, 1, none⟩ = some (.int .i64 k) ∧ W'.cell? ⟨w1.heap.size, 2, none⟩ = some (.slice (some ⟨gL, off, none⟩) mL cap) ∧ W'.cell? ⟨w1.heap.size + 1, 0, none⟩ = some (.string x) ∧ W'.cell? ⟨w1.heap.size + 1, 1, none⟩ = some (.string y) ∧ Below wi.heap.size wi W')) := Lib.hid (fun W' h => by
          obtain ⟨h1, h2, h3, h4, h5⟩ := HXA.out W' (HBW.out.trans (h.mono HBW.out.size))
          exact ⟨h1, h2, h3, h4, h5, h⟩)
        have HCH : Hid (∀ W', Below wi.heap.size wi W' → Calls Try.prog 20 #[.agg #[.string s, .int .i64 k, .slice (some ⟨gL, off, none⟩) mL cap], .agg #[.string x, .string y], .string (t.extract j (j + 1))] W' fun e w' => e = .returned (.tuple #[.string c, .bool true]) ∧ Below wi.heap.size wi w') := Lib.hid (fun W' h => (HCH0.out _ W' (HT10.out.kept (HBW.out.trans (h.mono HBW.out.size)))).mono fun e w' hw => ⟨hw.1, h.trans (hw.2.mono h.size)⟩)
        have hself : (hj1.toList != hj1.toList) = false := by simp
        clear HCH0
        go_wp2
        go_region_held3 (fun w' => w'.cell? ⟨w1.heap.size, 0, none⟩ = some (.string s) ∧ w'.cell? ⟨w1.heap.size, 1, none⟩ = some (.int .i64 k) ∧ w'.cell? ⟨w1.heap.size, 2, none⟩ = some (.slice (some ⟨gL, off, none⟩) mL cap) ∧ w'.cell? ⟨w1.heap.size + 1, 0, none⟩ = some (.string x) ∧ w'.cell? ⟨w1.heap.size + 1, 1, none⟩ = some (.string y) ∧ Below wi.heap.size wi w') (first | assumption | exact HXB.out _ (Below.refl _ _).drew) (first
          | (go_at_call 20; refine (HCH.out _ (by first | exact (Below.refl _ _).drew | exact Below.refl _ _)).mono ?_; rintro e31 w31 ⟨rfl, hb31⟩; have hS31 := HXB.out _ hb31)
          | fail)
        clear hS31
        obtain ⟨cj, -⟩ := HCJ.out _ (HBW.out.trans (hb31.mono HBW.out.size))
        go_wp2_with (first | (go_at_call 32; refine (HTM.out _).mono ?_; rintro e32 w32 ⟨rfl, hb32⟩; have cj1 := (HCJ.out _ (HBW.out.trans ((hb31.trans (hb32.mono hb31.size)).mono HBW.out.size))).2) | fail)
        go_roundg (t.size - (j + 1))
        case measure => have := HQ.out; have := HLT.out; omega
        case rel => exact ⟨j + 1, by have := HQ.out; have := HLT.out; omega, ((hb31.trans (hb32.mono hb31.size)).block _ (by first | exact (Array.getElem?_eq_some_iff.1 HI2.out).1 | omega)).trans HI2.out, HB2.out.trans ((hb31.trans (hb32.mono hb31.size)).mono HB2.out.size)⟩
      · obtain rfl : j = t.size := by have := HQ.out; omega
        have hnx := fun ty => Lib.run_next_end_at (P := Try.prog) wr w24.heap.size t t.size ty HI.out hlt
        have HBW := Lib.hid (HB24.out.trans (HB.out.mono HB24.out.size))
        have HBE := Lib.hid (HB10.out.trans (HBW.out.mono HB10.out.size))
        obtain ⟨pr, hpr⟩ : ∃ pr, t.size * mL = pr := ⟨_, rfl⟩
        have hprb : pr ≤ 2400 := by
          rw [← hpr]
          have h1 := HT60.out
          have h2 : mL ≤ 40 := by have := HL40.out; have := HML.out; omega
          exact Nat.mul_le_mul h1 h2
        have hpri : (t.size : Int) * (mL : Int) = (pr : Int) := by rw [← hpr]; simp
        have hprw : IntKind.i64.wrap (pr : Int) = (pr : Int) := IntWalk.i64_in _ (by omega)
        have c2 := (HXA.out _ HBW.out).2.2.1
        clear HSTEP HASC HQ hlt
        cases g
        · have hpg : (800 : Int) < (pr : Int) := by
            have := HBIG.out rfl
            rw [HML.out, hpr] at this
            omega
          clear hpr hprb
          go_wp2
          go_ret
          exact ⟨rfl, HBE.out⟩
        · obtain ⟨hql, hqr⟩ := HROWS.out rfl
          rw [HQQ.out, HML.out, hpr] at hql
          have hqe : ((qn : Int) != (pr : Int)) = false := by rw [hql]; simp
          have hqb : qn ≤ 2400 := by omega
          have HQR := Lib.hid hqr
          have HPR := Lib.hid hpr
          have HQL2 := Lib.hid hql
          have hqn0 : 0 < qn := by
            rw [hql, ← hpr]
            exact Nat.mul_pos HT1.out (by have := HL1.out; have := HML.out; omega)
          obtain ⟨g5, rfl⟩ := HV5.out hqn0
          have HC5 : Hid (∀ W', Below w10.heap.size w10 W' → ∀ j, j < qn → W'.cell? ⟨g5, j, none⟩ = some (.string (txt (Q.getD j [])))) := Lib.hid (fun W' h j hj => (HU10.out.kept h).cell j _ (strs_at Q j (by rw [HQQ.out]; exact hj)))
          clear hpr hprb hql hqr hqn0
          go_wp2
          clear c2 hqe hpri hprw
          go_loopg [250] qn (fun q i wr => ∃ j : Nat, q + j = qn ∧ i = .int .i64 j ∧ Below w10.heap.size w10 wr)
          case atStart => exact ⟨0, by omega, rfl, HBW.out⟩
          case round =>
            obtain ⟨j, hq, rfl, hB⟩ := hrel
            have HQ := Lib.hid hq
            have HB := Lib.hid hB
            clear hq hB
            by_cases hlt : j < qn
            · obtain ⟨h0, hstep⟩ := HQR.out j (by rw [HQQ.out]; exact hlt)
              rw [HML.out] at h0 hstep
              have hmL1 : 1 ≤ mL := by have := HL1.out; have := HML.out; omega
              have hmL40 : mL ≤ 40 := by have := HL40.out; have := HML.out; omega
              obtain ⟨nm, hnm⟩ : ∃ nm, j % mL = nm := ⟨_, rfl⟩
              obtain ⟨nd, hnd⟩ : ∃ nd, j / mL = nd := ⟨_, rfl⟩
              have hnml : nm < mL := by rw [← hnm]; exact Nat.mod_lt _ hmL1
              have hndl : nd < p := by
                have h1 : nd < t.size := by
                  rw [← hnd]
                  exact (Nat.div_lt_iff_lt_mul hmL1).2 (by have := HPR.out; have := HQL2.out; omega)
                have := HPT.out
                omega
              have hndj : nd ≤ j := by rw [← hnd]; exact Nat.div_le_self _ _
              have hji : (j : Int) < qn := by omega
              have hmod : Int.tmod (j : Int) (mL : Int) = (nm : Int) := by rw [Int.tmod_eq_emod_of_nonneg (by omega), ← hnm]; simp
              have hmod2 : (j : Int) % (mL : Int) = (nm : Int) := by rw [← hnm]; simp
              have hdiv : Int.tdiv (j : Int) (mL : Int) = (nd : Int) := by rw [Int.tdiv_eq_ediv_of_nonneg (by omega), ← hnd]; simp
              have hdiv2 : (j : Int) / (mL : Int) = (nd : Int) := by rw [← hnd]; simp
              have hwm : IntKind.i64.wrap (nm : Int) = (nm : Int) := IntWalk.i64_in _ (by omega)
              have hwd : IntKind.i64.wrap (nd : Int) = (nd : Int) := IntWalk.i64_in _ (by omega)
              have hs0 : ((mL : Int) == 0) = false := by rw [beq_eq_false_iff_ne]; omega
              have hs1 : ¬ ((mL : Int) = 0) := by omega
              have hndi : (nd : Int) < p := by omega
              have hndz : (0 : Int) ≤ nd := by omega
              have hjz : (0 : Int) ≤ j := by omega
              have HLT := Lib.hid hlt
              by_cases hz : nm = 0
              · have e0 := h0 (by rw [hnm]; exact hz)
                rw [hnd] at e0
                have c2 := (HXA.out _ HB.out).2.2.1
                have cr := HC5.out _ HB.out j hlt
                have ch := HC0.out _ HB.out nd hndl
                rw [← e0] at ch
                generalize txt (Q.getD j []) = rj at *
                have hself : (rj.toList != rj.toList) = false := by simp
                have hz0 : ((nm : Int) == 0) = true := by rw [hz]; rfl
                have hz1 : (nm : Int) = 0 := by omega
                have hz2 : ¬ (0 : Int) < (nm : Int) := by omega
                clear h0 hstep hnm hnd e0 hz hmL1 hmL40 hnml hndl hndj hlt
                go_wp2
                go_quiet (fail)
                go_wp2
                go_roundg (qn - (j + 1))
                case measure => have := HQ.out; have := HLT.out; omega
                case rel => exact ⟨j + 1, by have := HQ.out; have := HLT.out; omega, by go_num, by first | exact HB.out | exact below_drewN HB.out _⟩
              · obtain ⟨i, hi⟩ : ∃ i, nm = i + 1 := ⟨nm - 1, by omega⟩
                have hap := hstep i (by rw [hnm]; exact hi)
                have hj1 : 1 ≤ j := by
                  have : nm ≤ j := by rw [← hnm]; exact Nat.mod_le _ _
                  omega
                obtain ⟨j1, hj1e⟩ : ∃ j1, j - 1 = j1 := ⟨_, rfl⟩
                rw [hj1e] at hap
                have c2 := (HXA.out _ HB.out).2.2.1
                have HX2 : Hid (∀ W', Below wr.heap.size wr W' → (W'.cell? ⟨w1.heap.size, 2, none⟩ = some (.slice (some ⟨gL, off, none⟩) mL cap) ∧ W'.cell? ⟨g5, j1, none⟩ = some (.string (txt (Q.getD j1 []))) ∧ W'.cell? ⟨gL, off + i, none⟩ = some (.string (txt (L.getD i []))) ∧ W'.cell? ⟨g5, j, none⟩ = some (.string (txt (Q.getD j []))) ∧ Below wr.heap.size wr W')) := Lib.hid (fun W' h => by
                  have hb := HB.out.trans (h.mono HB.out.size)
                  exact ⟨(HXA.out _ hb).2.2.1, HC5.out _ hb j1 (by omega), HCL.out _ hb i (by have := HML.out; omega), HC5.out _ hb j hlt, h⟩)
                generalize txt (Q.getD j []) = rj at *
                generalize txt (Q.getD j1 []) = rp at *
                generalize txt (L.getD i []) = li at *
                have HAP : Hid (∀ W', Below wr.heap.size wr W' → Calls Try.prog 52 #[.string rp, .string li] W' fun e w' => e = .returned (.tuple #[.string rj, .bool true]) ∧ Below wr.heap.size wr w') := Lib.hid (fun W' h => (hap W').mono fun e w' hw => ⟨hw.1, h.trans (hw.2.mono h.size)⟩)
                have hself : (rj.toList != rj.toList) = false := by simp
                have hz0 : ((nm : Int) == 0) = false := by rw [beq_eq_false_iff_ne]; omega
                have hz1 : ¬ (nm : Int) = 0 := by omega
                have hz2 : (0 : Int) < (nm : Int) := by omega
                have hm0n : ¬ mL = 0 := by omega
                have hm0m : (mL == 0) = false := by rw [beq_eq_false_iff_ne]; exact hm0n
                have hwC : IntKind.i64.wrap (Int.tmod (j : Int) (mL : Int)) = (nm : Int) := by rw [hmod]; exact hwm
                have hsj : (j : Int) - 1 = (j1 : Int) := by omega
                have hsn : (nm : Int) - 1 = (i : Int) := by omega
                have hwj : IntKind.i64.wrap (j1 : Int) = (j1 : Int) := IntWalk.i64_in _ (by omega)
                have hwi : IntKind.i64.wrap (i : Int) = (i : Int) := IntWalk.i64_in _ (by omega)
                have hj1q : (j1 : Int) < qn := by omega
                have hj1z : (0 : Int) ≤ j1 := by omega
                have hil : (i : Int) < mL := by omega
                have hiz : (0 : Int) ≤ i := by omega
                clear h0 hstep hnm hnd hap hj1e hi hz hmL1 hmL40 hnml hndl hndj hj1 hlt
                go_wp2
                go_quiet (fail)
                go_wp2
                go_region_held3 (fun w' => w'.cell? ⟨w1.heap.size, 2, none⟩ = some (.slice (some ⟨gL, off, none⟩) mL cap) ∧ w'.cell? ⟨g5, j1, none⟩ = some (.string rp) ∧ w'.cell? ⟨gL, off + i, none⟩ = some (.string li) ∧ w'.cell? ⟨g5, j, none⟩ = some (.string rj) ∧ Below wr.heap.size wr w') (first | assumption | exact HX2.out _ (Below.refl _ _).drew | exact HX2.out _ (below_drewN (Below.refl _ _) _) | exact HX2.out _ (below_drewN (below_drewN (Below.refl _ _) _) _)) (first
                  | (go_at_call 52; refine (HAP.out _ (by first | exact (Below.refl _ _).drew | exact Below.refl _ _ | exact below_drewN (Below.refl _ _) _ | exact below_drewN (below_drewN (Below.refl _ _) _) _)).mono ?_; rintro e41 w41 ⟨rfl, hb41⟩; have hS41 := HX2.out _ hb41)
                  | fail)
                obtain ⟨-, -, -, cj, -⟩ := hS41
                clear c2
                go_wp2
                go_roundg (qn - (j + 1))
                case measure => have := HQ.out; have := HLT.out; omega
                case rel => exact ⟨j + 1, by have := HQ.out; have := HLT.out; omega, by go_num, HB.out.trans (hb41.mono HB.out.size)⟩
            · obtain rfl : j = qn := by have := HQ.out; omega
              have hji : ¬ (j : Int) < j := by omega
              go_wp2
              go_ret
              exact ⟨rfl, HB10.out.trans (HB.out.mono HB10.out.size)⟩
end Go.Proofs.Ytkhglknpcajmiaa
