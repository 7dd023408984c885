/- Draws: a method and a row; a method for its course. -/
import Derived.Test.YtnoepobbecobbaaGA
import Derived.Deep.RegionHeld3
namespace Go.Proofs.Ytnoepobbecobbaa
open Go.RowKit
set_option linter.unusedSimpArgs false
set_option linter.unusedVariables false

set_option maxRecDepth 100000 in
set_option maxHeartbeats 1000000 in
theorem DrawCourseRows_any (a : Option Addr) (len cap : Nat) (zs : List Int) (w : World) (hz : IsBytes w a len cap zs) (hl : len ≤ 1048576) :
    Calls Try.prog 54 #[.slice a len cap] w (DrawnM w) := by
  have hb0 := (Below.refl _ w).alloc (Nat.le_refl _) (.cells #[.string ⟨#[]⟩, .int .i64 0, .slice none 0 0] 47)
  have HZ := Lib.hid (hz.belowW hb0)
  have HR := Lib.hid (RowAt.new w 47 #[.string ⟨#[]⟩, .int .i64 0, .slice none 0 0])
  have HB := Lib.hid hb0
  clear hz hb0
  go_enter Try.func54, Try.ntmps54
  go_wp2_with fail
  refine (drawGood_any a len cap zs _ HZ.out hl).mono ?_
  rintro e w1 ⟨s, n, v, L, rfl, hsz, hn2, hn9, hn, hL, hs, hb⟩
  have HR1 := Lib.hid (HR.out.kept hb)
  have HB1 := Lib.hid (HB.out.trans (hb.mono HB.out.size))
  have HN1 := Lib.hid (hn.lower HB.out.size)
  have HS := Lib.hid hs
  clear hn hs hb HZ HB
  obtain ⟨av, cv, hv, -⟩ := HN1.out.own.view
  subst hv
  go_wp2_with (first | (refine wpList_store_row rfl 47 _ _ rfl _ _ rfl rfl 47 _ (HR1.out) (by kernel_rfl) rfl (by kernel_rfl) ?_) | fail)
  exact bodyPost_ret (results_cell_row rfl _ _ w.heap.size 47 _ (0, 0) _ rfl (HR1.out.row _) Try.underlying47 rfl (by kernel_rfl)) rfl ⟨s, n, _, L, rfl, hsz, hn2, hn9, HN1.out.setRowOther _ _ (HN1.out.apartRow HR1.out (by decide)), hL, HS.out, below_setRow HB1.out (Nat.le_refl _) _⟩


def DrawnMS (w : World) (e : Ending) (w' : World) : Prop :=
  ∃ (s : ByteArray) (n : Int) (v : Value) (L : List (List Nat)) (r : ByteArray), e = .returned (.tuple #[.agg #[.string s, .int .i64 n, v], .string r]) ∧ s.size ≤ 11 ∧ 2 ≤ n ∧ n ≤ 9 ∧ New w.heap.size w' 9 v (strs L) ∧ L.length ≤ 41 ∧ (∀ l ∈ L, l.length ≤ 10) ∧ r.size ≤ 10 ∧ Below w.heap.size w w'

set_option maxRecDepth 100000 in
set_option maxHeartbeats 4000000 in
theorem DrawLeadRows_any (a : Option Addr) (len cap : Nat) (zs : List Int) (w : World) (hz : IsBytes w a len cap zs) (hl : len ≤ 1048576) :
    Calls Try.prog 43 #[.slice a len cap] w (DrawnMS w) := by
  have hb0 := (Below.refl _ w).alloc (Nat.le_refl _) (.cells #[.string ⟨#[]⟩, .int .i64 0, .slice none 0 0] 47)
  have hcode := codeAt_of (hz.belowW hb0)
  have HCUR := Lib.hid (cur_new a len cap _ hcode hl)
  have HR := Lib.hid ((RowAt.new w 47 #[.string ⟨#[]⟩, .int .i64 0, .slice none 0 0]).push (.cells #[.slice a len cap, .int .i64 0, .int .u64 0] 93))
  have HB := Lib.hid (hb0.alloc hb0.size (.cells #[.slice a len cap, .int .i64 0, .int .u64 0] 93))
  clear hz hcode hb0
  simp only [World.size_alloc] at HCUR
  go_enter Try.func43, Try.ntmps43
  go_wp2_with fail
  refine (anyMethod_draw (w.heap.size + 1) a len cap 0 (by omega) _ HCUR.out).mono ?_
  rintro e w1 ⟨s, n, v, L, rfl, hsz, hn2, hn9, hn, hL, hs, hd⟩
  have HR1 := Lib.hid (HR.out.only hd.only (by omega))
  have HB1 : Hid (Below w.heap.size w w1) := Lib.hid (by
    have h1 := hd.only.below (by simp)
    exact HB.out.trans ⟨h1.os, h1.tape, h1.output, h1.size, fun k hk => h1.block k (by omega)⟩)
  have hmb : w.heap.size + 2 ≤ w1.heap.size := by have := hd.only.size; simpa using this
  have HN1 := Lib.hid (hn.lower (B' := w.heap.size + 2) (by simp))
  have HC1 := Lib.hid hd.cur
  have HS := Lib.hid hs
  clear hn hs hd HCUR HB HR
  obtain ⟨av, cv, hv, -⟩ := HN1.out.own.view
  rw [strs_len] at hv
  subst hv
  obtain ⟨o2, ho2⟩ : ∃ o2, Obj.cells #[.string s, .int .i64 n, .slice av L.length cv] 47 = o2 := ⟨_, rfl⟩
  have hal := (Below.refl w1.heap.size w1).alloc (Nat.le_refl _) o2
  have HR2 := Lib.hid (HR1.out.kept hal)
  have HB2 := Lib.hid (HB1.out.trans (hal.mono HB1.out.size))
  have HN2 := Lib.hid (HN1.out.kept hal)
  have HC2 := Lib.hid (HC1.out.below hal)
  have HM2 : Hid (RowAt (w1.alloc o2) w1.heap.size 47 #[.string s, .int .i64 n, .slice av L.length cv]) := Lib.hid (by rw [← ho2]; exact RowAt.new w1 _ _)
  clear HR1 HB1 HN1 HC1 hal
  subst ho2
  go_wp2_with (first | (refine wpList_store_row rfl 47 _ _ rfl _ _ rfl rfl 47 _ (heap_alloc_new _ _) (by kernel_rfl) rfl (by kernel_rfl) ?_; rw [World.setRow_alloc_new]) | fail)
  have hltm := HM2.out.lt
  have hltr := HR2.out.lt
  generalize w1.alloc (.cells #[.string s, .int .i64 n, .slice av L.length cv] 47) = w2 at *
  obtain ⟨mb, hmb9⟩ : ∃ mb, w1.heap.size = mb := ⟨_, rfl⟩
  rw [hmb9] at hmb HM2 hltm
  simp only [hmb9]
  have HWB : Hid (w.heap.size + 2 ≤ w2.heap.size) := Lib.hid (by omega)
  have HMW : Hid (w.heap.size + 2 ≤ mb) := Lib.hid hmb
  have HONLY : Hid (∀ W', Only (w.heap.size + 1) w2 W' → RowAt W' mb 47 #[.string s, .int .i64 n, .slice av L.length cv] ∧ RowAt W' w.heap.size 47 #[.string ⟨#[]⟩, .int .i64 0, .slice none 0 0] ∧ New (w.heap.size + 2) W' 9 (.slice av L.length cv) (strs L) ∧ Below w.heap.size w W') := Lib.hid (fun W' h => ⟨HM2.out.only h (by have := HMW.out; omega), HR2.out.only h (by omega), HN2.out.only h (by omega), by
    have h1 := h.below (by have := HWB.out; omega)
    exact HB2.out.trans ⟨h1.os, h1.tape, h1.output, h1.size, fun k hk => h1.block k (by omega)⟩⟩)
  have HSS : Hid (∀ W', Only (w.heap.size + 1) w2 W' → (W'.cell? ⟨mb, 0, none⟩ = some (.string s) ∧ W'.cell? ⟨mb, 1, none⟩ = some (.int .i64 n) ∧ W'.cell? ⟨mb, 2, none⟩ = some (.slice av L.length cv))) := Lib.hid (fun W' h => ⟨(HONLY.out W' h).1.cell 0 rfl, (HONLY.out W' h).1.cell 1 rfl, (HONLY.out W' h).1.cell 2 rfl⟩)
  have hll : (L.length : Int) ≤ 41 := by omega
  have hin := l1In_any n 3 8
  have HIN := Lib.hid hin
  clear hin
  have m1 := HM2.out.cell 1 rfl
  have hcase : (decide (3 ≤ n) && decide (n ≤ 8)) = false ∨ ((decide (3 ≤ n) && decide (n ≤ 8)) = true ∧ ∃ k : Nat, n = (k : Int) ∧ 3 ≤ k ∧ k ≤ 8) := by
    by_cases h3 : 3 ≤ n
    · by_cases h8 : n ≤ 8
      · exact .inr ⟨by rw [decide_eq_true h3, decide_eq_true h8]; rfl, n.toNat, by omega, by omega, by omega⟩
      · exact .inl (by rw [decide_eq_false h8]; simp)
    · exact .inl (by rw [decide_eq_false h3]; simp)
  clear HM2 HR2 HN2 HB2
  rcases hcase with hd | ⟨hd, k, hk, hk3, hk8⟩
  · rw [hd] at HIN
    have HO := Lib.hid (Only.refl (w.heap.size + 1) w2)
    have HC := Lib.hid (HC2.out.more (m' := 402) (by omega))
    clear hd HC2
    go_wp2_with (first | (go_at_call 75; refine (HIN.out _).mono ?_; rintro e5 w5 ⟨rfl, rfl⟩) | fail)
    clear m1
    have HRR : Hid (Calls Try.prog 90 #[.pointer (some ⟨w.heap.size + 1, 0, none⟩)] w2.drew (SomeText 10 (w.heap.size + 1) a len cap 500 w2.drew)) := Lib.hid ((anyRow_draw (w.heap.size + 1) a len cap 402 (by omega) w2.drew ((Dr.start HC.out).drew.cur)).mono fun e W' h => by
      obtain ⟨t, ht, he, hc, ho⟩ := h
      exact ⟨t, by omega, he, hc.more (by omega), ho⟩)
    have HOX := Lib.hid (HO.out.trans (Only.refl (w.heap.size + 1) w2).drew)
    have HS0 := Lib.hid (HSS.out _ HOX.out)
    unfold SomeText at HRR
    go_region_held3 (fun W' => W'.cell? ⟨mb, 0, none⟩ = some (.string s) ∧ W'.cell? ⟨mb, 1, none⟩ = some (.int .i64 n) ∧ W'.cell? ⟨mb, 2, none⟩ = some (.slice av L.length cv)) (first | assumption | exact HS0.out | exact HSZ.out) (first
      | (go_at_call 90; refine HRR.out.mono ?_; rintro e6 w6 ⟨t, ht, rfl, hc6, ho6⟩; have hO6 := HOX.out.trans ho6; have hS6 := HSS.out _ hO6; have hz := (HONLY.out _ hO6).2.1; have z0 := hz.cell 0 rfl; have z1 := hz.cell 1 rfl; have z2 := hz.cell 2 rfl; have f0 := hz.free 0; have f1 := hz.free 1; have f2 := hz.free 2; have HSZ : Hid ((((w6.setCell ⟨w.heap.size, 0, none⟩ (.string s)).setCell ⟨w.heap.size, 1, none⟩ (.int .i64 n)).setCell ⟨w.heap.size, 2, none⟩ (.slice av L.length cv)).cell? ⟨mb, 0, none⟩ = some (.string s) ∧ (((w6.setCell ⟨w.heap.size, 0, none⟩ (.string s)).setCell ⟨w.heap.size, 1, none⟩ (.int .i64 n)).setCell ⟨w.heap.size, 2, none⟩ (.slice av L.length cv)).cell? ⟨mb, 1, none⟩ = some (.int .i64 n) ∧ (((w6.setCell ⟨w.heap.size, 0, none⟩ (.string s)).setCell ⟨w.heap.size, 1, none⟩ (.int .i64 n)).setCell ⟨w.heap.size, 2, none⟩ (.slice av L.length cv)).cell? ⟨mb, 2, none⟩ = some (.slice av L.length cv)) := Lib.hid (by have hm := (((HONLY.out _ hO6).1.other ⟨w.heap.size, 0, none⟩ (.string s) (by have := HMW.out; show mb ≠ w.heap.size; omega)).other ⟨w.heap.size, 1, none⟩ (.int .i64 n) (by have := HMW.out; show mb ≠ w.heap.size; omega)).other ⟨w.heap.size, 2, none⟩ (.slice av L.length cv) (by have := HMW.out; show mb ≠ w.heap.size; omega); exact ⟨hm.cell 0 rfl, hm.cell 1 rfl, hm.cell 2 rfl⟩))
      | fail)
    have hz6 := HONLY.out _ hO6
    have HF := Lib.hid (((hz6.2.1.set 0 (.string s)).set 1 (.int .i64 n)).set 2 (.slice av L.length cv))
    have hap := hz6.2.2.1.apartRow hz6.2.1 (by decide)
    have HNF := Lib.hid ((((hz6.2.2.1.setOther w.heap.size 0 (.string s) hap).setOther w.heap.size 1 (.int .i64 n) hap).setOther w.heap.size 2 (.slice av L.length cv) hap).lower (B' := w.heap.size) (by omega))
    have HBF := Lib.hid (((hz6.2.2.2.setCell (p := ⟨w.heap.size, 0, none⟩) (Nat.le_refl _) (.string s)).setCell (p := ⟨w.heap.size, 1, none⟩) (Nat.le_refl _) (.int .i64 n)).setCell (p := ⟨w.heap.size, 2, none⟩) (Nat.le_refl _) (.slice av L.length cv))
    clear hz6 hap hS6 HSZ hz z0 z1 z2 f0 f1 f2 hc6 ho6 hO6
    go_wp2
    try simp only [Exit.inBlock, Exit.then]
    exact bodyPost_ret (results_row_tmp rfl _ _ w.heap.size 47 _ (0, 0) _ rfl HF.out Try.underlying47 rfl (by kernel_rfl)) rfl ⟨s, n, _, L, t, rfl, hsz, hn2, hn9, HNF.out, hL, HS.out, by omega, HBF.out⟩
  · rw [hd] at HIN
    subst hk
    have HONE := Lib.hid (one_any (w.heap.size + 1) a len cap 400 8 (by omega) (by omega) (by omega) w2 HC2.out)
    unfold SomeBool at HONE
    clear hd HC2
    go_wp2_with (first | (go_at_call 75; refine (HIN.out _).mono ?_; rintro e5 w5 ⟨rfl, rfl⟩) | fail)
    refine HONE.out.mono ?_
    rintro e wx ⟨tb, rfl, hcx, hox⟩
    have HO := Lib.hid hox
    have HC := Lib.hid hcx
    clear hcx hox HONE m1
    have m1 := (HSS.out _ HO.out).2.1
    cases tb
    · go_wp2
      have HRR : Hid (Calls Try.prog 89 #[.pointer (some ⟨w.heap.size + 1, 0, none⟩), .int .i64 (k : Int)] wx.drew (SomeText 10 (w.heap.size + 1) a len cap 500 wx.drew)) := Lib.hid ((row_draw (w.heap.size + 1) a len cap 402 k (by omega) (by omega) (by omega) wx.drew ((Dr.start HC.out).drew.cur)).mono fun e W' h => by
        obtain ⟨t, ht, he, hc, ho⟩ := h
        exact ⟨t, by omega, he, hc.more (by omega), ho⟩)
      have HOX := Lib.hid (HO.out.trans (Only.refl (w.heap.size + 1) wx).drew)
      have HS0 := Lib.hid (HSS.out _ HOX.out)
      unfold SomeText at HRR
      go_region_held3 (fun W' => W'.cell? ⟨mb, 0, none⟩ = some (.string s) ∧ W'.cell? ⟨mb, 1, none⟩ = some (.int .i64 (k : Int)) ∧ W'.cell? ⟨mb, 2, none⟩ = some (.slice av L.length cv)) (first | assumption | exact HS0.out | exact HSZ.out) (first
        | (go_at_call 89; refine HRR.out.mono ?_; rintro e6 w6 ⟨t, ht, rfl, hc6, ho6⟩; have hO6 := HOX.out.trans ho6; have hS6 := HSS.out _ hO6; have hz := (HONLY.out _ hO6).2.1; have z0 := hz.cell 0 rfl; have z1 := hz.cell 1 rfl; have z2 := hz.cell 2 rfl; have f0 := hz.free 0; have f1 := hz.free 1; have f2 := hz.free 2; have HSZ : Hid ((((w6.setCell ⟨w.heap.size, 0, none⟩ (.string s)).setCell ⟨w.heap.size, 1, none⟩ (.int .i64 (k : Int))).setCell ⟨w.heap.size, 2, none⟩ (.slice av L.length cv)).cell? ⟨mb, 0, none⟩ = some (.string s) ∧ (((w6.setCell ⟨w.heap.size, 0, none⟩ (.string s)).setCell ⟨w.heap.size, 1, none⟩ (.int .i64 (k : Int))).setCell ⟨w.heap.size, 2, none⟩ (.slice av L.length cv)).cell? ⟨mb, 1, none⟩ = some (.int .i64 (k : Int)) ∧ (((w6.setCell ⟨w.heap.size, 0, none⟩ (.string s)).setCell ⟨w.heap.size, 1, none⟩ (.int .i64 (k : Int))).setCell ⟨w.heap.size, 2, none⟩ (.slice av L.length cv)).cell? ⟨mb, 2, none⟩ = some (.slice av L.length cv)) := Lib.hid (by have hm := (((HONLY.out _ hO6).1.other ⟨w.heap.size, 0, none⟩ (.string s) (by have := HMW.out; show mb ≠ w.heap.size; omega)).other ⟨w.heap.size, 1, none⟩ (.int .i64 (k : Int)) (by have := HMW.out; show mb ≠ w.heap.size; omega)).other ⟨w.heap.size, 2, none⟩ (.slice av L.length cv) (by have := HMW.out; show mb ≠ w.heap.size; omega); exact ⟨hm.cell 0 rfl, hm.cell 1 rfl, hm.cell 2 rfl⟩))
        | fail)
      have hz6 := HONLY.out _ hO6
      have HF := Lib.hid (((hz6.2.1.set 0 (.string s)).set 1 (.int .i64 (k : Int))).set 2 (.slice av L.length cv))
      have hap := hz6.2.2.1.apartRow hz6.2.1 (by decide)
      have HNF := Lib.hid ((((hz6.2.2.1.setOther w.heap.size 0 (.string s) hap).setOther w.heap.size 1 (.int .i64 (k : Int)) hap).setOther w.heap.size 2 (.slice av L.length cv) hap).lower (B' := w.heap.size) (by omega))
      have HBF := Lib.hid (((hz6.2.2.2.setCell (p := ⟨w.heap.size, 0, none⟩) (Nat.le_refl _) (.string s)).setCell (p := ⟨w.heap.size, 1, none⟩) (Nat.le_refl _) (.int .i64 (k : Int))).setCell (p := ⟨w.heap.size, 2, none⟩) (Nat.le_refl _) (.slice av L.length cv))
      clear hz6 hap hS6 HSZ hz z0 z1 z2 f0 f1 f2 hc6 ho6 hO6
      go_wp2
      try simp only [Exit.inBlock, Exit.then]
      exact bodyPost_ret (results_row_tmp rfl _ _ w.heap.size 47 _ (0, 0) _ rfl HF.out Try.underlying47 rfl (by kernel_rfl)) rfl ⟨s, (k : Int), _, L, t, rfl, hsz, hn2, hn9, HNF.out, hL, HS.out, by omega, HBF.out⟩
    · go_wp2
      have HRR : Hid (Calls Try.prog 90 #[.pointer (some ⟨w.heap.size + 1, 0, none⟩)] wx.drew (SomeText 10 (w.heap.size + 1) a len cap 500 wx.drew)) := Lib.hid ((anyRow_draw (w.heap.size + 1) a len cap 402 (by omega) wx.drew ((Dr.start HC.out).drew.cur)).mono fun e W' h => by
        obtain ⟨t, ht, he, hc, ho⟩ := h
        exact ⟨t, by omega, he, hc.more (by omega), ho⟩)
      have HOX := Lib.hid (HO.out.trans (Only.refl (w.heap.size + 1) wx).drew)
      have HS0 := Lib.hid (HSS.out _ HOX.out)
      unfold SomeText at HRR
      go_region_held3 (fun W' => W'.cell? ⟨mb, 0, none⟩ = some (.string s) ∧ W'.cell? ⟨mb, 1, none⟩ = some (.int .i64 (k : Int)) ∧ W'.cell? ⟨mb, 2, none⟩ = some (.slice av L.length cv)) (first | assumption | exact HS0.out | exact HSZ.out) (first
        | (go_at_call 90; refine HRR.out.mono ?_; rintro e6 w6 ⟨t, ht, rfl, hc6, ho6⟩; have hO6 := HOX.out.trans ho6; have hS6 := HSS.out _ hO6; have hz := (HONLY.out _ hO6).2.1; have z0 := hz.cell 0 rfl; have z1 := hz.cell 1 rfl; have z2 := hz.cell 2 rfl; have f0 := hz.free 0; have f1 := hz.free 1; have f2 := hz.free 2; have HSZ : Hid ((((w6.setCell ⟨w.heap.size, 0, none⟩ (.string s)).setCell ⟨w.heap.size, 1, none⟩ (.int .i64 (k : Int))).setCell ⟨w.heap.size, 2, none⟩ (.slice av L.length cv)).cell? ⟨mb, 0, none⟩ = some (.string s) ∧ (((w6.setCell ⟨w.heap.size, 0, none⟩ (.string s)).setCell ⟨w.heap.size, 1, none⟩ (.int .i64 (k : Int))).setCell ⟨w.heap.size, 2, none⟩ (.slice av L.length cv)).cell? ⟨mb, 1, none⟩ = some (.int .i64 (k : Int)) ∧ (((w6.setCell ⟨w.heap.size, 0, none⟩ (.string s)).setCell ⟨w.heap.size, 1, none⟩ (.int .i64 (k : Int))).setCell ⟨w.heap.size, 2, none⟩ (.slice av L.length cv)).cell? ⟨mb, 2, none⟩ = some (.slice av L.length cv)) := Lib.hid (by have hm := (((HONLY.out _ hO6).1.other ⟨w.heap.size, 0, none⟩ (.string s) (by have := HMW.out; show mb ≠ w.heap.size; omega)).other ⟨w.heap.size, 1, none⟩ (.int .i64 (k : Int)) (by have := HMW.out; show mb ≠ w.heap.size; omega)).other ⟨w.heap.size, 2, none⟩ (.slice av L.length cv) (by have := HMW.out; show mb ≠ w.heap.size; omega); exact ⟨hm.cell 0 rfl, hm.cell 1 rfl, hm.cell 2 rfl⟩))
        | fail)
      have hz6 := HONLY.out _ hO6
      have HF := Lib.hid (((hz6.2.1.set 0 (.string s)).set 1 (.int .i64 (k : Int))).set 2 (.slice av L.length cv))
      have hap := hz6.2.2.1.apartRow hz6.2.1 (by decide)
      have HNF := Lib.hid ((((hz6.2.2.1.setOther w.heap.size 0 (.string s) hap).setOther w.heap.size 1 (.int .i64 (k : Int)) hap).setOther w.heap.size 2 (.slice av L.length cv) hap).lower (B' := w.heap.size) (by omega))
      have HBF := Lib.hid (((hz6.2.2.2.setCell (p := ⟨w.heap.size, 0, none⟩) (Nat.le_refl _) (.string s)).setCell (p := ⟨w.heap.size, 1, none⟩) (Nat.le_refl _) (.int .i64 (k : Int))).setCell (p := ⟨w.heap.size, 2, none⟩) (Nat.le_refl _) (.slice av L.length cv))
      clear hz6 hap hS6 HSZ hz z0 z1 z2 f0 f1 f2 hc6 ho6 hO6
      go_wp2
      try simp only [Exit.inBlock, Exit.then]
      exact bodyPost_ret (results_row_tmp rfl _ _ w.heap.size 47 _ (0, 0) _ rfl HF.out Try.underlying47 rfl (by kernel_rfl)) rfl ⟨s, (k : Int), _, L, t, rfl, hsz, hn2, hn9, HNF.out, hL, HS.out, by omega, HBF.out⟩
end Go.Proofs.Ytnoepobbecobbaa
