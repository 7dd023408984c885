/- Methods, calls and touches drawn. -/
import Derived.Test.YtkhglknpcajmiaaQV
import Derived.Test.YtkhglknpcajmiaaYA
namespace Go.Proofs.Ytkhglknpcajmiaa
open Go.RowKit
set_option linter.unusedSimpArgs false
set_option linter.unusedVariables false

/-- a method, calls and a touch are drawn -/
def DrawnGT (w : World) (e : Ending) (w' : World) : Prop :=
  ∃ (s : ByteArray) (n : Int) (v : Value) (L : List (List Nat)) (x y r : ByteArray), e = .returned (.tuple #[.agg #[.string s, .int .i64 n, v], .agg #[.string x, .string y], .string r]) ∧ s.size ≤ 11 ∧ 2 ≤ n ∧ n ≤ 9 ∧ New w.heap.size w' 9 v (strs L) ∧ L.length ≤ 41 ∧ (∀ l ∈ L, l.length ≤ 10) ∧ x.size ≤ 10 ∧ y.size ≤ 10 ∧ r.size ≤ 130 ∧ Below w.heap.size w w'

set_option maxRecDepth 100000 in
set_option maxHeartbeats 1000000 in
set_option maxHeartbeats 8000000 in
theorem DrawTouchHeads_any (a : Option Addr) (len cap : Nat) (zs : List Int) (w : World) (hz : IsBytes w a len cap zs) (hl : len ≤ 9223372036854775807) :
    Calls Try.prog 107 #[.slice a len cap] w (DrawnGT w) := by
  have hb0 := ((Below.refl _ w).alloc (Nat.le_refl _) (.cells #[.string ⟨#[]⟩, .int .i64 0, .slice none 0 0] 25)).alloc (by simp) (.cells #[.string ⟨#[]⟩, .string ⟨#[]⟩] 27)
  have hcode := codeAt_of (hz.belowW hb0)
  have HCUR := Lib.hid (cur_newM a len cap _ hcode hl)
  have HR := Lib.hid (((RowAt.new w 25 #[.string ⟨#[]⟩, .int .i64 0, .slice none 0 0]).push (.cells #[.string ⟨#[]⟩, .string ⟨#[]⟩] 27)).push (.cells #[.slice a len cap, .int .i64 0, .int .u64 0] 112))
  have HY : Hid (RowAt (((w.alloc (.cells #[.string ⟨#[]⟩, .int .i64 0, .slice none 0 0] 25)).alloc (.cells #[.string ⟨#[]⟩, .string ⟨#[]⟩] 27)).alloc (.cells #[.slice a len cap, .int .i64 0, .int .u64 0] 112)) (w.heap.size + 1) 27 #[.string ⟨#[]⟩, .string ⟨#[]⟩]) := Lib.hid (by
    have := (RowAt.new (w.alloc (.cells #[.string ⟨#[]⟩, .int .i64 0, .slice none 0 0] 25)) 27 #[.string ⟨#[]⟩, .string ⟨#[]⟩]).push (.cells #[.slice a len cap, .int .i64 0, .int .u64 0] 112)
    simpa using this)
  have HB := Lib.hid (hb0.alloc hb0.size (.cells #[.slice a len cap, .int .i64 0, .int .u64 0] 112))
  clear hz hcode hb0
  simp only [World.size_alloc] at HCUR
  go_enter Try.func107, Try.ntmps107
  go_wp2_with fail
  refine (anyMethod_draw (w.heap.size + 1 + 1) a len cap 0 (by omega) _ HCUR.out).mono ?_
  rintro e w1 ⟨s, n, v, L, rfl, hsz, hn2, hn9, hn, hL, hs, hd⟩
  have HR1 := Lib.hid (HR.out.only hd.only (by omega))
  have HY1 := Lib.hid (HY.out.only hd.only (by omega))
  have HB1 : Hid (Below w.heap.size w w1) := Lib.hid (by
    have h1 := hd.only.below (by simp)
    exact HB.out.trans ⟨h1.os, h1.tape, h1.output, h1.size, fun k hk => h1.block k (by omega)⟩)
  have hmb : w.heap.size + 3 ≤ w1.heap.size := by have := hd.only.size; simpa using this
  have HN1 := Lib.hid (hn.lower (B' := w.heap.size + 3) (by simp))
  have HC1 := Lib.hid hd.cur
  have HS := Lib.hid hs
  clear hn hs hd HCUR HB HR HY
  obtain ⟨av, cv, hv, -⟩ := HN1.out.own.view
  rw [strs_len] at hv
  subst hv
  have hal := (Below.refl w1.heap.size w1).alloc (Nat.le_refl _) (.cells #[.string s, .int .i64 n, .slice av L.length cv] 25)
  have HR2 := Lib.hid (HR1.out.kept hal)
  have HY2 := Lib.hid (HY1.out.kept hal)
  have HB2 := Lib.hid (HB1.out.trans (hal.mono HB1.out.size))
  have HN2 := Lib.hid (HN1.out.kept hal)
  have HC2 := Lib.hid (HC1.out.below hal)
  have HM2 := Lib.hid (RowAt.new w1 25 #[.string s, .int .i64 n, .slice av L.length cv])
  clear HR1 HB1 HN1 HC1 hal HY1
  go_wp2_with (first | (refine wpList_store_row rfl 25 _ _ rfl _ _ rfl rfl 25 _ (heap_alloc_new _ _) (by kernel_rfl) rfl (by kernel_rfl) ?_; rw [World.setRow_alloc_new]) | fail)
  generalize w1.alloc (.cells #[.string s, .int .i64 n, .slice av L.length cv] 25) = w2 at *
  have hlt2 := HM2.out.lt
  obtain ⟨mb, hmb9⟩ : ∃ mb, w1.heap.size = mb := ⟨_, rfl⟩
  rw [hmb9] at hmb HM2 hlt2
  simp only [hmb9]
  go_wp2_with (first | (refine wpList_load_row rfl 25 _ rfl _ rfl 25 _ _ _ (HM2.out) Try.underlying25 rfl (by kernel_rfl) ?_) | fail)
  refine (anyCalls_draw (w.heap.size + 1 + 1) a len cap 400 (by omega) s (by unfold maxLen; omega) n _ L (by omega) (fun l hl => by have := HS.out l hl; unfold maxLen; omega) w2 (Dr.start HC2.out).cur HN2.out.own.txts).mono ?_
  rintro e w4 ⟨x, y, rfl, hx6, hy6, hd4⟩
  have hm0 : mb ≠ w.heap.size := by omega
  have hm1 : mb ≠ w.heap.size + 1 := by omega
  have hmc : mb ≠ w.heap.size + 1 + 1 := by omega
  have HM4 := Lib.hid (HM2.out.only hd4.only hmc)
  have HR4 := Lib.hid (HR2.out.only hd4.only (by omega))
  have HY4 := Lib.hid (HY2.out.only hd4.only (by omega))
  have HN4 := Lib.hid (HN2.out.only hd4.only (by omega))
  have HC4 := Lib.hid hd4.cur
  have HB4 : Hid (Below w.heap.size w w4) := Lib.hid (by
    have h1 := hd4.only.below (by omega)
    exact HB2.out.trans ⟨h1.os, h1.tape, h1.output, h1.size, fun k hk => h1.block k (by omega)⟩)
  have hkb0 : mb < w4.heap.size := HM4.out.lt
  clear hd4 HM2 HR2 HY2 HN2 HC2 HB2 hlt2
  have hal := (Below.refl w4.heap.size w4).alloc (Nat.le_refl _) (.cells #[.string x, .string y] 27)
  have HM5 := Lib.hid (HM4.out.kept hal)
  have HR5 := Lib.hid (HR4.out.kept hal)
  have HY5 := Lib.hid (HY4.out.kept hal)
  have HN5 := Lib.hid (HN4.out.kept hal)
  have HC5 := Lib.hid (HC4.out.below hal)
  have HB5 := Lib.hid (HB4.out.trans (hal.mono HB4.out.size))
  have HK5 := Lib.hid (RowAt.new w4 27 #[.string x, .string y])
  clear hal HM4 HR4 HY4 HN4 HC4 HB4
  go_wp2_with (first | (refine wpList_store_row rfl 27 _ _ rfl _ _ rfl rfl 27 _ (heap_at _ _ _ (by simp)) (by kernel_rfl) rfl (by kernel_rfl) ?_; rw [setRow_at _ _ _ _ _ (by simp)]) | fail)
  generalize w4.alloc (.cells #[.string x, .string y] 27) = w5 at *
  obtain ⟨kb, hkb9⟩ : ∃ kb, w4.heap.size = kb := ⟨_, rfl⟩
  rw [hkb9] at hkb0 HK5
  simp only [hkb9]
  have hk0 : kb ≠ w.heap.size := by omega
  have hk1 : kb ≠ w.heap.size + 1 := by omega
  have hkc : kb ≠ w.heap.size + 1 + 1 := by omega
  have HAN : Hid (Calls Try.prog 120 #[.pointer (some ⟨w.heap.size + 1 + 1, 0, none⟩)] w5.drew (SomeText 130 (w.heap.size + 1 + 1) a len cap (420 + 200) w5.drew)) := Lib.hid (anyTouch_draw (w.heap.size + 1 + 1) a len cap 420 (by omega) w5.drew ((Dr.start (HC5.out.more (m' := 420) (by omega))).drew.cur))
  unfold SomeText at HAN
  have HSS : Hid (∀ W', RowAt W' mb 25 #[.string s, .int .i64 n, .slice av L.length cv] → RowAt W' kb 27 #[.string x, .string y] → (W'.cell? ⟨mb, 0, none⟩ = some (.string s) ∧ W'.cell? ⟨mb, 1, none⟩ = some (.int .i64 n) ∧ W'.cell? ⟨mb, 2, none⟩ = some (.slice av L.length cv) ∧ W'.cell? ⟨kb, 0, none⟩ = some (.string x) ∧ W'.cell? ⟨kb, 1, none⟩ = some (.string y))) := Lib.hid (fun W' h k => ⟨h.cell 0 rfl, h.cell 1 rfl, h.cell 2 rfl, k.cell 0 rfl, k.cell 1 rfl⟩)
  have hq0 := HSS.out w5.drew (HM5.out.drewN 1) (HK5.out.drewN 1)
  have HQA : Hid (∀ W', RowAt W' mb 25 #[.string s, .int .i64 n, .slice av L.length cv] → RowAt W' kb 27 #[.string x, .string y] → ((((W'.setCell ⟨w.heap.size, 0, none⟩ (.string s)).setCell ⟨w.heap.size, 1, none⟩ (.int .i64 n)).setCell ⟨w.heap.size, 2, none⟩ (.slice av L.length cv)).cell? ⟨mb, 0, none⟩ = some (.string s) ∧ (((W'.setCell ⟨w.heap.size, 0, none⟩ (.string s)).setCell ⟨w.heap.size, 1, none⟩ (.int .i64 n)).setCell ⟨w.heap.size, 2, none⟩ (.slice av L.length cv)).cell? ⟨mb, 1, none⟩ = some (.int .i64 n) ∧ (((W'.setCell ⟨w.heap.size, 0, none⟩ (.string s)).setCell ⟨w.heap.size, 1, none⟩ (.int .i64 n)).setCell ⟨w.heap.size, 2, none⟩ (.slice av L.length cv)).cell? ⟨mb, 2, none⟩ = some (.slice av L.length cv) ∧ (((W'.setCell ⟨w.heap.size, 0, none⟩ (.string s)).setCell ⟨w.heap.size, 1, none⟩ (.int .i64 n)).setCell ⟨w.heap.size, 2, none⟩ (.slice av L.length cv)).cell? ⟨kb, 0, none⟩ = some (.string x) ∧ (((W'.setCell ⟨w.heap.size, 0, none⟩ (.string s)).setCell ⟨w.heap.size, 1, none⟩ (.int .i64 n)).setCell ⟨w.heap.size, 2, none⟩ (.slice av L.length cv)).cell? ⟨kb, 1, none⟩ = some (.string y))) := Lib.hid (fun W' h k => HSS.out _ (((h.other ⟨w.heap.size, 0, none⟩ (.string s) hm0).other ⟨w.heap.size, 1, none⟩ (.int .i64 n) hm0).other ⟨w.heap.size, 2, none⟩ (.slice av L.length cv) hm0) (((k.other ⟨w.heap.size, 0, none⟩ (.string s) hk0).other ⟨w.heap.size, 1, none⟩ (.int .i64 n) hk0).other ⟨w.heap.size, 2, none⟩ (.slice av L.length cv) hk0))
  have HQB : Hid (∀ W', RowAt W' mb 25 #[.string s, .int .i64 n, .slice av L.length cv] → RowAt W' kb 27 #[.string x, .string y] → (((W'.setCell ⟨w.heap.size + 1, 0, none⟩ (.string x)).setCell ⟨w.heap.size + 1, 1, none⟩ (.string y)).cell? ⟨mb, 0, none⟩ = some (.string s) ∧ ((W'.setCell ⟨w.heap.size + 1, 0, none⟩ (.string x)).setCell ⟨w.heap.size + 1, 1, none⟩ (.string y)).cell? ⟨mb, 1, none⟩ = some (.int .i64 n) ∧ ((W'.setCell ⟨w.heap.size + 1, 0, none⟩ (.string x)).setCell ⟨w.heap.size + 1, 1, none⟩ (.string y)).cell? ⟨mb, 2, none⟩ = some (.slice av L.length cv) ∧ ((W'.setCell ⟨w.heap.size + 1, 0, none⟩ (.string x)).setCell ⟨w.heap.size + 1, 1, none⟩ (.string y)).cell? ⟨kb, 0, none⟩ = some (.string x) ∧ ((W'.setCell ⟨w.heap.size + 1, 0, none⟩ (.string x)).setCell ⟨w.heap.size + 1, 1, none⟩ (.string y)).cell? ⟨kb, 1, none⟩ = some (.string y))) := Lib.hid (fun W' h k => HSS.out _ ((h.other ⟨w.heap.size + 1, 0, none⟩ (.string x) hm1).other ⟨w.heap.size + 1, 1, none⟩ (.string y) hm1) ((k.other ⟨w.heap.size + 1, 0, none⟩ (.string x) hk1).other ⟨w.heap.size + 1, 1, none⟩ (.string y) hk1))
  have HQAB : Hid (∀ W', RowAt W' mb 25 #[.string s, .int .i64 n, .slice av L.length cv] → RowAt W' kb 27 #[.string x, .string y] → ((((((W'.setCell ⟨w.heap.size, 0, none⟩ (.string s)).setCell ⟨w.heap.size, 1, none⟩ (.int .i64 n)).setCell ⟨w.heap.size, 2, none⟩ (.slice av L.length cv)).setCell ⟨w.heap.size + 1, 0, none⟩ (.string x)).setCell ⟨w.heap.size + 1, 1, none⟩ (.string y)).cell? ⟨mb, 0, none⟩ = some (.string s) ∧ (((((W'.setCell ⟨w.heap.size, 0, none⟩ (.string s)).setCell ⟨w.heap.size, 1, none⟩ (.int .i64 n)).setCell ⟨w.heap.size, 2, none⟩ (.slice av L.length cv)).setCell ⟨w.heap.size + 1, 0, none⟩ (.string x)).setCell ⟨w.heap.size + 1, 1, none⟩ (.string y)).cell? ⟨mb, 1, none⟩ = some (.int .i64 n) ∧ (((((W'.setCell ⟨w.heap.size, 0, none⟩ (.string s)).setCell ⟨w.heap.size, 1, none⟩ (.int .i64 n)).setCell ⟨w.heap.size, 2, none⟩ (.slice av L.length cv)).setCell ⟨w.heap.size + 1, 0, none⟩ (.string x)).setCell ⟨w.heap.size + 1, 1, none⟩ (.string y)).cell? ⟨mb, 2, none⟩ = some (.slice av L.length cv) ∧ (((((W'.setCell ⟨w.heap.size, 0, none⟩ (.string s)).setCell ⟨w.heap.size, 1, none⟩ (.int .i64 n)).setCell ⟨w.heap.size, 2, none⟩ (.slice av L.length cv)).setCell ⟨w.heap.size + 1, 0, none⟩ (.string x)).setCell ⟨w.heap.size + 1, 1, none⟩ (.string y)).cell? ⟨kb, 0, none⟩ = some (.string x) ∧ (((((W'.setCell ⟨w.heap.size, 0, none⟩ (.string s)).setCell ⟨w.heap.size, 1, none⟩ (.int .i64 n)).setCell ⟨w.heap.size, 2, none⟩ (.slice av L.length cv)).setCell ⟨w.heap.size + 1, 0, none⟩ (.string x)).setCell ⟨w.heap.size + 1, 1, none⟩ (.string y)).cell? ⟨kb, 1, none⟩ = some (.string y))) := Lib.hid (fun W' h k => HQB.out _ (((h.other ⟨w.heap.size, 0, none⟩ (.string s) hm0).other ⟨w.heap.size, 1, none⟩ (.int .i64 n) hm0).other ⟨w.heap.size, 2, none⟩ (.slice av L.length cv) hm0) (((k.other ⟨w.heap.size, 0, none⟩ (.string s) hk0).other ⟨w.heap.size, 1, none⟩ (.int .i64 n) hk0).other ⟨w.heap.size, 2, none⟩ (.slice av L.length cv) hk0))
  go_region_held3 (fun w' => w'.cell? ⟨mb, 0, none⟩ = some (.string s) ∧ w'.cell? ⟨mb, 1, none⟩ = some (.int .i64 n) ∧ w'.cell? ⟨mb, 2, none⟩ = some (.slice av L.length cv) ∧ w'.cell? ⟨kb, 0, none⟩ = some (.string x) ∧ w'.cell? ⟨kb, 1, none⟩ = some (.string y)) (first | with_reducible assumption | with_reducible exact hq0 | with_reducible exact hq1 | with_reducible exact hq2) (first
    | (go_at_call 120; refine HAN.out.mono ?_; rintro e6 w6 ⟨u, hu6, rfl, hc6, ho6⟩; have hm6 := (HM5.out.drewN 1).only ho6 hmc; have hk6 := (HK5.out.drewN 1).only ho6 hkc; have hS6 := HSS.out _ hm6 hk6; have hq1 := HQA.out _ hm6 hk6; have hq2 := HQAB.out _ hm6 hk6; have hz6 := (HR5.out.drewN 1).only ho6 (by omega); have hy7 := (HY5.out.drewN 1).only ho6 (by omega); have z0 := hz6.cell 0 rfl; have z1 := hz6.cell 1 rfl; have z2 := hz6.cell 2 rfl; have f0 := hz6.free 0; have f1 := hz6.free 1; have f2 := hz6.free 2; have y0 := hy7.cell 0 rfl; have y1 := hy7.cell 1 rfl; have g0 := hy7.free 0; have g1 := hy7.free 1)
    | fail)
  have hn10 : w.heap.size + 1 ≠ w.heap.size := by omega
  have hn01 : w.heap.size ≠ w.heap.size + 1 := by omega
  have hF := (((((hz6.set 0 (.string s)).set 1 (.int .i64 n)).set 2 (.slice av L.length cv)).other ⟨w.heap.size + 1, 0, none⟩ (.string x) hn01).other ⟨w.heap.size + 1, 1, none⟩ (.string y) hn01)
  have HF : Hid (RowAt _ w.heap.size 25 #[.string s, .int .i64 n, (.slice av L.length cv)]) := Lib.hid hF
  have hG := ((((hy7.other ⟨w.heap.size, 0, none⟩ (.string s) hn10).other ⟨w.heap.size, 1, none⟩ (.int .i64 n) hn10).other ⟨w.heap.size, 2, none⟩ (.slice av L.length cv) hn10).set 0 (.string x)).set 1 (.string y)
  have HG : Hid (RowAt _ (w.heap.size + 1) 27 #[.string x, .string y]) := Lib.hid hG
  have hn6 := (HN5.out.drewN 1).only ho6 (by omega)
  have ap0 := hn6.apartRow hz6 (by decide)
  have ap1 := hn6.apartRow hy7 (by decide)
  have HNF := Lib.hid ((((((hn6.setOther w.heap.size 0 (.string s) ap0).setOther w.heap.size 1 (.int .i64 n) ap0).setOther w.heap.size 2 (.slice av L.length cv) ap0).setOther (w.heap.size + 1) 0 (.string x) ap1).setOther (w.heap.size + 1) 1 (.string y) ap1).lower (B' := w.heap.size) (by omega))
  have hb6 : Below w.heap.size w w6 := by
    have h1 := ho6.below (show w.heap.size + 1 + 1 ≤ w5.drew.heap.size from by have := HK5.out.lt; show w.heap.size + 1 + 1 ≤ w5.heap.size; omega)
    exact HB5.out.drew.trans ⟨h1.os, h1.tape, h1.output, h1.size, fun k hk => h1.block k (by omega)⟩
  have HBF := Lib.hid (((((hb6.setCell (p := ⟨w.heap.size, 0, none⟩) (Nat.le_refl _) (.string s)).setCell (p := ⟨w.heap.size, 1, none⟩) (Nat.le_refl _) (.int .i64 n)).setCell (p := ⟨w.heap.size, 2, none⟩) (Nat.le_refl _) (.slice av L.length cv)).setCell (p := ⟨w.heap.size + 1, 0, none⟩) (Nat.le_succ _) (.string x)).setCell (p := ⟨w.heap.size + 1, 1, none⟩) (Nat.le_succ _) (.string y))
  clear hF hG hn6 ap0 ap1 hb6 hz6 hy7 hm6 hk6 hS6 hq0 hq1 hq2 z0 z1 z2 f0 f1 f2 y0 y1 g0 g1 ho6 hc6
  go_wp2
  try simp only [Exit.inBlock, Exit.then]
  exact bodyPost_ret (results_two1 rfl _ _ w.heap.size (w.heap.size + 1) _ _ (0, 0) (0, 0) _ _ (.string u) rfl HF.out rfl HG.out rfl Try.underlying25 rfl Try.underlying27 rfl (by kernel_rfl) (by kernel_rfl)) rfl ⟨s, n, _, L, x, y, u, rfl, hsz, hn2, hn9, HNF.out, hL, HS.out, hx6, hy6, hu6, HBF.out⟩

set_option maxRecDepth 100000 in
set_option maxHeartbeats 1000000 in
theorem DrawTouchRows_any (a : Option Addr) (len cap : Nat) (zs : List Int) (w : World) (hz : IsBytes w a len cap zs) (hl : len ≤ 9223372036854775807) :
    Calls Try.prog 41 #[.slice a len cap] w (DrawnGT w) := by
  have hb0 := ((Below.refl _ w).alloc (Nat.le_refl _) (.cells #[.string ⟨#[]⟩, .int .i64 0, .slice none 0 0] 25)).alloc (by simp) (.cells #[.string ⟨#[]⟩, .string ⟨#[]⟩] 27)
  have HZ := Lib.hid hz
  have HR := Lib.hid ((RowAt.new w 25 #[.string ⟨#[]⟩, .int .i64 0, .slice none 0 0]).push (.cells #[.string ⟨#[]⟩, .string ⟨#[]⟩] 27))
  have HY : Hid (RowAt ((w.alloc (.cells #[.string ⟨#[]⟩, .int .i64 0, .slice none 0 0] 25)).alloc (.cells #[.string ⟨#[]⟩, .string ⟨#[]⟩] 27)) (w.heap.size + 1) 27 #[.string ⟨#[]⟩, .string ⟨#[]⟩]) := Lib.hid (by
    have := RowAt.new (w.alloc (.cells #[.string ⟨#[]⟩, .int .i64 0, .slice none 0 0] 25)) 27 #[.string ⟨#[]⟩, .string ⟨#[]⟩]
    simpa using this)
  have HB := Lib.hid hb0
  clear hz hb0
  go_enter Try.func41, Try.ntmps41
  go_wp2_with fail
  refine (DrawTouchHeads_any a len cap zs _ (HZ.out.belowW HB.out) hl).mono ?_
  rintro e w1 ⟨s, n, v, L, x, y, r, rfl, hsz, hn2, hn9, hn, hL, hs, hx6, hy6, hr6, hb1⟩
  obtain ⟨av, cv, hv, -⟩ := hn.own.view
  rw [strs_len] at hv
  subst hv
  have hR1 := HR.out.kept hb1
  have hY1 := HY.out.kept hb1
  have hb2 := HB.out.trans (hb1.mono HB.out.size)
  have hn10 : w.heap.size + 1 ≠ w.heap.size := by omega
  have hn01 : w.heap.size ≠ w.heap.size + 1 := by omega
  have HR1 := Lib.hid hR1
  have HY2 := Lib.hid (hY1.rowOther (c := w.heap.size) #[.string s, .int .i64 n, .slice av L.length cv] hn10)
  have HF := Lib.hid ((hR1.row #[.string s, .int .i64 n, .slice av L.length cv]).rowOther (c := w.heap.size + 1) #[.string x, .string y] hn01)
  have HG := Lib.hid (HY2.out.row #[.string x, .string y])
  have ap0 := hn.apartRow hR1 (by decide)
  have ap1 := hn.apartRow hY1 (by decide)
  have HNF := Lib.hid (((hn.setRowOther w.heap.size #[.string s, .int .i64 n, .slice av L.length cv] ap0).setRowOther (w.heap.size + 1) #[.string x, .string y] ap1).lower (B' := w.heap.size) (by simp; omega))
  have HBF := Lib.hid (below_setRow (g := w.heap.size + 1) (below_setRow (g := w.heap.size) hb2 (Nat.le_refl _) #[.string s, .int .i64 n, .slice av L.length cv]) (Nat.le_succ _) #[.string x, .string y])
  clear hn hb1 hR1 hY1 hb2 ap0 ap1 HR HY HB
  go_wp2_with (first | (refine wpList_store_row rfl 25 _ _ rfl _ _ rfl rfl 25 _ (HR1.out) (by kernel_rfl) rfl (by kernel_rfl) ?_) | (refine wpList_store_row rfl 27 _ _ rfl _ _ rfl rfl 27 _ (HY2.out) (by kernel_rfl) rfl (by kernel_rfl) ?_) | fail)
  exact bodyPost_ret (results_two1 rfl _ _ w.heap.size (w.heap.size + 1) _ _ (0, 0) (0, 0) _ _ (.string r) rfl HF.out rfl HG.out rfl Try.underlying25 rfl Try.underlying27 rfl (by kernel_rfl) (by kernel_rfl)) rfl ⟨s, n, _, L, x, y, r, rfl, hsz, hn2, hn9, HNF.out, hL, hs, hx6, hy6, hr6, HBF.out⟩

set_option maxRecDepth 100000 in
set_option maxHeartbeats 1000000 in
theorem DrawIsRound_any (a : Option Addr) (len cap : Nat) (zs : List Int) (w : World) (hz : IsBytes w a len cap zs) (hl : len ≤ 9223372036854775807) :
    Calls Try.prog 53 #[.slice a len cap] w (DrawnGT w) := by
  have hb0 := ((Below.refl _ w).alloc (Nat.le_refl _) (.cells #[.string ⟨#[]⟩, .int .i64 0, .slice none 0 0] 25)).alloc (by simp) (.cells #[.string ⟨#[]⟩, .string ⟨#[]⟩] 27)
  have HZ := Lib.hid hz
  have HR := Lib.hid ((RowAt.new w 25 #[.string ⟨#[]⟩, .int .i64 0, .slice none 0 0]).push (.cells #[.string ⟨#[]⟩, .string ⟨#[]⟩] 27))
  have HY : Hid (RowAt ((w.alloc (.cells #[.string ⟨#[]⟩, .int .i64 0, .slice none 0 0] 25)).alloc (.cells #[.string ⟨#[]⟩, .string ⟨#[]⟩] 27)) (w.heap.size + 1) 27 #[.string ⟨#[]⟩, .string ⟨#[]⟩]) := Lib.hid (by
    have := RowAt.new (w.alloc (.cells #[.string ⟨#[]⟩, .int .i64 0, .slice none 0 0] 25)) 27 #[.string ⟨#[]⟩, .string ⟨#[]⟩]
    simpa using this)
  have HB := Lib.hid hb0
  clear hz hb0
  go_enter Try.func53, Try.ntmps53
  go_wp2_with fail
  refine (DrawTouchHeads_any a len cap zs _ (HZ.out.belowW HB.out) hl).mono ?_
  rintro e w1 ⟨s, n, v, L, x, y, r, rfl, hsz, hn2, hn9, hn, hL, hs, hx6, hy6, hr6, hb1⟩
  obtain ⟨av, cv, hv, -⟩ := hn.own.view
  rw [strs_len] at hv
  subst hv
  have hR1 := HR.out.kept hb1
  have hY1 := HY.out.kept hb1
  have hb2 := HB.out.trans (hb1.mono HB.out.size)
  have hn10 : w.heap.size + 1 ≠ w.heap.size := by omega
  have hn01 : w.heap.size ≠ w.heap.size + 1 := by omega
  have HR1 := Lib.hid hR1
  have HY2 := Lib.hid (hY1.rowOther (c := w.heap.size) #[.string s, .int .i64 n, .slice av L.length cv] hn10)
  have HF := Lib.hid ((hR1.row #[.string s, .int .i64 n, .slice av L.length cv]).rowOther (c := w.heap.size + 1) #[.string x, .string y] hn01)
  have HG := Lib.hid (HY2.out.row #[.string x, .string y])
  have ap0 := hn.apartRow hR1 (by decide)
  have ap1 := hn.apartRow hY1 (by decide)
  have HNF := Lib.hid (((hn.setRowOther w.heap.size #[.string s, .int .i64 n, .slice av L.length cv] ap0).setRowOther (w.heap.size + 1) #[.string x, .string y] ap1).lower (B' := w.heap.size) (by simp; omega))
  have HBF := Lib.hid (below_setRow (g := w.heap.size + 1) (below_setRow (g := w.heap.size) hb2 (Nat.le_refl _) #[.string s, .int .i64 n, .slice av L.length cv]) (Nat.le_succ _) #[.string x, .string y])
  clear hn hb1 hR1 hY1 hb2 ap0 ap1 HR HY HB
  go_wp2_with (first | (refine wpList_store_row rfl 25 _ _ rfl _ _ rfl rfl 25 _ (HR1.out) (by kernel_rfl) rfl (by kernel_rfl) ?_) | (refine wpList_store_row rfl 27 _ _ rfl _ _ rfl rfl 27 _ (HY2.out) (by kernel_rfl) rfl (by kernel_rfl) ?_) | fail)
  exact bodyPost_ret (results_two1 rfl _ _ w.heap.size (w.heap.size + 1) _ _ (0, 0) (0, 0) _ _ (.string r) rfl HF.out rfl HG.out rfl Try.underlying25 rfl Try.underlying27 rfl (by kernel_rfl) (by kernel_rfl)) rfl ⟨s, n, _, L, x, y, r, rfl, hsz, hn2, hn9, HNF.out, hL, hs, hx6, hy6, hr6, HBF.out⟩

theorem below_curT {a : Option Addr} {len cap : Nat} {W W' : World} (h : Only W.heap.size (W.alloc (.cells #[.slice a len cap, .int .i64 0, .int .u64 0] 112)) W') : Below W.heap.size W W' := by
  have h1 := h.below (by simp)
  exact ((Below.refl W.heap.size W).alloc (Nat.le_refl _) (.cells #[.slice a len cap, .int .i64 0, .int .u64 0] 112)).trans h1
/-- a touch and a number -/
def DrawnTN (w : World) (e : Ending) (w' : World) : Prop :=
  ∃ (t : ByteArray) (n : Int), e = .returned (.tuple #[.string t, .int .i64 n]) ∧ t.size ≤ 130 ∧ -1000 ≤ n ∧ n ≤ 1000 ∧ Below w.heap.size w w'
/-- a touch and a flag -/
def DrawnTB (w : World) (e : Ending) (w' : World) : Prop :=
  ∃ (t : ByteArray) (b : Bool), e = .returned (.tuple #[.string t, .bool b]) ∧ t.size ≤ 130 ∧ Below w.heap.size w w'

set_option maxRecDepth 100000 in
set_option maxHeartbeats 1000000 in
theorem DrawTurnTouch_any (a : Option Addr) (len cap : Nat) (zs : List Int) (w : World) (hz : IsBytes w a len cap zs) (hl : len ≤ 9223372036854775807) :
    Calls Try.prog 54 #[.slice a len cap] w (DrawnTN w) := by
  have HCODE := Lib.hid (codeAt_of hz)
  clear hz
  go_enter Try.func54, Try.ntmps54
  go_wp2_with fail
  refine (anyTouch_draw w.heap.size a len cap 0 (by omega) _ (cur_newM a len cap w HCODE.out hl)).mono ?_
  rintro e w1 ⟨t, ht, rfl, hc1, ho1⟩
  have HC1 := Lib.hid hc1
  have HO1 := Lib.hid ho1
  have hti : (t.size : Int) ≤ 130 := by omega
  have hwp : IntKind.i64.wrap ((t.size : Int) + 2) = ((t.size + 2 : Nat) : Int) := by rw [show (t.size : Int) + 2 = ((t.size + 2 : Nat) : Int) by omega]; exact IntWalk.i64_in _ (by omega)
  clear hc1 ho1
  go_wp2_with fail
  refine (pick_any w.heap.size a len cap (0 + 200) (t.size + 2) (by omega) (by omega) (by omega) _ HC1.out).mono ?_
  rintro e w2 ⟨x, hx, rfl, hc2, ho2⟩
  have HB2 := Lib.hid (below_curT (HO1.out.trans ho2))
  have hxi : (x : Int) < 132 := by omega
  have HX := Lib.hid hx
  clear hc2 ho2 hx
  go_wp2
  go_ret2
  exact ⟨t, _, rfl, ht, by omega, by omega, HB2.out⟩

set_option maxRecDepth 100000 in
set_option maxHeartbeats 1000000 in
theorem DrawLeastTurn_any (a : Option Addr) (len cap : Nat) (zs : List Int) (w : World) (hz : IsBytes w a len cap zs) (hl : len ≤ 9223372036854775807) :
    Calls Try.prog 57 #[.slice a len cap] w (DrawnTB w) := by
  have HCODE := Lib.hid (codeAt_of hz)
  clear hz
  go_enter Try.func57, Try.ntmps57
  go_wp2_with fail
  refine (anyTouch_draw w.heap.size a len cap 0 (by omega) _ (cur_newM a len cap w HCODE.out hl)).mono ?_
  rintro e w1 ⟨t, ht, rfl, hc1, ho1⟩
  have HC1 := Lib.hid hc1
  have HO1 := Lib.hid ho1
  clear hc1 ho1
  go_wp2_with fail
  refine (one_any w.heap.size a len cap (0 + 200) 2 (by omega) (by omega) (by omega) _ HC1.out).mono ?_
  rintro e w2 ⟨x, rfl, hc2, ho2⟩
  have HB2 := Lib.hid (below_curT (HO1.out.trans ho2))
  clear hc2 ho2
  go_wp2
  go_ret2
  exact ⟨t, _, rfl, ht, HB2.out⟩
end Go.Proofs.Ytkhglknpcajmiaa
