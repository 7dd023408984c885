/- DrawCalledLead, DrawCallHead drawn. -/
import Derived.Test.YtkhglknpcajmiaaQS
import Derived.Test.YtkhglknpcajmiaaD1
namespace Go.Proofs.Ytkhglknpcajmiaa
open Go.RowKit
set_option linter.unusedSimpArgs false
set_option linter.unusedVariables false

/-- a method, calls and a call are drawn -/
def DrawnGR (w : World) (e : Ending) (w' : World) : Prop :=
  ∃ (s : ByteArray) (n : Int) (v : Value) (L : List (List Nat)) (x y r : ByteArray), e = .returned (.tuple #[.agg #[.string s, .int .i64 n, v], .agg #[.string x, .string y], .string r]) ∧ s.size ≤ 11 ∧ 2 ≤ n ∧ n ≤ 9 ∧ New w.heap.size w' 9 v (strs L) ∧ L.length ≤ 41 ∧ (∀ l ∈ L, l.length ≤ 10) ∧ x.size ≤ 10 ∧ y.size ≤ 10 ∧ r.size ≤ 10 ∧ Below w.heap.size w w'

def eights : List ByteArray := [⟨#[112]⟩, ⟨#[98]⟩, ⟨#[115]⟩, ⟨#[98]⟩, ⟨#[115]⟩, ⟨#[]⟩, ⟨#[98, 98]⟩, ⟨#[120]⟩]
theorem eights_small : ∀ s ∈ eights, s.size ≤ 10 := by
  decide

set_option maxRecDepth 100000 in
set_option maxHeartbeats 1000000 in
set_option maxHeartbeats 8000000 in
theorem DrawCalledLead_any (a : Option Addr) (len cap : Nat) (zs : List Int) (w : World) (hz : IsBytes w a len cap zs) (hl : len ≤ 9223372036854775807) :
    Calls Try.prog 78 #[.slice a len cap] w (DrawnGR w) := by
  have hb0 := ((Below.refl _ w).alloc (Nat.le_refl _) (.cells #[.string ⟨#[]⟩, .int .i64 0, .slice none 0 0] 25)).alloc (by simp) (.cells #[.string ⟨#[]⟩, .string ⟨#[]⟩] 27)
  have HZ := Lib.hid hz
  have HL := Lib.hid hl
  have HR := Lib.hid ((RowAt.new w 25 #[.string ⟨#[]⟩, .int .i64 0, .slice none 0 0]).push (.cells #[.string ⟨#[]⟩, .string ⟨#[]⟩] 27))
  have HY : Hid (RowAt ((w.alloc (.cells #[.string ⟨#[]⟩, .int .i64 0, .slice none 0 0] 25)).alloc (.cells #[.string ⟨#[]⟩, .string ⟨#[]⟩] 27)) (w.heap.size + 1) 27 #[.string ⟨#[]⟩, .string ⟨#[]⟩]) := Lib.hid (by
    have := RowAt.new (w.alloc (.cells #[.string ⟨#[]⟩, .int .i64 0, .slice none 0 0] 25)) 27 #[.string ⟨#[]⟩, .string ⟨#[]⟩]
    simpa using this)
  have HB := Lib.hid hb0
  clear hz hb0 hl
  go_enter Try.func78, Try.ntmps78
  go_wp2_with fail
  refine (DrawGoodCalls_any a len cap zs _ (HZ.out.belowW HB.out) HL.out).mono ?_
  rintro e w1 ⟨s, n, v, L, x, y, rfl, hsz, hn2, hn9, hn, hL, hs, hx6, hy6, hb1⟩
  have HS := Lib.hid hs
  obtain ⟨av, cv, hv, -⟩ := hn.own.view
  rw [strs_len] at hv
  subst hv
  have hmb : w.heap.size + 2 ≤ w1.heap.size := by have := hb1.size; simpa using this
  have HN1 := Lib.hid (hn.lower (B' := w.heap.size + 2) (by simp))
  have hal := ((Below.refl w1.heap.size w1).alloc (Nat.le_refl _) (.cells #[.string s, .int .i64 n, .slice av L.length cv] 25)).alloc (by simp) (.cells #[.string x, .string y] 27)
  have hal2 := hal.alloc hal.size (.cells #[.slice a len cap, .int .i64 0, .int .u64 0] 112)
  have HM3 := Lib.hid (((RowAt.new w1 25 #[.string s, .int .i64 n, .slice av L.length cv]).push (.cells #[.string x, .string y] 27)).push (.cells #[.slice a len cap, .int .i64 0, .int .u64 0] 112))
  have HK3 : Hid (RowAt (((w1.alloc (.cells #[.string s, .int .i64 n, .slice av L.length cv] 25)).alloc (.cells #[.string x, .string y] 27)).alloc (.cells #[.slice a len cap, .int .i64 0, .int .u64 0] 112)) (w1.heap.size + 1) 27 #[.string x, .string y]) := Lib.hid (by
    have := (RowAt.new (w1.alloc (.cells #[.string s, .int .i64 n, .slice av L.length cv] 25)) 27 #[.string x, .string y]).push (.cells #[.slice a len cap, .int .i64 0, .int .u64 0] 112)
    simpa using this)
  have HR3 := Lib.hid ((HR.out.kept hb1).kept hal2)
  have HY3 := Lib.hid ((HY.out.kept hb1).kept hal2)
  have hb13 := HB.out.trans (hb1.mono HB.out.size)
  have HB3 := Lib.hid (hb13.trans (hal2.mono hb13.size))
  have HN3 := Lib.hid (HN1.out.kept hal2)
  have hbw := (hb13.trans (hal.mono hb13.size))
  have HCUR := Lib.hid (cur_newM a len cap _ (codeAt_of (HZ.out.belowW hbw)) HL.out)
  have hsz3 : (((w1.alloc (.cells #[.string s, .int .i64 n, .slice av L.length cv] 25)).alloc (.cells #[.string x, .string y] 27)).alloc (.cells #[.slice a len cap, .int .i64 0, .int .u64 0] 112)).heap.size = w1.heap.size + 3 := by simp
  have HN1lt := Lib.hid HN1.out.own.lt
  clear hn hb1 hs hal hal2 HR HY HB hb13 hbw HN1 HZ
  go_wp2_with (first | (refine wpList_store_row rfl 25 _ _ rfl _ _ rfl rfl 25 _ (heap_at _ _ _ (by simp)) (by kernel_rfl) rfl (by kernel_rfl) ?_; rw [setRow_at _ _ _ _ _ (by simp)]) | (refine wpList_store_row rfl 27 _ _ rfl _ _ rfl rfl 27 _ (heap_at _ _ _ (by simp)) (by kernel_rfl) rfl (by kernel_rfl) ?_; rw [setRow_at _ _ _ _ _ (by simp)]) | fail)
  obtain ⟨w4, hw4⟩ : ∃ w4, ((w1.alloc (.cells #[.string s, .int .i64 n, .slice av L.length cv] 25)).alloc (.cells #[.string x, .string y] 27)).alloc (.cells #[.slice a len cap, .int .i64 0, .int .u64 0] 112) = w4 := ⟨_, rfl⟩
  rw [hw4] at HM3 HK3 HR3 HY3 HB3 HN3 HCUR hsz3 ⊢
  clear hw4
  obtain ⟨mb, hmb9⟩ : ∃ mb, w1.heap.size = mb := ⟨_, rfl⟩
  simp only [World.size_alloc] at HCUR
  rw [hmb9] at HM3 HK3 hmb hsz3 HCUR
  simp only [hmb9]
  have HSZ3 := Lib.hid hsz3
  have hmbw := Lib.hid hmb9
  clear hsz3 hmb9
  have hm0 : mb ≠ w.heap.size := by omega
  have hm1 : mb ≠ w.heap.size + 1 := by omega
  have hk0 : mb + 1 ≠ w.heap.size := by omega
  have hk1 : mb + 1 ≠ w.heap.size + 1 := by omega
  have hmc : mb ≠ mb + 1 + 1 := by omega
  have hkc : mb + 1 ≠ mb + 1 + 1 := by omega
  have HOF : Hid (Calls Try.prog 104 #[.pointer (some ⟨mb + 1 + 1, 0, none⟩), .slice (some ⟨w4.heap.size, 0, none⟩) 8 8] ((w4.alloc (.cells #[.string ⟨#[112]⟩, .string ⟨#[98]⟩, .string ⟨#[115]⟩, .string ⟨#[98]⟩, .string ⟨#[115]⟩, .string ⟨#[]⟩, .string ⟨#[98, 98]⟩, .string ⟨#[120]⟩] 9)).drew) fun e w' => ∃ u : ByteArray, u.size ≤ 10 ∧ e = .returned (.string u) ∧ Cur w' (mb + 1 + 1) a len cap 2 ∧ Only (mb + 1 + 1) w4.drew w') := Lib.hid (ofK_any 10 (mb + 1 + 1) a len cap 0 eights eights_small (by omega) (by decide) (by decide) w4.drew ((Dr.start HCUR.out).drew.cur) 9)
  have HSS : Hid (∀ W', RowAt W' mb 25 #[.string s, .int .i64 n, .slice av L.length cv] → RowAt W' (mb + 1) 27 #[.string x, .string y] → (W'.cell? ⟨mb, 0, none⟩ = some (.string s) ∧ W'.cell? ⟨mb, 1, none⟩ = some (.int .i64 n) ∧ W'.cell? ⟨mb, 2, none⟩ = some (.slice av L.length cv) ∧ W'.cell? ⟨mb + 1, 0, none⟩ = some (.string x) ∧ W'.cell? ⟨mb + 1, 1, none⟩ = some (.string y))) := Lib.hid (fun W' h k => ⟨h.cell 0 rfl, h.cell 1 rfl, h.cell 2 rfl, k.cell 0 rfl, k.cell 1 rfl⟩)
  have hq0 := HSS.out w4.drew (HM3.out.drewN 1) (HK3.out.drewN 1)
  have hq9 := HSS.out ((w4.alloc (.cells #[.string ⟨#[112]⟩, .string ⟨#[98]⟩, .string ⟨#[115]⟩, .string ⟨#[98]⟩, .string ⟨#[115]⟩, .string ⟨#[]⟩, .string ⟨#[98, 98]⟩, .string ⟨#[120]⟩] 9)).drew) ((HM3.out.drewN 1).push _) ((HK3.out.drewN 1).push _)
  have HQA : Hid (∀ W', RowAt W' mb 25 #[.string s, .int .i64 n, .slice av L.length cv] → RowAt W' (mb + 1) 27 #[.string x, .string y] → ((((W'.setCell ⟨w.heap.size, 0, none⟩ (.string s)).setCell ⟨w.heap.size, 1, none⟩ (.int .i64 n)).setCell ⟨w.heap.size, 2, none⟩ (.slice av L.length cv)).cell? ⟨mb, 0, none⟩ = some (.string s) ∧ (((W'.setCell ⟨w.heap.size, 0, none⟩ (.string s)).setCell ⟨w.heap.size, 1, none⟩ (.int .i64 n)).setCell ⟨w.heap.size, 2, none⟩ (.slice av L.length cv)).cell? ⟨mb, 1, none⟩ = some (.int .i64 n) ∧ (((W'.setCell ⟨w.heap.size, 0, none⟩ (.string s)).setCell ⟨w.heap.size, 1, none⟩ (.int .i64 n)).setCell ⟨w.heap.size, 2, none⟩ (.slice av L.length cv)).cell? ⟨mb, 2, none⟩ = some (.slice av L.length cv) ∧ (((W'.setCell ⟨w.heap.size, 0, none⟩ (.string s)).setCell ⟨w.heap.size, 1, none⟩ (.int .i64 n)).setCell ⟨w.heap.size, 2, none⟩ (.slice av L.length cv)).cell? ⟨mb + 1, 0, none⟩ = some (.string x) ∧ (((W'.setCell ⟨w.heap.size, 0, none⟩ (.string s)).setCell ⟨w.heap.size, 1, none⟩ (.int .i64 n)).setCell ⟨w.heap.size, 2, none⟩ (.slice av L.length cv)).cell? ⟨mb + 1, 1, none⟩ = some (.string y))) := Lib.hid (fun W' h k => HSS.out _ (((h.other ⟨w.heap.size, 0, none⟩ (.string s) hm0).other ⟨w.heap.size, 1, none⟩ (.int .i64 n) hm0).other ⟨w.heap.size, 2, none⟩ (.slice av L.length cv) hm0) (((k.other ⟨w.heap.size, 0, none⟩ (.string s) hk0).other ⟨w.heap.size, 1, none⟩ (.int .i64 n) hk0).other ⟨w.heap.size, 2, none⟩ (.slice av L.length cv) hk0))
  have HQB : Hid (∀ W', RowAt W' mb 25 #[.string s, .int .i64 n, .slice av L.length cv] → RowAt W' (mb + 1) 27 #[.string x, .string y] → (((W'.setCell ⟨w.heap.size + 1, 0, none⟩ (.string x)).setCell ⟨w.heap.size + 1, 1, none⟩ (.string y)).cell? ⟨mb, 0, none⟩ = some (.string s) ∧ ((W'.setCell ⟨w.heap.size + 1, 0, none⟩ (.string x)).setCell ⟨w.heap.size + 1, 1, none⟩ (.string y)).cell? ⟨mb, 1, none⟩ = some (.int .i64 n) ∧ ((W'.setCell ⟨w.heap.size + 1, 0, none⟩ (.string x)).setCell ⟨w.heap.size + 1, 1, none⟩ (.string y)).cell? ⟨mb, 2, none⟩ = some (.slice av L.length cv) ∧ ((W'.setCell ⟨w.heap.size + 1, 0, none⟩ (.string x)).setCell ⟨w.heap.size + 1, 1, none⟩ (.string y)).cell? ⟨mb + 1, 0, none⟩ = some (.string x) ∧ ((W'.setCell ⟨w.heap.size + 1, 0, none⟩ (.string x)).setCell ⟨w.heap.size + 1, 1, none⟩ (.string y)).cell? ⟨mb + 1, 1, none⟩ = some (.string y))) := Lib.hid (fun W' h k => HSS.out _ ((h.other ⟨w.heap.size + 1, 0, none⟩ (.string x) hm1).other ⟨w.heap.size + 1, 1, none⟩ (.string y) hm1) ((k.other ⟨w.heap.size + 1, 0, none⟩ (.string x) hk1).other ⟨w.heap.size + 1, 1, none⟩ (.string y) hk1))
  have HQAB : Hid (∀ W', RowAt W' mb 25 #[.string s, .int .i64 n, .slice av L.length cv] → RowAt W' (mb + 1) 27 #[.string x, .string y] → ((((((W'.setCell ⟨w.heap.size, 0, none⟩ (.string s)).setCell ⟨w.heap.size, 1, none⟩ (.int .i64 n)).setCell ⟨w.heap.size, 2, none⟩ (.slice av L.length cv)).setCell ⟨w.heap.size + 1, 0, none⟩ (.string x)).setCell ⟨w.heap.size + 1, 1, none⟩ (.string y)).cell? ⟨mb, 0, none⟩ = some (.string s) ∧ (((((W'.setCell ⟨w.heap.size, 0, none⟩ (.string s)).setCell ⟨w.heap.size, 1, none⟩ (.int .i64 n)).setCell ⟨w.heap.size, 2, none⟩ (.slice av L.length cv)).setCell ⟨w.heap.size + 1, 0, none⟩ (.string x)).setCell ⟨w.heap.size + 1, 1, none⟩ (.string y)).cell? ⟨mb, 1, none⟩ = some (.int .i64 n) ∧ (((((W'.setCell ⟨w.heap.size, 0, none⟩ (.string s)).setCell ⟨w.heap.size, 1, none⟩ (.int .i64 n)).setCell ⟨w.heap.size, 2, none⟩ (.slice av L.length cv)).setCell ⟨w.heap.size + 1, 0, none⟩ (.string x)).setCell ⟨w.heap.size + 1, 1, none⟩ (.string y)).cell? ⟨mb, 2, none⟩ = some (.slice av L.length cv) ∧ (((((W'.setCell ⟨w.heap.size, 0, none⟩ (.string s)).setCell ⟨w.heap.size, 1, none⟩ (.int .i64 n)).setCell ⟨w.heap.size, 2, none⟩ (.slice av L.length cv)).setCell ⟨w.heap.size + 1, 0, none⟩ (.string x)).setCell ⟨w.heap.size + 1, 1, none⟩ (.string y)).cell? ⟨mb + 1, 0, none⟩ = some (.string x) ∧ (((((W'.setCell ⟨w.heap.size, 0, none⟩ (.string s)).setCell ⟨w.heap.size, 1, none⟩ (.int .i64 n)).setCell ⟨w.heap.size, 2, none⟩ (.slice av L.length cv)).setCell ⟨w.heap.size + 1, 0, none⟩ (.string x)).setCell ⟨w.heap.size + 1, 1, none⟩ (.string y)).cell? ⟨mb + 1, 1, none⟩ = some (.string y))) := Lib.hid (fun W' h k => HQB.out _ (((h.other ⟨w.heap.size, 0, none⟩ (.string s) hm0).other ⟨w.heap.size, 1, none⟩ (.int .i64 n) hm0).other ⟨w.heap.size, 2, none⟩ (.slice av L.length cv) hm0) (((k.other ⟨w.heap.size, 0, none⟩ (.string s) hk0).other ⟨w.heap.size, 1, none⟩ (.int .i64 n) hk0).other ⟨w.heap.size, 2, none⟩ (.slice av L.length cv) hk0))
  go_region_held3 (fun w' => w'.cell? ⟨mb, 0, none⟩ = some (.string s) ∧ w'.cell? ⟨mb, 1, none⟩ = some (.int .i64 n) ∧ w'.cell? ⟨mb, 2, none⟩ = some (.slice av L.length cv) ∧ w'.cell? ⟨mb + 1, 0, none⟩ = some (.string x) ∧ w'.cell? ⟨mb + 1, 1, none⟩ = some (.string y)) (first | with_reducible assumption | with_reducible exact hq0 | with_reducible exact hq9 | with_reducible exact hq1 | with_reducible exact hq2) (first
    | (go_at_call 104; refine HOF.out.mono ?_; rintro e6 w6 ⟨u, hu6, rfl, hc6, ho6⟩; have hm6 := (HM3.out.drewN 1).only ho6 hmc; have hk6 := (HK3.out.drewN 1).only ho6 hkc; have hS6 := HSS.out _ hm6 hk6; have hq1 := HQA.out _ hm6 hk6; have hq2 := HQAB.out _ hm6 hk6; have hz6 := (HR3.out.drewN 1).only ho6 (by omega); have hy7 := (HY3.out.drewN 1).only ho6 (by omega); have z0 := hz6.cell 0 rfl; have z1 := hz6.cell 1 rfl; have z2 := hz6.cell 2 rfl; have f0 := hz6.free 0; have f1 := hz6.free 1; have f2 := hz6.free 2; have y0 := hy7.cell 0 rfl; have y1 := hy7.cell 1 rfl; have g0 := hy7.free 0; have g1 := hy7.free 1)
    | fail)
  have hsz3 := HSZ3.out
  have hn10 : w.heap.size + 1 ≠ w.heap.size := by omega
  have hn01 : w.heap.size ≠ w.heap.size + 1 := by omega
  have hF := (((((hz6.set 0 (.string s)).set 1 (.int .i64 n)).set 2 (.slice av L.length cv)).other ⟨w.heap.size + 1, 0, none⟩ (.string x) hn01).other ⟨w.heap.size + 1, 1, none⟩ (.string y) hn01)
  have HF : Hid (RowAt _ w.heap.size 25 #[.string s, .int .i64 n, (.slice av L.length cv)]) := Lib.hid hF
  have hG := ((((hy7.other ⟨w.heap.size, 0, none⟩ (.string s) hn10).other ⟨w.heap.size, 1, none⟩ (.int .i64 n) hn10).other ⟨w.heap.size, 2, none⟩ (.slice av L.length cv) hn10).set 0 (.string x)).set 1 (.string y)
  have HG : Hid (RowAt _ (w.heap.size + 1) 27 #[.string x, .string y]) := Lib.hid hG
  have hn6 : New (w.heap.size + 2) w6 9 (.slice av L.length cv) (strs L) := ((HN3.out.drewN 1).under (B2 := mb) (fun g hg => by
    have h1 := HN3.out.own.lt g hg
    have h2 := HN1lt.out g hg
    have h3 := hmbw.out
    omega) (by
    have h1 := ho6.below (by show mb + 1 + 1 ≤ w4.heap.size; omega)
    exact ⟨h1.os, h1.tape, h1.output, h1.size, fun k hk => h1.block k (by omega)⟩))
  have ap0 := hn6.apartRow hz6 (by decide)
  have ap1 := hn6.apartRow hy7 (by decide)
  have HNF := Lib.hid ((((((hn6.setOther w.heap.size 0 (.string s) ap0).setOther w.heap.size 1 (.int .i64 n) ap0).setOther w.heap.size 2 (.slice av L.length cv) ap0).setOther (w.heap.size + 1) 0 (.string x) ap1).setOther (w.heap.size + 1) 1 (.string y) ap1).lower (B' := w.heap.size) (by omega))
  have hb6 : Below w.heap.size w w6 := by
    have h1 := ho6.below (by show mb + 1 + 1 ≤ w4.heap.size; omega)
    exact HB3.out.drew.trans ⟨h1.os, h1.tape, h1.output, h1.size, fun k hk => h1.block k (by omega)⟩
  have HBF := Lib.hid (((((hb6.setCell (p := ⟨w.heap.size, 0, none⟩) (Nat.le_refl _) (.string s)).setCell (p := ⟨w.heap.size, 1, none⟩) (Nat.le_refl _) (.int .i64 n)).setCell (p := ⟨w.heap.size, 2, none⟩) (Nat.le_refl _) (.slice av L.length cv)).setCell (p := ⟨w.heap.size + 1, 0, none⟩) (Nat.le_succ _) (.string x)).setCell (p := ⟨w.heap.size + 1, 1, none⟩) (Nat.le_succ _) (.string y))
  clear hsz3 hF hG hn6 ap0 ap1 hb6 hz6 hy7 hm6 hk6 hS6 hq0 hq9 hq1 hq2 z0 z1 z2 f0 f1 f2 y0 y1 g0 g1 ho6 hc6
  go_wp2
  try simp only [Exit.inBlock, Exit.then]
  exact bodyPost_ret (results_two1 rfl _ _ w.heap.size (w.heap.size + 1) _ _ (0, 0) (0, 0) _ _ (.string u) rfl HF.out rfl HG.out rfl Try.underlying25 rfl Try.underlying27 rfl (by kernel_rfl) (by kernel_rfl)) rfl ⟨s, n, _, L, x, y, u, rfl, hsz, hn2, hn9, HNF.out, hL, HS.out, hx6, hy6, hu6, HBF.out⟩

set_option maxRecDepth 100000 in
set_option maxHeartbeats 1000000 in
theorem DrawCallHead_any (a : Option Addr) (len cap : Nat) (zs : List Int) (w : World) (hz : IsBytes w a len cap zs) (hl : len ≤ 9223372036854775807) :
    Calls Try.prog 16 #[.slice a len cap] w (DrawnGR w) := by
  have hb0 := ((Below.refl _ w).alloc (Nat.le_refl _) (.cells #[.string ⟨#[]⟩, .int .i64 0, .slice none 0 0] 25)).alloc (by simp) (.cells #[.string ⟨#[]⟩, .string ⟨#[]⟩] 27)
  have HZ := Lib.hid hz
  have HR := Lib.hid ((RowAt.new w 25 #[.string ⟨#[]⟩, .int .i64 0, .slice none 0 0]).push (.cells #[.string ⟨#[]⟩, .string ⟨#[]⟩] 27))
  have HY : Hid (RowAt ((w.alloc (.cells #[.string ⟨#[]⟩, .int .i64 0, .slice none 0 0] 25)).alloc (.cells #[.string ⟨#[]⟩, .string ⟨#[]⟩] 27)) (w.heap.size + 1) 27 #[.string ⟨#[]⟩, .string ⟨#[]⟩]) := Lib.hid (by
    have := RowAt.new (w.alloc (.cells #[.string ⟨#[]⟩, .int .i64 0, .slice none 0 0] 25)) 27 #[.string ⟨#[]⟩, .string ⟨#[]⟩]
    simpa using this)
  have HB := Lib.hid hb0
  clear hz hb0
  go_enter Try.func16, Try.ntmps16
  go_wp2_with fail
  refine (DrawCalledLead_any a len cap zs _ (HZ.out.belowW HB.out) hl).mono ?_
  rintro e w1 ⟨s, n, v, L, x, y, r, rfl, hsz, hn2, hn9, hn, hL, hs, hx6, hy6, hr6, hb1⟩
  obtain ⟨av, cv, hv, -⟩ := hn.own.view
  rw [strs_len] at hv
  subst hv
  have hR1 := HR.out.kept hb1
  have hY1 := HY.out.kept hb1
  have hb2 := HB.out.trans (hb1.mono HB.out.size)
  have hn10 : w.heap.size + 1 ≠ w.heap.size := by omega
  have hn01 : w.heap.size ≠ w.heap.size + 1 := by omega
  have HR1 := Lib.hid hR1
  have HY2 := Lib.hid (hY1.rowOther (c := w.heap.size) #[.string s, .int .i64 n, .slice av L.length cv] hn10)
  have HF := Lib.hid ((hR1.row #[.string s, .int .i64 n, .slice av L.length cv]).rowOther (c := w.heap.size + 1) #[.string x, .string y] hn01)
  have HG := Lib.hid (HY2.out.row #[.string x, .string y])
  have ap0 := hn.apartRow hR1 (by decide)
  have ap1 := hn.apartRow hY1 (by decide)
  have HNF := Lib.hid (((hn.setRowOther w.heap.size #[.string s, .int .i64 n, .slice av L.length cv] ap0).setRowOther (w.heap.size + 1) #[.string x, .string y] ap1).lower (B' := w.heap.size) (by simp; omega))
  have HBF := Lib.hid (below_setRow (g := w.heap.size + 1) (below_setRow (g := w.heap.size) hb2 (Nat.le_refl _) #[.string s, .int .i64 n, .slice av L.length cv]) (Nat.le_succ _) #[.string x, .string y])
  clear hn hb1 hR1 hY1 hb2 ap0 ap1 HR HY HB
  go_wp2_with (first | (refine wpList_store_row rfl 25 _ _ rfl _ _ rfl rfl 25 _ (HR1.out) (by kernel_rfl) rfl (by kernel_rfl) ?_) | (refine wpList_store_row rfl 27 _ _ rfl _ _ rfl rfl 27 _ (HY2.out) (by kernel_rfl) rfl (by kernel_rfl) ?_) | fail)
  exact bodyPost_ret (results_two1 rfl _ _ w.heap.size (w.heap.size + 1) _ _ (0, 0) (0, 0) _ _ (.string r) rfl HF.out rfl HG.out rfl Try.underlying25 rfl Try.underlying27 rfl (by kernel_rfl) (by kernel_rfl)) rfl ⟨s, n, _, L, x, y, r, rfl, hsz, hn2, hn9, HNF.out, hL, hs, hx6, hy6, hr6, HBF.out⟩
end Go.Proofs.Ytkhglknpcajmiaa
