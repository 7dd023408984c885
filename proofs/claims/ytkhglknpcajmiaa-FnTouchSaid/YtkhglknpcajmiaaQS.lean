/- A method with calls drawn: DrawGoodCalls, DrawCalledLead, DrawCallHead, DrawSameLead. -/
import Derived.Test.YtkhglknpcajmiaaQR
import Derived.Deep.RegionHeld3
namespace Go.Proofs.Ytkhglknpcajmiaa
open Go.RowKit
set_option linter.unusedSimpArgs false
set_option linter.unusedVariables false

theorem results_two {P : Program} {fn : Func} {p u : Tmp} {ty ty' : TypeId} (h : fn.results = #[.cell p ty, .cell u ty']) (tmps : Array Value) (w : World) (g g' : Nat) (cs ds : Array Value) (fr fr' : Nat × Nat) (d d' : TypeDesc)
    (hp : tmps.getD p undef = .pointer (some ⟨g, 0, none⟩)) (hg : w.heap[g]? = some (.cells cs ty fr))
    (hp' : tmps.getD u undef = .pointer (some ⟨g', 0, none⟩)) (hg' : w.heap[g']? = some (.cells ds ty' fr'))
    (hu : P.underlying ty = some d) (hd : (match d with | .struct _ | .array _ _ => true | _ => false) = true) (hu' : P.underlying ty' = some d') (hd' : (match d' with | .struct _ | .array _ _ => true | _ => false) = true) (hi : (P.info? ty).map (·.size) = some cs.size) (hi' : (P.info? ty').map (·.size) = some ds.size) :
    (results fn tmps).run P w = .ok (.tuple #[.agg cs, .agg ds]) w := by
  have hp1 : tmps[p]?.getD undef = .pointer (some ⟨g, 0, none⟩) := by simpa using hp
  have hp2 : tmps[u]?.getD undef = .pointer (some ⟨g', 0, none⟩) := by simpa using hp'
  simp only [results, h]
  simp [Sem.run_bind, Result.andThen, asAddr, hp1, hp2, run_loadVar_row w g ty ty cs fr d hg hu hd hi, run_loadVar_row w g' ty' ty' ds fr' d' hg' hu' hd' hi']
theorem results_two1 {P : Program} {fn : Func} {p u r : Tmp} {ty ty' : TypeId} (h : fn.results = #[.cell p ty, .cell u ty', .tmp r]) (tmps : Array Value) (w : World) (g g' : Nat) (cs ds : Array Value) (fr fr' : Nat × Nat) (d d' : TypeDesc) (x : Value)
    (hp : tmps.getD p undef = .pointer (some ⟨g, 0, none⟩)) (hg : w.heap[g]? = some (.cells cs ty fr))
    (hp' : tmps.getD u undef = .pointer (some ⟨g', 0, none⟩)) (hg' : w.heap[g']? = some (.cells ds ty' fr')) (hr : tmps.getD r undef = x)
    (hu : P.underlying ty = some d) (hd : (match d with | .struct _ | .array _ _ => true | _ => false) = true) (hu' : P.underlying ty' = some d') (hd' : (match d' with | .struct _ | .array _ _ => true | _ => false) = true) (hi : (P.info? ty).map (·.size) = some cs.size) (hi' : (P.info? ty').map (·.size) = some ds.size) :
    (results fn tmps).run P w = .ok (.tuple #[.agg cs, .agg ds, x]) w := by
  have hp1 : tmps[p]?.getD undef = .pointer (some ⟨g, 0, none⟩) := by simpa using hp
  have hp2 : tmps[u]?.getD undef = .pointer (some ⟨g', 0, none⟩) := by simpa using hp'
  have hp3 : tmps[r]?.getD undef = x := by simpa using hr
  simp only [results, h]
  simp [Sem.run_bind, Result.andThen, asAddr, hp1, hp2, hp3, run_loadVar_row w g ty ty cs fr d hg hu hd hi, run_loadVar_row w g' ty' ty' ds fr' d' hg' hu' hd' hi']
theorem results_two2 {P : Program} {fn : Func} {p u r r2 : Tmp} {ty ty' : TypeId} (h : fn.results = #[.cell p ty, .cell u ty', .tmp r, .tmp r2]) (tmps : Array Value) (w : World) (g g' : Nat) (cs ds : Array Value) (fr fr' : Nat × Nat) (d d' : TypeDesc) (x y : Value)
    (hp : tmps.getD p undef = .pointer (some ⟨g, 0, none⟩)) (hg : w.heap[g]? = some (.cells cs ty fr))
    (hp' : tmps.getD u undef = .pointer (some ⟨g', 0, none⟩)) (hg' : w.heap[g']? = some (.cells ds ty' fr')) (hr : tmps.getD r undef = x) (hr2 : tmps.getD r2 undef = y)
    (hu : P.underlying ty = some d) (hd : (match d with | .struct _ | .array _ _ => true | _ => false) = true) (hu' : P.underlying ty' = some d') (hd' : (match d' with | .struct _ | .array _ _ => true | _ => false) = true) (hi : (P.info? ty).map (·.size) = some cs.size) (hi' : (P.info? ty').map (·.size) = some ds.size) :
    (results fn tmps).run P w = .ok (.tuple #[.agg cs, .agg ds, x, y]) w := by
  have hp1 : tmps[p]?.getD undef = .pointer (some ⟨g, 0, none⟩) := by simpa using hp
  have hp2 : tmps[u]?.getD undef = .pointer (some ⟨g', 0, none⟩) := by simpa using hp'
  have hp3 : tmps[r]?.getD undef = x := by simpa using hr
  have hp4 : tmps[r2]?.getD undef = y := by simpa using hr2
  simp only [results, h]
  simp [Sem.run_bind, Result.andThen, asAddr, hp1, hp2, hp3, hp4, run_loadVar_row w g ty ty cs fr d hg hu hd hi, run_loadVar_row w g' ty' ty' ds fr' d' hg' hu' hd' hi']

/-- a method and calls are drawn -/
def DrawnGK (w : World) (e : Ending) (w' : World) : Prop :=
  ∃ (s : ByteArray) (n : Int) (v : Value) (L : List (List Nat)) (x y : ByteArray), e = .returned (.tuple #[.agg #[.string s, .int .i64 n, v], .agg #[.string x, .string y]]) ∧ s.size ≤ 11 ∧ 2 ≤ n ∧ n ≤ 9 ∧ New w.heap.size w' 9 v (strs L) ∧ L.length ≤ 41 ∧ (∀ l ∈ L, l.length ≤ 10) ∧ x.size ≤ 10 ∧ y.size ≤ 10 ∧ Below w.heap.size w w'

set_option maxRecDepth 100000 in
set_option maxHeartbeats 1000000 in
set_option maxHeartbeats 8000000 in
theorem DrawGoodCalls_any (a : Option Addr) (len cap : Nat) (zs : List Int) (w : World) (hz : IsBytes w a len cap zs) (hl : len ≤ 9223372036854775807) :
    Calls Try.prog 133 #[.slice a len cap] w (DrawnGK w) := by
  have hb0 := ((Below.refl _ w).alloc (Nat.le_refl _) (.cells #[.string ⟨#[]⟩, .int .i64 0, .slice none 0 0] 25)).alloc (by simp) (.cells #[.string ⟨#[]⟩, .string ⟨#[]⟩] 27)
  have hcode := codeAt_of (hz.belowW hb0)
  have HCUR := Lib.hid (cur_newM a len cap _ hcode hl)
  have HR := Lib.hid (((RowAt.new w 25 #[.string ⟨#[]⟩, .int .i64 0, .slice none 0 0]).push (.cells #[.string ⟨#[]⟩, .string ⟨#[]⟩] 27)).push (.cells #[.slice a len cap, .int .i64 0, .int .u64 0] 112))
  have HY : Hid (RowAt (((w.alloc (.cells #[.string ⟨#[]⟩, .int .i64 0, .slice none 0 0] 25)).alloc (.cells #[.string ⟨#[]⟩, .string ⟨#[]⟩] 27)).alloc (.cells #[.slice a len cap, .int .i64 0, .int .u64 0] 112)) (w.heap.size + 1) 27 #[.string ⟨#[]⟩, .string ⟨#[]⟩]) := Lib.hid (by
    have := (RowAt.new (w.alloc (.cells #[.string ⟨#[]⟩, .int .i64 0, .slice none 0 0] 25)) 27 #[.string ⟨#[]⟩, .string ⟨#[]⟩]).push (.cells #[.slice a len cap, .int .i64 0, .int .u64 0] 112)
    simpa using this)
  have HB := Lib.hid (hb0.alloc hb0.size (.cells #[.slice a len cap, .int .i64 0, .int .u64 0] 112))
  clear hz hcode hb0
  simp only [World.size_alloc] at HCUR
  go_enter Try.func133, Try.ntmps133
  go_wp2_with fail
  refine (anyMethod_draw (w.heap.size + 1 + 1) a len cap 0 (by omega) _ HCUR.out).mono ?_
  rintro e w1 ⟨s, n, v, L, rfl, hsz, hn2, hn9, hn, hL, hs, hd⟩
  have HR1 := Lib.hid (HR.out.only hd.only (by omega))
  have HY1 := Lib.hid (HY.out.only hd.only (by omega))
  have HB1 : Hid (Below w.heap.size w w1) := Lib.hid (by
    have h1 := hd.only.below (by simp)
    exact HB.out.trans ⟨h1.os, h1.tape, h1.output, h1.size, fun k hk => h1.block k (by omega)⟩)
  have hmb : w.heap.size + 3 ≤ w1.heap.size := by have := hd.only.size; simpa using this
  have HN1 := Lib.hid (hn.lower (B' := w.heap.size + 3) (by simp))
  have HC1 := Lib.hid hd.cur
  have HS := Lib.hid hs
  clear hn hs hd HCUR HB HR HY
  obtain ⟨av, cv, hv, -⟩ := HN1.out.own.view
  rw [strs_len] at hv
  subst hv
  have hal := (Below.refl w1.heap.size w1).alloc (Nat.le_refl _) (.cells #[.string s, .int .i64 n, .slice av L.length cv] 25)
  have HR2 := Lib.hid (HR1.out.kept hal)
  have HY2 := Lib.hid (HY1.out.kept hal)
  have HB2 := Lib.hid (HB1.out.trans (hal.mono HB1.out.size))
  have HN2 := Lib.hid (HN1.out.kept hal)
  have HC2 := Lib.hid (HC1.out.below hal)
  have HM2 := Lib.hid (RowAt.new w1 25 #[.string s, .int .i64 n, .slice av L.length cv])
  clear HR1 HB1 HN1 HC1 hal HY1
  go_wp2_with (first | (refine wpList_store_row rfl 25 _ _ rfl _ _ rfl rfl 25 _ (heap_alloc_new _ _) (by kernel_rfl) rfl (by kernel_rfl) ?_; rw [World.setRow_alloc_new]) | fail)
  generalize w1.alloc (.cells #[.string s, .int .i64 n, .slice av L.length cv] 25) = w2 at *
  have hlt2 := HM2.out.lt
  obtain ⟨mb, hmb9⟩ : ∃ mb, w1.heap.size = mb := ⟨_, rfl⟩
  rw [hmb9] at hmb HM2 hlt2
  simp only [hmb9]
  have HAN : Hid (Calls Try.prog 146 #[.pointer (some ⟨w.heap.size + 1 + 1, 0, none⟩), .agg #[.string s, .int .i64 n, .slice av L.length cv]] w2.drew (SomeCalls (w.heap.size + 1 + 1) a len cap 500 w2.drew)) := Lib.hid ((anyCalls_draw (w.heap.size + 1 + 1) a len cap 400 (by omega) s (by unfold maxLen; omega) n _ L (by omega) (fun l hl => by have := HS.out l hl; unfold maxLen; omega) w2.drew ((Dr.start HC2.out).drew.cur) HN2.out.own.txts).mono fun e W' h => by
    obtain ⟨x, y, he, hx, hy, hd⟩ := h
    exact ⟨x, y, he, hx, hy, hd.more (by omega)⟩)
  unfold SomeCalls at HAN
  have hm0 : mb ≠ w.heap.size := by omega
  have hm1 : mb ≠ w.heap.size + 1 := by omega
  have hmc : mb ≠ w.heap.size + 1 + 1 := by omega
  have HSS : Hid (∀ W', RowAt W' mb 25 #[.string s, .int .i64 n, .slice av L.length cv] → (W'.cell? ⟨mb, 0, none⟩ = some (.string s) ∧ W'.cell? ⟨mb, 1, none⟩ = some (.int .i64 n) ∧ W'.cell? ⟨mb, 2, none⟩ = some (.slice av L.length cv))) := Lib.hid (fun W' h => ⟨h.cell 0 rfl, h.cell 1 rfl, h.cell 2 rfl⟩)
  have HS0 := Lib.hid (HSS.out w2.drew (HM2.out.drewN 1))
  have HQA : Hid (∀ W', RowAt W' mb 25 #[.string s, .int .i64 n, .slice av L.length cv] → ((((W'.setCell ⟨w.heap.size, 0, none⟩ (.string s)).setCell ⟨w.heap.size, 1, none⟩ (.int .i64 n)).setCell ⟨w.heap.size, 2, none⟩ (.slice av L.length cv)).cell? ⟨mb, 0, none⟩ = some (.string s) ∧ (((W'.setCell ⟨w.heap.size, 0, none⟩ (.string s)).setCell ⟨w.heap.size, 1, none⟩ (.int .i64 n)).setCell ⟨w.heap.size, 2, none⟩ (.slice av L.length cv)).cell? ⟨mb, 1, none⟩ = some (.int .i64 n) ∧ (((W'.setCell ⟨w.heap.size, 0, none⟩ (.string s)).setCell ⟨w.heap.size, 1, none⟩ (.int .i64 n)).setCell ⟨w.heap.size, 2, none⟩ (.slice av L.length cv)).cell? ⟨mb, 2, none⟩ = some (.slice av L.length cv))) := Lib.hid (fun W' h => HSS.out _ (((h.other ⟨w.heap.size, 0, none⟩ (.string s) hm0).other ⟨w.heap.size, 1, none⟩ (.int .i64 n) hm0).other ⟨w.heap.size, 2, none⟩ (.slice av L.length cv) hm0))
  have HQB : Hid (∀ W' x y, RowAt W' mb 25 #[.string s, .int .i64 n, .slice av L.length cv] → (((W'.setCell ⟨w.heap.size + 1, 0, none⟩ (.string x)).setCell ⟨w.heap.size + 1, 1, none⟩ (.string y)).cell? ⟨mb, 0, none⟩ = some (.string s) ∧ ((W'.setCell ⟨w.heap.size + 1, 0, none⟩ (.string x)).setCell ⟨w.heap.size + 1, 1, none⟩ (.string y)).cell? ⟨mb, 1, none⟩ = some (.int .i64 n) ∧ ((W'.setCell ⟨w.heap.size + 1, 0, none⟩ (.string x)).setCell ⟨w.heap.size + 1, 1, none⟩ (.string y)).cell? ⟨mb, 2, none⟩ = some (.slice av L.length cv))) := Lib.hid (fun W' x y h => HSS.out _ ((h.other ⟨w.heap.size + 1, 0, none⟩ (.string x) hm1).other ⟨w.heap.size + 1, 1, none⟩ (.string y) hm1))
  have HQAB : Hid (∀ W' x y, RowAt W' mb 25 #[.string s, .int .i64 n, .slice av L.length cv] → ((((((W'.setCell ⟨w.heap.size, 0, none⟩ (.string s)).setCell ⟨w.heap.size, 1, none⟩ (.int .i64 n)).setCell ⟨w.heap.size, 2, none⟩ (.slice av L.length cv)).setCell ⟨w.heap.size + 1, 0, none⟩ (.string x)).setCell ⟨w.heap.size + 1, 1, none⟩ (.string y)).cell? ⟨mb, 0, none⟩ = some (.string s) ∧ (((((W'.setCell ⟨w.heap.size, 0, none⟩ (.string s)).setCell ⟨w.heap.size, 1, none⟩ (.int .i64 n)).setCell ⟨w.heap.size, 2, none⟩ (.slice av L.length cv)).setCell ⟨w.heap.size + 1, 0, none⟩ (.string x)).setCell ⟨w.heap.size + 1, 1, none⟩ (.string y)).cell? ⟨mb, 1, none⟩ = some (.int .i64 n) ∧ (((((W'.setCell ⟨w.heap.size, 0, none⟩ (.string s)).setCell ⟨w.heap.size, 1, none⟩ (.int .i64 n)).setCell ⟨w.heap.size, 2, none⟩ (.slice av L.length cv)).setCell ⟨w.heap.size + 1, 0, none⟩ (.string x)).setCell ⟨w.heap.size + 1, 1, none⟩ (.string y)).cell? ⟨mb, 2, none⟩ = some (.slice av L.length cv))) := Lib.hid (fun W' x y h => HQB.out _ x y (((h.other ⟨w.heap.size, 0, none⟩ (.string s) hm0).other ⟨w.heap.size, 1, none⟩ (.int .i64 n) hm0).other ⟨w.heap.size, 2, none⟩ (.slice av L.length cv) hm0))
  go_region_held3 (fun W' => W'.cell? ⟨mb, 0, none⟩ = some (.string s) ∧ W'.cell? ⟨mb, 1, none⟩ = some (.int .i64 n) ∧ W'.cell? ⟨mb, 2, none⟩ = some (.slice av L.length cv)) (first | with_reducible assumption | with_reducible exact HS0.out | with_reducible exact hq1 | with_reducible exact hq2) (first
    | (go_at_call 146; refine HAN.out.mono ?_; rintro e6 w6 ⟨x, y, rfl, hx6, hy6, hd6⟩; have hm6 := (HM2.out.drewN 1).only hd6.only hmc; have hS6 := HSS.out _ hm6; have hq1 := HQA.out _ hm6; have hq2 := HQAB.out _ x y hm6; have hz6 := (HR2.out.drewN 1).only hd6.only (by omega); have hy7 := (HY2.out.drewN 1).only hd6.only (by omega); have z0 := hz6.cell 0 rfl; have z1 := hz6.cell 1 rfl; have z2 := hz6.cell 2 rfl; have f0 := hz6.free 0; have f1 := hz6.free 1; have f2 := hz6.free 2; have y0 := hy7.cell 0 rfl; have y1 := hy7.cell 1 rfl; have g0 := hy7.free 0; have g1 := hy7.free 1)
    | fail)
  have hn10 : w.heap.size + 1 ≠ w.heap.size := by omega
  have hn01 : w.heap.size ≠ w.heap.size + 1 := by omega
  have hF := (((((hz6.set 0 (.string s)).set 1 (.int .i64 n)).set 2 (.slice av L.length cv)).other ⟨w.heap.size + 1, 0, none⟩ (.string x) hn01).other ⟨w.heap.size + 1, 1, none⟩ (.string y) hn01)
  have HF : Hid (RowAt _ w.heap.size 25 #[.string s, .int .i64 n, (.slice av L.length cv)]) := Lib.hid hF
  have hG := ((((hy7.other ⟨w.heap.size, 0, none⟩ (.string s) hn10).other ⟨w.heap.size, 1, none⟩ (.int .i64 n) hn10).other ⟨w.heap.size, 2, none⟩ (.slice av L.length cv) hn10).set 0 (.string x)).set 1 (.string y)
  have HG : Hid (RowAt _ (w.heap.size + 1) 27 #[.string x, .string y]) := Lib.hid hG
  have hn6 := (HN2.out.drewN 1).only hd6.only (by omega)
  have ap0 := hn6.apartRow hz6 (by decide)
  have ap1 := hn6.apartRow hy7 (by decide)
  have HNF := Lib.hid ((((((hn6.setOther w.heap.size 0 (.string s) ap0).setOther w.heap.size 1 (.int .i64 n) ap0).setOther w.heap.size 2 (.slice av L.length cv) ap0).setOther (w.heap.size + 1) 0 (.string x) ap1).setOther (w.heap.size + 1) 1 (.string y) ap1).lower (B' := w.heap.size) (by omega))
  have hb6 : Below w.heap.size w w6 := by
    have h1 := hd6.only.below (by simp; omega)
    exact HB2.out.drew.trans ⟨h1.os, h1.tape, h1.output, h1.size, fun k hk => h1.block k (by omega)⟩
  have HBF := Lib.hid (((((hb6.setCell (p := ⟨w.heap.size, 0, none⟩) (Nat.le_refl _) (.string s)).setCell (p := ⟨w.heap.size, 1, none⟩) (Nat.le_refl _) (.int .i64 n)).setCell (p := ⟨w.heap.size, 2, none⟩) (Nat.le_refl _) (.slice av L.length cv)).setCell (p := ⟨w.heap.size + 1, 0, none⟩) (Nat.le_succ _) (.string x)).setCell (p := ⟨w.heap.size + 1, 1, none⟩) (Nat.le_succ _) (.string y))
  clear hF hG hn6 ap0 ap1 hb6 hz6 hy7 hm6 hS6 hq1 hq2 z0 z1 z2 f0 f1 f2 y0 y1 g0 g1 hd6
  go_wp2
  try simp only [Exit.inBlock, Exit.then]
  exact bodyPost_ret (results_two rfl _ _ w.heap.size (w.heap.size + 1) _ _ (0, 0) (0, 0) _ _ rfl HF.out rfl HG.out Try.underlying25 rfl Try.underlying27 rfl (by kernel_rfl) (by kernel_rfl)) rfl ⟨s, n, _, L, x, y, rfl, hsz, hn2, hn9, HNF.out, hL, HS.out, hx6, hy6, HBF.out⟩
end Go.Proofs.Ytkhglknpcajmiaa
