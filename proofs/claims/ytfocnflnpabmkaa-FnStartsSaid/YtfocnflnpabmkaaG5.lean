/- Draws: a method and another. -/
import Derived.Test.YtfocnflnpabmkaaG3
namespace Go.Proofs.Ytfocnflnpabmkaa
open Go.RowKit
set_option linter.unusedSimpArgs false
set_option linter.unusedVariables false

set_option maxRecDepth 100000 in
set_option maxHeartbeats 1000000 in
theorem l4Own_any (s : ByteArray) (n : Int) (v : Value) (L : List (List Nat)) (w : World) (h : Txts w v L) (hl : L.length ≤ 1000) :
    Calls Try.prog 84 #[.agg #[.string s, .int .i64 n, v]] w (MethOut s n L w) := by
  obtain ⟨a, cap, rfl, hcap, -⟩ := id h
  obtain ⟨m, hm⟩ : ∃ m, L.length = m := ⟨_, rfl⟩
  have HT := Lib.hid h
  have HR0 := Lib.hid ((RowAt.new w 26 #[.string s, .int .i64 n, .slice a L.length cap]).push (.cells zeroM 26))
  have HZ0 : Hid (RowAt ((w.alloc (.cells #[.string s, .int .i64 n, .slice a L.length cap] 26)).alloc (.cells zeroM 26)) (w.heap.size + 1) 26 zeroM) := Lib.hid (by
    have := RowAt.new (w.alloc (.cells #[.string s, .int .i64 n, .slice a L.length cap] 26)) 26 zeroM
    simpa using this)
  have HB0 := Lib.hid (((Below.refl _ w).alloc (Nat.le_refl _) (.cells #[.string s, .int .i64 n, .slice a L.length cap] 26)).alloc (by simp) (.cells zeroM 26))
  rw [hm] at HT HR0 HZ0 HB0
  rw [hm]
  rw [hm] at hl
  have HML := Lib.hid hm
  clear h hcap hm
  go_enter Try.func84, Try.ntmps84
  go_wp2
  have c0 := HR0.out.cell 0 rfl
  have c1 := HR0.out.cell 1 rfl
  have c2 := HR0.out.cell 2 rfl
  have HLT := Lib.hid HR0.out.lt
  generalize hw0 : (w.alloc (.cells #[.string s, .int .i64 n, .slice a m cap] 26)).alloc (.cells zeroM 26) = w0 at *
  try (rw [show (w.alloc (.cells #[.string s, .int .i64 n, .slice a m cap] 26)).alloc (.cells #[.string ⟨#[]⟩, .int .i64 0, .slice none 0 0] 26) = w0 from hw0])
  clear hw0
  have HS : Hid (∀ W', (RowAt W' w.heap.size 26 #[.string s, .int .i64 n, .slice a m cap] ∧ Below w.heap.size w W') → (W'.cell? ⟨w.heap.size, 0, none⟩ = some (.string s) ∧ W'.cell? ⟨w.heap.size, 1, none⟩ = some (.int .i64 n) ∧ W'.cell? ⟨w.heap.size, 2, none⟩ = some (.slice a m cap) ∧ Below w.heap.size w W')) := Lib.hid (fun W' h => ⟨h.1.cell 0 rfl, h.1.cell 1 rfl, h.1.cell 2 rfl, h.2⟩)
  have HS0 : Hid (w0.drew.cell? ⟨w.heap.size, 0, none⟩ = some (.string s) ∧ w0.drew.cell? ⟨w.heap.size, 1, none⟩ = some (.int .i64 n) ∧ w0.drew.cell? ⟨w.heap.size, 2, none⟩ = some (.slice a m cap) ∧ Below w.heap.size w w0.drew) := Lib.hid (HS.out _ ⟨HR0.out.drewN 1, below_drewN HB0.out 1⟩)
  have HOW : Hid (Calls Try.prog 108 #[.slice a m cap] w0.drew (Copied L w0.drew)) := Lib.hid (by
    rw [← HML.out]
    exact l1OwnS_any _ L w0.drew (by rw [HML.out]; exact HT.out.kept (below_drewN HB0.out 1)) (by rw [HML.out]; exact hl))
  unfold Copied at HOW
  go_region_held3 (fun w' => w'.cell? ⟨w.heap.size, 0, none⟩ = some (.string s) ∧ w'.cell? ⟨w.heap.size, 1, none⟩ = some (.int .i64 n) ∧ w'.cell? ⟨w.heap.size, 2, none⟩ = some (.slice a m cap) ∧ Below w.heap.size w w') (first | assumption | exact HS0.out | exact HSZ.out) (first
    | (go_at_call 108; refine HOW.out.mono ?_; rintro e5 w5 ⟨v5, rfl, hn5, hb5⟩; obtain ⟨a5, k5, hv5, -⟩ := hn5.own.view; rw [strs_len, HML.out] at hv5; subst hv5; have HR5 := Lib.hid ((HR0.out.drewN 1).kept hb5); have HZ5 := Lib.hid ((HZ0.out.drewN 1).kept hb5); have HB5 := Lib.hid ((below_drewN HB0.out 1).trans (hb5.mono (below_drewN HB0.out 1).size)); have HN5 := Lib.hid (hn5.lower (B' := w.heap.size) (below_drewN HB0.out 1).size); have hS5 := HS.out _ ⟨HR5.out, HB5.out⟩; have z0 := HZ5.out.cell 0 rfl; have z1 := HZ5.out.cell 1 rfl; have z2 := HZ5.out.cell 2 rfl; have f0 := HZ5.out.free 0; have f1 := HZ5.out.free 1; have f2 := HZ5.out.free 2; have HSZ := Lib.hid (HS.out _ ⟨((HR5.out.other ⟨w.heap.size + 1, 0, none⟩ (.string s) (by show w.heap.size ≠ w.heap.size + 1; omega)).other ⟨w.heap.size + 1, 1, none⟩ (.int .i64 n) (by show w.heap.size ≠ w.heap.size + 1; omega)).other ⟨w.heap.size + 1, 2, none⟩ (.slice a5 m k5) (by show w.heap.size ≠ w.heap.size + 1; omega), ((HB5.out.setCell (p := ⟨w.heap.size + 1, 0, none⟩) (by show w.heap.size ≤ w.heap.size + 1; omega) (.string s)).setCell (p := ⟨w.heap.size + 1, 1, none⟩) (by show w.heap.size ≤ w.heap.size + 1; omega) (.int .i64 n)).setCell (p := ⟨w.heap.size + 1, 2, none⟩) (by show w.heap.size ≤ w.heap.size + 1; omega) (.slice a5 m k5)⟩))
    | fail)
  have HF := Lib.hid (((HZ5.out.set 0 (.string s)).set 1 (.int .i64 n)).set 2 (.slice a5 m k5))
  have hap := HN5.out.apartRow HZ5.out (by decide)
  have HNF := Lib.hid (((HN5.out.setOther (w.heap.size + 1) 0 (.string s) hap).setOther (w.heap.size + 1) 1 (.int .i64 n) hap).setOther (w.heap.size + 1) 2 (.slice a5 m k5) hap)
  have HBF := Lib.hid HSZ.out.2.2.2
  clear hS5 HSZ HR5 HZ5 HB5 HN5 hn5 hb5 z0 z1 z2 f0 f1 f2 HOW HS0 HS hap
  go_wp2
  try simp only [Exit.inBlock, Exit.then]
  exact bodyPost_ret (results_cell_row rfl _ _ (w.heap.size + 1) 26 _ (0, 0) _ rfl HF.out Try.underlying26 rfl (by kernel_rfl)) rfl ⟨_, rfl, HNF.out, HBF.out⟩

theorem results_rows2 {P : Program} {fn : Func} {p u : Tmp} {ty : TypeId} (h : fn.results = #[.cell p ty, .cell u ty]) (tmps : Array Value) (w : World) (g g' : Nat) (t : TypeId) (cs ds : Array Value) (fr fr' : Nat × Nat) (d : TypeDesc)
    (hp : tmps.getD p undef = .pointer (some ⟨g, 0, none⟩)) (hg : w.heap[g]? = some (.cells cs t fr))
    (hp' : tmps.getD u undef = .pointer (some ⟨g', 0, none⟩)) (hg' : w.heap[g']? = some (.cells ds t fr'))
    (hu : P.underlying ty = some d) (hd : (match d with | .struct _ | .array _ _ => true | _ => false) = true) (hi : (P.info? ty).map (·.size) = some cs.size) (hi' : (P.info? ty).map (·.size) = some ds.size) :
    (results fn tmps).run P w = .ok (.tuple #[.agg cs, .agg ds]) w := by
  have hp1 : tmps[p]?.getD undef = .pointer (some ⟨g, 0, none⟩) := by simpa using hp
  have hp2 : tmps[u]?.getD undef = .pointer (some ⟨g', 0, none⟩) := by simpa using hp'
  simp only [results, h]
  simp [Sem.run_bind, Result.andThen, asAddr, hp1, hp2, run_loadVar_row w g t ty cs fr d hg hu hd hi, run_loadVar_row w g' t ty ds fr' d hg' hu hd hi']

def DrawnMM (w : World) (e : Ending) (w' : World) : Prop :=
  ∃ (s s' : ByteArray) (n : Int) (v v' : Value) (L L' : List (List Nat)), e = .returned (.tuple #[.agg #[.string s, .int .i64 n, v], .agg #[.string s', .int .i64 n, v']]) ∧ New w.heap.size w' 9 v (strs L) ∧ New w.heap.size w' 9 v' (strs L') ∧ L.length ≤ 42 ∧ L'.length ≤ 42 ∧ Below w.heap.size w w'

set_option maxRecDepth 100000 in
set_option maxHeartbeats 4000000 in
theorem DrawSameMethod_any (a : Option Addr) (len cap : Nat) (zs : List Int) (w : World) (hz : IsBytes w a len cap zs) (hl : len ≤ 1048576) :
    Calls Try.prog 32 #[.slice a len cap] w (DrawnMM w) := by
  have hb0 := ((Below.refl _ w).alloc (Nat.le_refl _) (.cells zeroM 26)).alloc (by simp) (.cells zeroM 26)
  have hcode := codeAt_of (hz.belowW hb0)
  have HCUR := Lib.hid (cur_new a len cap _ hcode hl)
  have HR := Lib.hid (((RowAt.new w 26 zeroM).push (.cells zeroM 26)).push (.cells #[.slice a len cap, .int .i64 0, .int .u64 0] 68))
  have HQ : Hid (RowAt (((w.alloc (.cells zeroM 26)).alloc (.cells zeroM 26)).alloc (.cells #[.slice a len cap, .int .i64 0, .int .u64 0] 68)) (w.heap.size + 1) 26 zeroM) := Lib.hid (by
    have := (RowAt.new (w.alloc (.cells zeroM 26)) 26 zeroM).push (.cells #[.slice a len cap, .int .i64 0, .int .u64 0] 68)
    simpa using this)
  have HB := Lib.hid (hb0.alloc hb0.size (.cells #[.slice a len cap, .int .i64 0, .int .u64 0] 68))
  clear hz hcode hb0
  simp only [World.size_alloc] at HCUR
  obtain ⟨i0, hi0, hz0, hz1, hz2⟩ := info_parts infoText
  have I0 := Lib.hid (⟨hi0, hz0, hz1, hz2⟩ : _ ∧ _ ∧ _ ∧ _)
  clear hi0 hz0 hz1 hz2
  go_enter Try.func32, Try.ntmps32
  go_wp2_with fail
  refine (anyMethod_draw (w.heap.size + 2) a len cap 0 (by omega) _ HCUR.out).mono ?_
  rintro e w1 ⟨s, n, v, L, rfl, hsz, hn2, hn9, hn, hL, hs, hd⟩
  have HR1 := Lib.hid (HR.out.only hd.only (by omega))
  have HQ1 := Lib.hid (HQ.out.only hd.only (by omega))
  have HB1 : Hid (Below w.heap.size w w1) := Lib.hid (by
    have h1 := hd.only.below (by simp)
    exact HB.out.trans ⟨h1.os, h1.tape, h1.output, h1.size, fun k hk => h1.block k (by omega)⟩)
  have hmb : w.heap.size + 3 ≤ w1.heap.size := by have := hd.only.size; simpa using this
  have HN1 := Lib.hid (hn.lower (B' := w.heap.size + 3) (by simp))
  have HC1 := Lib.hid hd.cur
  clear hn hs hd HCUR HB HR HQ
  obtain ⟨av, cv, hv, -⟩ := HN1.out.own.view
  rw [strs_len] at hv
  subst hv
  have HNB : Hid (∀ g, (Value.slice av L.length cv).ownBlock = some g → g < w1.heap.size + 1) := Lib.hid (fun g hg => Nat.lt_succ_of_lt (HN1.out.own.lt g hg))
  obtain ⟨o2, ho2⟩ : ∃ o2, Obj.cells #[.string s, .int .i64 n, .slice av L.length cv] 26 = o2 := ⟨_, rfl⟩
  have hal := (Below.refl w1.heap.size w1).alloc (Nat.le_refl _) o2
  have HR2 := Lib.hid (HR1.out.kept hal)
  have HQ2 := Lib.hid (HQ1.out.kept hal)
  have HB2 := Lib.hid (HB1.out.trans (hal.mono HB1.out.size))
  have HN2 := Lib.hid (HN1.out.kept hal)
  have HC2 := Lib.hid (HC1.out.below hal)
  have HM2 : Hid (RowAt (w1.alloc o2) w1.heap.size 26 #[.string s, .int .i64 n, .slice av L.length cv]) := Lib.hid (by rw [← ho2]; exact RowAt.new w1 _ _)
  clear HR1 HB1 HN1 HC1 HQ1 hal
  subst ho2
  go_wp2_with (first | (refine wpList_store_row rfl 26 _ _ rfl _ _ rfl rfl 26 _ (heap_alloc_new _ _) (by kernel_rfl) rfl (by kernel_rfl) ?_; rw [World.setRow_alloc_new]) | (refine wpList_load_row rfl 26 _ rfl _ rfl 26 _ _ _ (HM2.out) Try.underlying26 rfl (by kernel_rfl) ?_) | fail)
  have hltm := HM2.out.lt
  have hltr := HR2.out.lt
  generalize w1.alloc (.cells #[.string s, .int .i64 n, .slice av L.length cv] 26) = w2 at *
  obtain ⟨mb, hmb9⟩ : ∃ mb, w1.heap.size = mb := ⟨_, rfl⟩
  rw [hmb9] at hmb HM2 hltm HNB
  simp only [hmb9]
  clear hmb9
  refine (l4Own_any s n _ L _ HN2.out.own.txts (by omega)).mono ?_
  rintro e w3 ⟨v3, rfl, hn3, hb3⟩
  have HR3 := Lib.hid (HR2.out.kept hb3)
  have HQ3 := Lib.hid (HQ2.out.kept hb3)
  have HB3 := Lib.hid (HB2.out.trans (hb3.mono HB2.out.size))
  have HN3 := Lib.hid (HN2.out.kept hb3)
  have HC3 := Lib.hid (HC2.out.below hb3)
  have HM3 := Lib.hid (HM2.out.kept hb3)
  have HX3 := Lib.hid (hn3.lower (B' := mb + 1) (by omega))
  have hsz3 := hb3.size
  clear HR2 HB2 HN2 HC2 HQ2 HM2 hb3 hn3
  obtain ⟨ax, cx, hvx, -⟩ := HX3.out.own.view
  rw [strs_len] at hvx
  subst hvx
  obtain ⟨o4, ho4⟩ : ∃ o4, Obj.cells #[.string s, .int .i64 n, .slice ax L.length cx] 26 = o4 := ⟨_, rfl⟩
  have hal := (Below.refl w3.heap.size w3).alloc (Nat.le_refl _) o4
  have HR4 := Lib.hid (HR3.out.kept hal)
  have HQ4 := Lib.hid (HQ3.out.kept hal)
  have HB4 := Lib.hid (HB3.out.trans (hal.mono HB3.out.size))
  have HN4 := Lib.hid (HN3.out.kept hal)
  have HC4 := Lib.hid (HC3.out.below hal)
  have HM4 := Lib.hid (HM3.out.kept hal)
  have HX4 := Lib.hid (HX3.out.kept hal)
  have HY4 : Hid (RowAt (w3.alloc o4) w3.heap.size 26 #[.string s, .int .i64 n, .slice ax L.length cx]) := Lib.hid (by rw [← ho4]; exact RowAt.new w3 _ _)
  clear HR3 HB3 HN3 HC3 HQ3 HM3 HX3 hal
  subst ho4
  go_wp2_with (first | (refine wpList_store_row rfl 26 _ _ rfl _ _ rfl rfl 26 _ (heap_alloc_new _ _) (by kernel_rfl) rfl (by kernel_rfl) ?_; rw [World.setRow_alloc_new]) | fail)
  have hlty := HY4.out.lt
  generalize w3.alloc (.cells #[.string s, .int .i64 n, .slice ax L.length cx] 26) = w4 at *
  obtain ⟨xb, hxb9⟩ : ∃ xb, w3.heap.size = xb := ⟨_, rfl⟩
  rw [hxb9] at hsz3 HY4 hlty
  simp only [hxb9]
  clear hxb9
  refine (pick_any (w.heap.size + 2) a len cap _ 4 (by omega) (by omega) (by omega) _ HC4.out).mono ?_
  rintro e w5 ⟨x, hx, rfl, hc5, ho5⟩
  have HR5 := Lib.hid (HR4.out.only ho5 (by omega))
  have HQ5 := Lib.hid (HQ4.out.only ho5 (by omega))
  have HM5 := Lib.hid (HM4.out.only ho5 (by omega))
  have HY5 := Lib.hid (HY4.out.only ho5 (by omega))
  have HN5 := Lib.hid (HN4.out.only ho5 (by omega))
  have HX5 := Lib.hid (HX4.out.only ho5 (by omega))
  have HB5 : Hid (Below w.heap.size w w5) := Lib.hid (by
    have h1 := ho5.below (by omega)
    exact HB4.out.trans ⟨h1.os, h1.tape, h1.output, h1.size, fun k hk => h1.block k (by omega)⟩)
  have hsz5 := ho5.size
  clear HR4 HQ4 HM4 HY4 HN4 HX4 HB4 HC4 hc5 ho5
  have hx3 : x = 0 ∨ x = 1 ∨ 2 ≤ x := by omega
  rcases hx3 with rfl | rfl | h2
  · have g0 := HY5.out.cell 0 rfl
    have e0 := HY5.out.free 0
    have hap := HX5.out.apartRow HY5.out (by decide)
    have hap2 := HN5.out.apartRow HY5.out (by decide)
    have HR8 := Lib.hid (HR5.out.other ⟨xb, 0, none⟩ (.string ⟨#[111, 116, 104, 101, 114]⟩) (by show w.heap.size ≠ xb; omega))
    have HQ8 := Lib.hid (HQ5.out.other ⟨xb, 0, none⟩ (.string ⟨#[111, 116, 104, 101, 114]⟩) (by show w.heap.size + 1 ≠ xb; omega))
    have HM8 := Lib.hid (HM5.out.other ⟨xb, 0, none⟩ (.string ⟨#[111, 116, 104, 101, 114]⟩) (by show mb ≠ xb; omega))
    have HY8 := Lib.hid (HY5.out.set 0 (.string ⟨#[111, 116, 104, 101, 114]⟩))
    have HN8 := Lib.hid (HN5.out.setOther xb 0 (.string ⟨#[111, 116, 104, 101, 114]⟩) hap2)
    have HX8 := Lib.hid (HX5.out.setOther xb 0 (.string ⟨#[111, 116, 104, 101, 114]⟩) hap)
    have HB8 := Lib.hid (HB5.out.setCell (p := ⟨xb, 0, none⟩) (by show w.heap.size ≤ xb; omega) (.string ⟨#[111, 116, 104, 101, 114]⟩))
    clear HR5 HQ5 HM5 HY5 HN5 HX5 HB5 hap hap2
    go_wp2_with fail
    clear g0 e0
    generalize w5.setCell ⟨xb, 0, none⟩ (.string ⟨#[111, 116, 104, 101, 114]⟩) = w8 at *
    have hR := HR8.out
    have hQ := HQ8.out
    have hM := HM8.out
    have hY := HY8.out
    have hN := HN8.out
    have hX := HX8.out
    have hB := HB8.out
    have hm1 := (((hM.other ⟨w.heap.size, 0, none⟩ (.string s) (by show mb ≠ w.heap.size; omega)).other ⟨w.heap.size, 1, none⟩ (.int .i64 n) (by show mb ≠ w.heap.size; omega)).other ⟨w.heap.size, 2, none⟩ (.slice av L.length cv) (by show mb ≠ w.heap.size; omega))
    have hy1 := (((hY.other ⟨w.heap.size, 0, none⟩ (.string s) (by show xb ≠ w.heap.size; omega)).other ⟨w.heap.size, 1, none⟩ (.int .i64 n) (by show xb ≠ w.heap.size; omega)).other ⟨w.heap.size, 2, none⟩ (.slice av L.length cv) (by show xb ≠ w.heap.size; omega))
    have hr1 := (((hR.set 0 (.string s)).set 1 (.int .i64 n)).set 2 (.slice av L.length cv))
    have hr2 := Lib.hid (((hr1.other ⟨w.heap.size + 1, 0, none⟩ (.string ⟨#[111, 116, 104, 101, 114]⟩) (by show w.heap.size ≠ w.heap.size + 1; omega)).other ⟨w.heap.size + 1, 1, none⟩ (.int .i64 n) (by show w.heap.size ≠ w.heap.size + 1; omega)).other ⟨w.heap.size + 1, 2, none⟩ (.slice ax L.length cx) (by show w.heap.size ≠ w.heap.size + 1; omega))
    have hq1 := (((hQ.other ⟨w.heap.size, 0, none⟩ (.string s) (by show w.heap.size + 1 ≠ w.heap.size; omega)).other ⟨w.heap.size, 1, none⟩ (.int .i64 n) (by show w.heap.size + 1 ≠ w.heap.size; omega)).other ⟨w.heap.size, 2, none⟩ (.slice av L.length cv) (by show w.heap.size + 1 ≠ w.heap.size; omega))
    have hq2 := Lib.hid (((hq1.set 0 (.string ⟨#[111, 116, 104, 101, 114]⟩)).set 1 (.int .i64 n)).set 2 (.slice ax L.length cx))
    have c0 := hM.cell 0 rfl
    have c1 := hM.cell 1 rfl
    have c2 := hM.cell 2 rfl
    have d0 := hY.cell 0 rfl
    have d1 := hY.cell 1 rfl
    have d2 := hY.cell 2 rfl
    have l0 := hy1.cell 0 rfl
    have l1 := hy1.cell 1 rfl
    have l2 := hy1.cell 2 rfl
    have z0 := hR.cell 0 rfl
    have z1 := hR.cell 1 rfl
    have z2 := hR.cell 2 rfl
    have f0 := hR.free 0
    have f1 := hR.free 1
    have f2 := hR.free 2
    have y0 := hq1.cell 0 rfl
    have y1 := hq1.cell 1 rfl
    have y2 := hq1.cell 2 rfl
    have g0 := hq1.free 0
    have g1 := hq1.free 1
    have g2 := hq1.free 2
    have ha := hN.apartRow hR (by decide)
    have hb := hN.apartRow hQ (by decide)
    have hc := hX.apartRow hR (by decide)
    have hd := hX.apartRow hQ (by decide)
    have HNF := Lib.hid (((((((hN.setOther (w.heap.size) 0 (.string s) ha).setOther (w.heap.size) 1 (.int .i64 n) ha).setOther (w.heap.size) 2 (.slice av L.length cv) ha).setOther (w.heap.size + 1) 0 (.string ⟨#[111, 116, 104, 101, 114]⟩) hb).setOther (w.heap.size + 1) 1 (.int .i64 n) hb).setOther (w.heap.size + 1) 2 (.slice ax L.length cx) hb).lower (B' := w.heap.size) (by omega))
    have HXF := Lib.hid (((((((hX.setOther (w.heap.size) 0 (.string s) hc).setOther (w.heap.size) 1 (.int .i64 n) hc).setOther (w.heap.size) 2 (.slice av L.length cv) hc).setOther (w.heap.size + 1) 0 (.string ⟨#[111, 116, 104, 101, 114]⟩) hd).setOther (w.heap.size + 1) 1 (.int .i64 n) hd).setOther (w.heap.size + 1) 2 (.slice ax L.length cx) hd).lower (B' := w.heap.size) (by omega))
    have HBF := Lib.hid ((((((hB.setCell (p := ⟨w.heap.size, 0, none⟩) (by show w.heap.size ≤ w.heap.size; omega) (.string s)).setCell (p := ⟨w.heap.size, 1, none⟩) (by show w.heap.size ≤ w.heap.size; omega) (.int .i64 n)).setCell (p := ⟨w.heap.size, 2, none⟩) (by show w.heap.size ≤ w.heap.size; omega) (.slice av L.length cv)).setCell (p := ⟨w.heap.size + 1, 0, none⟩) (by show w.heap.size ≤ w.heap.size + 1; omega) (.string ⟨#[111, 116, 104, 101, 114]⟩)).setCell (p := ⟨w.heap.size + 1, 1, none⟩) (by show w.heap.size ≤ w.heap.size + 1; omega) (.int .i64 n)).setCell (p := ⟨w.heap.size + 1, 2, none⟩) (by show w.heap.size ≤ w.heap.size + 1; omega) (.slice ax L.length cx))
    clear hm1 hy1 hr1 hq1 ha hb hc hd hR hQ hM hY hN hX hB HR8 HQ8 HM8 HY8 HN8 HX8 HB8
    go_region
    go_wp2
    try simp only [Exit.inBlock, Exit.then]
    exact bodyPost_ret (results_rows2 rfl _ _ (w.heap.size) (w.heap.size + 1) 26 _ _ (0, 0) (0, 0) _ rfl (hr2.out.drewN 1) rfl (hq2.out.drewN 1) Try.underlying26 rfl (by kernel_rfl) (by kernel_rfl)) rfl ⟨s, _, n, _, _, L, L, rfl, HNF.out.drewN 1, HXF.out.drewN 1, by omega, by omega, below_drewN HBF.out 1⟩
  · have g2 := HY5.out.cell 2 rfl
    go_wp2_with (at_builtin; refine wpList_app1 rfl (.tmp 22) (.tmp 23) 24 rfl 9 i0 (.string ⟨#[]⟩) 16 Try.underlying24 I0.out.1 I0.out.2.1 I0.out.2.2.1 I0.out.2.2.2 rfl (mb + 1) w5 _ (strs L) rfl HX5.out rfl rfl (by omega) (Below.refl _ _) (by rw [strs_len]; omega) (by omega) ?_)
    intro v7 w7 hn7 hk7 hb7 hsz7
    obtain ⟨a7, c7, hv7, -⟩ := hn7.own.view
    rw [show (strs L ++ [Value.string ⟨#[49]⟩]).length = L.length + 1 by simp [strs_len]] at hv7
    subst hv7
    have e7 : strs L ++ [.string ⟨#[49]⟩] = strs (L ++ [[49]]) := by simp [strs]; rfl
    rw [e7] at hn7
    have HR7 := Lib.hid (hk7.row HR5.out (HX5.out.apartRow HR5.out (by decide)))
    have HQ7 := Lib.hid (hk7.row HQ5.out (HX5.out.apartRow HQ5.out (by decide)))
    have HM7 := Lib.hid (hk7.row HM5.out (HX5.out.apartRow HM5.out (by decide)))
    have HY7 := Lib.hid (hk7.row HY5.out (HX5.out.apartRow HY5.out (by decide)))
    have HN7 : Hid (New (w.heap.size + 3) w7 9 (.slice av L.length cv) (strs L)) := Lib.hid (HN5.out.under HNB.out hb7)
    have HB7 := Lib.hid (HB5.out.trans (hb7.mono (by omega)))
    have gz := HY7.out.cell 2 rfl
    have ez := HY7.out.free 2
    have hap := hn7.apartRow HY7.out (by decide)
    have hap2 := HN7.out.apartRow HY7.out (by decide)
    have HR8 := Lib.hid (HR7.out.other ⟨xb, 2, none⟩ (.slice a7 (L.length + 1) c7) (by show w.heap.size ≠ xb; omega))
    have HQ8 := Lib.hid (HQ7.out.other ⟨xb, 2, none⟩ (.slice a7 (L.length + 1) c7) (by show w.heap.size + 1 ≠ xb; omega))
    have HM8 := Lib.hid (HM7.out.other ⟨xb, 2, none⟩ (.slice a7 (L.length + 1) c7) (by show mb ≠ xb; omega))
    have HY8 := Lib.hid (HY7.out.set 2 (.slice a7 (L.length + 1) c7))
    have HN8 := Lib.hid (HN7.out.setOther xb 2 (.slice a7 (L.length + 1) c7) hap2)
    have HX8 := Lib.hid (hn7.setOther xb 2 (.slice a7 (L.length + 1) c7) hap)
    have HB8 := Lib.hid (HB7.out.setCell (p := ⟨xb, 2, none⟩) (by show w.heap.size ≤ xb; omega) (.slice a7 (L.length + 1) c7))
    clear HR5 HQ5 HM5 HY5 HN5 HX5 HB5 hap hap2 HR7 HQ7 HM7 HY7 HN7 HB7 hn7 hk7 hb7 g2 e7
    go_wp2_with fail
    clear gz ez
    generalize w7.setCell ⟨xb, 2, none⟩ (.slice a7 (L.length + 1) c7) = w8 at *
    have hR := HR8.out
    have hQ := HQ8.out
    have hM := HM8.out
    have hY := HY8.out
    have hN := HN8.out
    have hX := HX8.out
    have hB := HB8.out
    have hm1 := (((hM.other ⟨w.heap.size, 0, none⟩ (.string s) (by show mb ≠ w.heap.size; omega)).other ⟨w.heap.size, 1, none⟩ (.int .i64 n) (by show mb ≠ w.heap.size; omega)).other ⟨w.heap.size, 2, none⟩ (.slice av L.length cv) (by show mb ≠ w.heap.size; omega))
    have hy1 := (((hY.other ⟨w.heap.size, 0, none⟩ (.string s) (by show xb ≠ w.heap.size; omega)).other ⟨w.heap.size, 1, none⟩ (.int .i64 n) (by show xb ≠ w.heap.size; omega)).other ⟨w.heap.size, 2, none⟩ (.slice av L.length cv) (by show xb ≠ w.heap.size; omega))
    have hr1 := (((hR.set 0 (.string s)).set 1 (.int .i64 n)).set 2 (.slice av L.length cv))
    have hr2 := Lib.hid (((hr1.other ⟨w.heap.size + 1, 0, none⟩ (.string s) (by show w.heap.size ≠ w.heap.size + 1; omega)).other ⟨w.heap.size + 1, 1, none⟩ (.int .i64 n) (by show w.heap.size ≠ w.heap.size + 1; omega)).other ⟨w.heap.size + 1, 2, none⟩ (.slice a7 (L.length + 1) c7) (by show w.heap.size ≠ w.heap.size + 1; omega))
    have hq1 := (((hQ.other ⟨w.heap.size, 0, none⟩ (.string s) (by show w.heap.size + 1 ≠ w.heap.size; omega)).other ⟨w.heap.size, 1, none⟩ (.int .i64 n) (by show w.heap.size + 1 ≠ w.heap.size; omega)).other ⟨w.heap.size, 2, none⟩ (.slice av L.length cv) (by show w.heap.size + 1 ≠ w.heap.size; omega))
    have hq2 := Lib.hid (((hq1.set 0 (.string s)).set 1 (.int .i64 n)).set 2 (.slice a7 (L.length + 1) c7))
    have c0 := hM.cell 0 rfl
    have c1 := hM.cell 1 rfl
    have c2 := hM.cell 2 rfl
    have d0 := hY.cell 0 rfl
    have d1 := hY.cell 1 rfl
    have d2 := hY.cell 2 rfl
    have l0 := hy1.cell 0 rfl
    have l1 := hy1.cell 1 rfl
    have l2 := hy1.cell 2 rfl
    have z0 := hR.cell 0 rfl
    have z1 := hR.cell 1 rfl
    have z2 := hR.cell 2 rfl
    have f0 := hR.free 0
    have f1 := hR.free 1
    have f2 := hR.free 2
    have y0 := hq1.cell 0 rfl
    have y1 := hq1.cell 1 rfl
    have y2 := hq1.cell 2 rfl
    have g0 := hq1.free 0
    have g1 := hq1.free 1
    have g2 := hq1.free 2
    have ha := hN.apartRow hR (by decide)
    have hb := hN.apartRow hQ (by decide)
    have hc := hX.apartRow hR (by decide)
    have hd := hX.apartRow hQ (by decide)
    have HNF := Lib.hid (((((((hN.setOther (w.heap.size) 0 (.string s) ha).setOther (w.heap.size) 1 (.int .i64 n) ha).setOther (w.heap.size) 2 (.slice av L.length cv) ha).setOther (w.heap.size + 1) 0 (.string s) hb).setOther (w.heap.size + 1) 1 (.int .i64 n) hb).setOther (w.heap.size + 1) 2 (.slice a7 (L.length + 1) c7) hb).lower (B' := w.heap.size) (by omega))
    have HXF := Lib.hid (((((((hX.setOther (w.heap.size) 0 (.string s) hc).setOther (w.heap.size) 1 (.int .i64 n) hc).setOther (w.heap.size) 2 (.slice av L.length cv) hc).setOther (w.heap.size + 1) 0 (.string s) hd).setOther (w.heap.size + 1) 1 (.int .i64 n) hd).setOther (w.heap.size + 1) 2 (.slice a7 (L.length + 1) c7) hd).lower (B' := w.heap.size) (by omega))
    have HBF := Lib.hid ((((((hB.setCell (p := ⟨w.heap.size, 0, none⟩) (by show w.heap.size ≤ w.heap.size; omega) (.string s)).setCell (p := ⟨w.heap.size, 1, none⟩) (by show w.heap.size ≤ w.heap.size; omega) (.int .i64 n)).setCell (p := ⟨w.heap.size, 2, none⟩) (by show w.heap.size ≤ w.heap.size; omega) (.slice av L.length cv)).setCell (p := ⟨w.heap.size + 1, 0, none⟩) (by show w.heap.size ≤ w.heap.size + 1; omega) (.string s)).setCell (p := ⟨w.heap.size + 1, 1, none⟩) (by show w.heap.size ≤ w.heap.size + 1; omega) (.int .i64 n)).setCell (p := ⟨w.heap.size + 1, 2, none⟩) (by show w.heap.size ≤ w.heap.size + 1; omega) (.slice a7 (L.length + 1) c7))
    clear hm1 hy1 hr1 hq1 ha hb hc hd hR hQ hM hY hN hX hB HR8 HQ8 HM8 HY8 HN8 HX8 HB8
    go_region
    go_wp2
    try simp only [Exit.inBlock, Exit.then]
    exact bodyPost_ret (results_rows2 rfl _ _ (w.heap.size) (w.heap.size + 1) 26 _ _ (0, 0) (0, 0) _ rfl (hr2.out.drewN 1) rfl (hq2.out.drewN 1) Try.underlying26 rfl (by kernel_rfl) (by kernel_rfl)) rfl ⟨s, _, n, _, _, L, L ++ [[49]], rfl, HNF.out.drewN 1, HXF.out.drewN 1, by omega, by simp; omega, below_drewN HBF.out 1⟩
  · have q0 : ((x : Int) == 0) = false := by rw [beq_eq_false_iff_ne]; omega
    have q1 : ((x : Int) == 1) = false := by rw [beq_eq_false_iff_ne]; omega
    go_wp2_with fail
    obtain ⟨w8, hw8⟩ : ∃ w8, w5 = w8 := ⟨_, rfl⟩
    rw [hw8] at HR5 HQ5 HM5 HY5 HN5 HX5 HB5
    rw [hw8]
    have HR8 := HR5; have HQ8 := HQ5; have HM8 := HM5; have HY8 := HY5; have HN8 := HN5; have HX8 := HX5; have HB8 := HB5
    clear HR5 HQ5 HM5 HY5 HN5 HX5 HB5 hw8
    have hR := HR8.out
    have hQ := HQ8.out
    have hM := HM8.out
    have hY := HY8.out
    have hN := HN8.out
    have hX := HX8.out
    have hB := HB8.out
    have hm1 := (((hM.other ⟨w.heap.size, 0, none⟩ (.string s) (by show mb ≠ w.heap.size; omega)).other ⟨w.heap.size, 1, none⟩ (.int .i64 n) (by show mb ≠ w.heap.size; omega)).other ⟨w.heap.size, 2, none⟩ (.slice av L.length cv) (by show mb ≠ w.heap.size; omega))
    have hy1 := (((hY.other ⟨w.heap.size, 0, none⟩ (.string s) (by show xb ≠ w.heap.size; omega)).other ⟨w.heap.size, 1, none⟩ (.int .i64 n) (by show xb ≠ w.heap.size; omega)).other ⟨w.heap.size, 2, none⟩ (.slice av L.length cv) (by show xb ≠ w.heap.size; omega))
    have hr1 := (((hR.set 0 (.string s)).set 1 (.int .i64 n)).set 2 (.slice av L.length cv))
    have hr2 := Lib.hid (((hr1.other ⟨w.heap.size + 1, 0, none⟩ (.string s) (by show w.heap.size ≠ w.heap.size + 1; omega)).other ⟨w.heap.size + 1, 1, none⟩ (.int .i64 n) (by show w.heap.size ≠ w.heap.size + 1; omega)).other ⟨w.heap.size + 1, 2, none⟩ (.slice ax L.length cx) (by show w.heap.size ≠ w.heap.size + 1; omega))
    have hq1 := (((hQ.other ⟨w.heap.size, 0, none⟩ (.string s) (by show w.heap.size + 1 ≠ w.heap.size; omega)).other ⟨w.heap.size, 1, none⟩ (.int .i64 n) (by show w.heap.size + 1 ≠ w.heap.size; omega)).other ⟨w.heap.size, 2, none⟩ (.slice av L.length cv) (by show w.heap.size + 1 ≠ w.heap.size; omega))
    have hq2 := Lib.hid (((hq1.set 0 (.string s)).set 1 (.int .i64 n)).set 2 (.slice ax L.length cx))
    have c0 := hM.cell 0 rfl
    have c1 := hM.cell 1 rfl
    have c2 := hM.cell 2 rfl
    have d0 := hY.cell 0 rfl
    have d1 := hY.cell 1 rfl
    have d2 := hY.cell 2 rfl
    have l0 := hy1.cell 0 rfl
    have l1 := hy1.cell 1 rfl
    have l2 := hy1.cell 2 rfl
    have z0 := hR.cell 0 rfl
    have z1 := hR.cell 1 rfl
    have z2 := hR.cell 2 rfl
    have f0 := hR.free 0
    have f1 := hR.free 1
    have f2 := hR.free 2
    have y0 := hq1.cell 0 rfl
    have y1 := hq1.cell 1 rfl
    have y2 := hq1.cell 2 rfl
    have g0 := hq1.free 0
    have g1 := hq1.free 1
    have g2 := hq1.free 2
    have ha := hN.apartRow hR (by decide)
    have hb := hN.apartRow hQ (by decide)
    have hc := hX.apartRow hR (by decide)
    have hd := hX.apartRow hQ (by decide)
    have HNF := Lib.hid (((((((hN.setOther (w.heap.size) 0 (.string s) ha).setOther (w.heap.size) 1 (.int .i64 n) ha).setOther (w.heap.size) 2 (.slice av L.length cv) ha).setOther (w.heap.size + 1) 0 (.string s) hb).setOther (w.heap.size + 1) 1 (.int .i64 n) hb).setOther (w.heap.size + 1) 2 (.slice ax L.length cx) hb).lower (B' := w.heap.size) (by omega))
    have HXF := Lib.hid (((((((hX.setOther (w.heap.size) 0 (.string s) hc).setOther (w.heap.size) 1 (.int .i64 n) hc).setOther (w.heap.size) 2 (.slice av L.length cv) hc).setOther (w.heap.size + 1) 0 (.string s) hd).setOther (w.heap.size + 1) 1 (.int .i64 n) hd).setOther (w.heap.size + 1) 2 (.slice ax L.length cx) hd).lower (B' := w.heap.size) (by omega))
    have HBF := Lib.hid ((((((hB.setCell (p := ⟨w.heap.size, 0, none⟩) (by show w.heap.size ≤ w.heap.size; omega) (.string s)).setCell (p := ⟨w.heap.size, 1, none⟩) (by show w.heap.size ≤ w.heap.size; omega) (.int .i64 n)).setCell (p := ⟨w.heap.size, 2, none⟩) (by show w.heap.size ≤ w.heap.size; omega) (.slice av L.length cv)).setCell (p := ⟨w.heap.size + 1, 0, none⟩) (by show w.heap.size ≤ w.heap.size + 1; omega) (.string s)).setCell (p := ⟨w.heap.size + 1, 1, none⟩) (by show w.heap.size ≤ w.heap.size + 1; omega) (.int .i64 n)).setCell (p := ⟨w.heap.size + 1, 2, none⟩) (by show w.heap.size ≤ w.heap.size + 1; omega) (.slice ax L.length cx))
    clear hm1 hy1 hr1 hq1 ha hb hc hd hR hQ hM hY hN hX hB HR8 HQ8 HM8 HY8 HN8 HX8 HB8
    go_region
    go_wp2
    try simp only [Exit.inBlock, Exit.then]
    exact bodyPost_ret (results_rows2 rfl _ _ (w.heap.size) (w.heap.size + 1) 26 _ _ (0, 0) (0, 0) _ rfl (hr2.out.drewN 1) rfl (hq2.out.drewN 1) Try.underlying26 rfl (by kernel_rfl) (by kernel_rfl)) rfl ⟨s, _, n, _, _, L, L, rfl, HNF.out.drewN 1, HXF.out.drewN 1, by omega, by omega, below_drewN HBF.out 1⟩
end Go.Proofs.Ytfocnflnpabmkaa
