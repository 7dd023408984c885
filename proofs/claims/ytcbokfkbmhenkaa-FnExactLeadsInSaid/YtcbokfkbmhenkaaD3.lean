/- The laws FnExactGoodMethod, LeadHead, LeadsIn. -/
import Derived.Test.YtcbokfkbmhenkaaD2
import Derived.Deep.RegionHeld3
namespace Go.Proofs.Ytcbokfkbmhenkaa
open Go.RowKit
set_option linter.unusedSimpArgs false
set_option linter.unusedVariables false
set_option maxRecDepth 100000 in
set_option maxHeartbeats 1000000 in
theorem lawGoodMethod (s : ByteArray) (n : Int) (v : Value) (ss : List ByteArray) (W : World) (hsz : s.size ≤ maxLen) (hA : Arg W v ss) (hy : ss.length ≤ maxLen ∧ ∀ t ∈ ss, t.size ≤ maxLen) :
    Calls Try.prog 5 #[.agg #[.string s, .int .i64 n, v]] W fun e w' => e = .returned (.bool true) ∧ Below W.heap.size W w' := by
  obtain ⟨a, cap, rfl, -⟩ := id hA
  have HB : Hid (s.size ≤ 1048576 → ss.length ≤ 1048576 → (∀ t ∈ ss, t.size ≤ 1048576) → _) := Lib.hid (fun h1 h2 h3 => bothGoodMethod s (by simp only [maxLen]; omega) n (letss ss) (by rw [letss_len]; omega) (small_letss hy.2))
  have HSZ : Hid (∀ w, Arg w (.slice a ss.length cap) ss → Calls Try.prog 44 #[.agg #[.string s, .int .i64 n, .slice a ss.length cap], .int .i64 1048576] w _) := Lib.hid (fun w h => szMethod_any s hsz n (.slice a ss.length cap) ss w h hy.1 hy.2 1048576 (by omega) (by omega))
  have HTO : Hid (ss.length ≤ 1048576 → ∀ w, Arg w (.slice a ss.length cap) ss → Calls Try.prog 46 #[.agg #[.string s, .int .i64 n, .slice a ss.length cap]] w (MethOut s n (letss ss) w)) := Lib.hid (fun h2 w h => toMethod_any s n (.slice a ss.length cap) ss w h (by omega))
  have HLL := Lib.hid (letss_len ss)
  have HA := Lib.hid hA
  have HSS : Hid (ss.length = ss.length) := Lib.hid rfl
  have HR0 := Lib.hid (RowAt.new W 52 #[.string s, .int .i64 n, .slice a ss.length cap])
  have HB0 := Lib.hid ((Below.refl _ W).alloc (Nat.le_refl _) (.cells #[.string s, .int .i64 n, .slice a ss.length cap] 52))
  unfold MethOut at HTO
  generalize letss ss = L at *
  generalize hm : ss.length = m at *
  have HMM := Lib.hid hm
  clear hA hy hsz hm
  go_enter Try.func5, Try.ntmps5
  go_wp2_with (first | (refine wpList_load_row rfl 52 _ rfl _ rfl 52 _ _ _ (HR0.out) Try.underlying52 rfl (by kernel_rfl) ?_) | fail)
  refine (HSZ.out _ (HA.out.kept HB0.out)).mono ?_
  rintro e w1 ⟨z, rfl, hz0, hz1, hz2, hb1⟩
  have HR1 := Lib.hid (HR0.out.kept hb1)
  have HB1 := Lib.hid (HB0.out.trans (hb1.mono HB0.out.size))
  clear HR0 HB0 hb1 HSZ
  by_cases hneg : z < 0
  · clear hz2
    go_wp2
    go_ret
    exact ⟨rfl, HB1.out⟩
  have hz3 := hz2 (by omega)
  obtain ⟨hs1, hs2, hs3⟩ := hz3
  have hm2 : m ≤ 1048576 := by omega
  have HTO2 := Lib.hid (HTO.out hm2)
  have hboth := HB.out (by omega) (by omega) (fun t ht => by have := hs3 t ht; omega)
  clear HB HTO hz2 hs1 hs2 hs3
  obtain ⟨res, hI, hS⟩ := hboth
  have HI := Lib.hid hI
  have HS := Lib.hid hS
  clear hI hS
  go_wp2_with (first | (refine wpList_load_row rfl 52 _ rfl _ rfl 52 _ _ _ (HR1.out) Try.underlying52 rfl (by kernel_rfl) ?_) | fail)
  refine (HTO2.out _ (HA.out.kept HB1.out)).mono ?_
  rintro e w2 ⟨v2, rfl, hn2, hb2⟩
  have HR2 := Lib.hid (HR1.out.kept hb2)
  have HB2 := Lib.hid (HB1.out.trans (hb2.mono HB1.out.size))
  have HT2 := Lib.hid hn2.own.txts
  clear HR1 HB1 hn2 hb2
  go_wp2_with fail
  refine (HS.out _ _ HT2.out).mono ?_
  rintro e w3 ⟨rfl, hb3⟩
  have HR3 := Lib.hid (HR2.out.kept hb3)
  have HB3 := Lib.hid (HB2.out.trans (hb3.mono HB2.out.size))
  clear HR2 HB2 hb3 HT2
  go_wp2_with (first | (refine wpList_load_row rfl 52 _ rfl _ rfl 52 _ _ _ (HR3.out) Try.underlying52 rfl (by kernel_rfl) ?_) | fail)
  refine (HTO2.out _ (HA.out.kept HB3.out)).mono ?_
  rintro e w4 ⟨v4, rfl, hn4, hb4⟩
  have HR4 := Lib.hid (HR3.out.kept hb4)
  have HB4 := Lib.hid (HB3.out.trans (hb4.mono HB3.out.size))
  have HN4 := Lib.hid (hn4.lower HB3.out.size)
  obtain ⟨a4, k4, rfl, -⟩ := hn4.own.view
  rw [strs_len, HLL.out] at HN4 ⊢
  clear HR3 HB3 hn4 hb4
  go_wp2_with (first | (refine wpList_store_row rfl 26 _ _ rfl _ _ rfl rfl 26 _ (heap_alloc_new _ _) (by kernel_rfl) rfl (by kernel_rfl) ?_; rw [World.setRow_alloc_new]) | fail)
  have HX5 := Lib.hid (RowAt.new w4 26 #[.string s, .int .i64 n, .slice a4 m k4])
  have HR5 := Lib.hid (HR4.out.push (.cells #[.string s, .int .i64 n, .slice a4 m k4] 26))
  have HB5 := Lib.hid (HB4.out.alloc HB4.out.size (.cells #[.string s, .int .i64 n, .slice a4 m k4] 26))
  have HN5 := Lib.hid (HN4.out.kept ((Below.refl _ _).alloc (Nat.le_refl _) (.cells #[.string s, .int .i64 n, .slice a4 m k4] 26)))
  clear HR4 HB4 HN4
  refine (HI.out _ _ HN5.out.own.txts).mono ?_
  rintro e w6 ⟨rfl, hb6⟩
  have HX6 := Lib.hid (HX5.out.kept hb6)
  have HR6 := Lib.hid (HR5.out.kept hb6)
  have HB6 := Lib.hid (HB5.out.trans (hb6.mono HB5.out.size))
  have HN6 := Lib.hid (HN5.out.kept hb6)
  clear HX5 HR5 HB5 HN5 hb6
  go_wp2
  have hltx := HX6.out.lt
  have hltr := HR6.out.lt
  have HX6A : Hid (∀ W', Below w6.heap.size w6 W' → (W'.cell? ⟨w4.heap.size, 0, none⟩ = some (.string s) ∧ W'.cell? ⟨w4.heap.size, 1, none⟩ = some (.int .i64 n) ∧ W'.cell? ⟨w4.heap.size, 2, none⟩ = some (.slice a4 m k4) ∧ W'.cell? ⟨W.heap.size, 0, none⟩ = some (.string s) ∧ W'.cell? ⟨W.heap.size, 1, none⟩ = some (.int .i64 n) ∧ W'.cell? ⟨W.heap.size, 2, none⟩ = some (.slice a m cap) ∧ Below w6.heap.size w6 W')) := Lib.hid (fun W' h => by
    have hx := HX6.out.keep h hltx
    have hr := HR6.out.keep h hltr
    exact ⟨hx.cell 0 rfl, hx.cell 1 rfl, hx.cell 2 rfl, hr.cell 0 rfl, hr.cell 1 rfl, hr.cell 2 rfl, h⟩)
  have HTO7 : Hid (∀ W', Below w6.heap.size w6 W' → Calls Try.prog 46 #[.agg #[.string s, .int .i64 n, .slice a m cap]] W' fun e w' => (∃ a7 k7, e = .returned (.agg #[.string s, .int .i64 n, .slice a7 m k7]) ∧ Own w' 9 (.slice a7 m k7) (strs L)) ∧ Below w6.heap.size w6 w') := Lib.hid (fun W' h => (HTO2.out W' (HA.out.kept (HB6.out.trans (h.mono HB6.out.size)))).mono fun e w' hw => by
    obtain ⟨v7, rfl, hn7, hb7⟩ := hw
    obtain ⟨a7, k7, rfl, -⟩ := hn7.own.view
    have ho := hn7.own
    rw [strs_len, HLL.out] at ho ⊢
    exact ⟨⟨a7, k7, rfl, ho⟩, h.trans (hb7.mono h.size)⟩)
  have HEQ7 : Hid (∀ W' a7 k7, Below w6.heap.size w6 W' → Own W' 9 (.slice a7 m k7) (strs L) → Calls Try.prog 48 #[.agg #[.string s, .int .i64 n, .slice a4 m k4], .agg #[.string s, .int .i64 n, .slice a7 m k7]] W' fun e w' => e = .returned (.bool true) ∧ Below w6.heap.size w6 w') := Lib.hid (fun W' a7 k7 h ho => (eqMethod_same s n _ _ L W' (HN6.out.kept h).own ho (by rw [HLL.out]; omega)).mono fun e w' hw => ⟨hw.1, h.trans (hw.2.mono h.size)⟩)
  clear hltx hltr
  go_region_held3 (fun w' => w'.cell? ⟨w4.heap.size, 0, none⟩ = some (.string s) ∧ w'.cell? ⟨w4.heap.size, 1, none⟩ = some (.int .i64 n) ∧ w'.cell? ⟨w4.heap.size, 2, none⟩ = some (.slice a4 m k4) ∧ w'.cell? ⟨W.heap.size, 0, none⟩ = some (.string s) ∧ w'.cell? ⟨W.heap.size, 1, none⟩ = some (.int .i64 n) ∧ w'.cell? ⟨W.heap.size, 2, none⟩ = some (.slice a m cap) ∧ Below w6.heap.size w6 w') (first | assumption | exact HX6A.out _ (Below.refl _ _).drew) (first | (go_at_call 46; refine (HTO7.out _ (by first | exact (Below.refl _ _).drew | exact Below.refl _ _)).mono ?_; rintro e7 w7 ⟨⟨a7, k7, rfl, ho7⟩, hb7⟩; have hS7 := HX6A.out _ hb7) | (go_at_call 48; refine (HEQ7.out _ _ _ hb7 ho7).mono ?_; rintro e8 w8 ⟨rfl, hb8⟩; have hS8 := HX6A.out _ hb8) | fail)
  go_wp2
  go_ret
  exact ⟨rfl, HB6.out.trans (hS8.2.2.2.2.2.2.mono HB6.out.size)⟩

set_option maxRecDepth 100000 in
set_option maxHeartbeats 1000000 in
theorem lawLeadHead (s : ByteArray) (n : Int) (v : Value) (ss : List ByteArray) (W : World) (hsz : s.size ≤ maxLen) (hA : Arg W v ss) (hy : ss.length ≤ maxLen ∧ ∀ t ∈ ss, t.size ≤ maxLen) :
    Calls Try.prog 6 #[.agg #[.string s, .int .i64 n, v]] W fun e w' => e = .returned (.bool true) ∧ Below W.heap.size W w' := by
  obtain ⟨a, cap, rfl, -⟩ := id hA
  have HB : Hid (s.size ≤ 1048576 → ss.length ≤ 1048576 → (∀ t ∈ ss, t.size ≤ 1048576) → _) := Lib.hid (fun h1 h2 h3 => bothLeadHead s (by simp only [maxLen]; omega) n (letss ss) (by rw [letss_len]; omega) (small_letss hy.2))
  have HSZ : Hid (∀ w, Arg w (.slice a ss.length cap) ss → Calls Try.prog 44 #[.agg #[.string s, .int .i64 n, .slice a ss.length cap], .int .i64 1048576] w _) := Lib.hid (fun w h => szMethod_any s hsz n (.slice a ss.length cap) ss w h hy.1 hy.2 1048576 (by omega) (by omega))
  have HTO : Hid (ss.length ≤ 1048576 → ∀ w, Arg w (.slice a ss.length cap) ss → Calls Try.prog 46 #[.agg #[.string s, .int .i64 n, .slice a ss.length cap]] w (MethOut s n (letss ss) w)) := Lib.hid (fun h2 w h => toMethod_any s n (.slice a ss.length cap) ss w h (by omega))
  have HLL := Lib.hid (letss_len ss)
  have HA := Lib.hid hA
  have HSS : Hid (ss.length = ss.length) := Lib.hid rfl
  have HR0 := Lib.hid (RowAt.new W 52 #[.string s, .int .i64 n, .slice a ss.length cap])
  have HB0 := Lib.hid ((Below.refl _ W).alloc (Nat.le_refl _) (.cells #[.string s, .int .i64 n, .slice a ss.length cap] 52))
  unfold MethOut at HTO
  generalize letss ss = L at *
  generalize hm : ss.length = m at *
  have HMM := Lib.hid hm
  clear hA hy hsz hm
  go_enter Try.func6, Try.ntmps6
  go_wp2_with (first | (refine wpList_load_row rfl 52 _ rfl _ rfl 52 _ _ _ (HR0.out) Try.underlying52 rfl (by kernel_rfl) ?_) | fail)
  refine (HSZ.out _ (HA.out.kept HB0.out)).mono ?_
  rintro e w1 ⟨z, rfl, hz0, hz1, hz2, hb1⟩
  have HR1 := Lib.hid (HR0.out.kept hb1)
  have HB1 := Lib.hid (HB0.out.trans (hb1.mono HB0.out.size))
  clear HR0 HB0 hb1 HSZ
  by_cases hneg : z < 0
  · clear hz2
    go_wp2
    go_ret
    exact ⟨rfl, HB1.out⟩
  have hz3 := hz2 (by omega)
  obtain ⟨hs1, hs2, hs3⟩ := hz3
  have hm2 : m ≤ 1048576 := by omega
  have HTO2 := Lib.hid (HTO.out hm2)
  have hboth := HB.out (by omega) (by omega) (fun t ht => by have := hs3 t ht; omega)
  clear HB HTO hz2 hs1 hs2 hs3
  obtain ⟨res, flag, hI, hS⟩ := hboth
  have HI := Lib.hid hI
  have HS := Lib.hid hS
  clear hI hS
  go_wp2_with (first | (refine wpList_load_row rfl 52 _ rfl _ rfl 52 _ _ _ (HR1.out) Try.underlying52 rfl (by kernel_rfl) ?_) | fail)
  refine (HTO2.out _ (HA.out.kept HB1.out)).mono ?_
  rintro e w2 ⟨v2, rfl, hn2, hb2⟩
  have HR2 := Lib.hid (HR1.out.kept hb2)
  have HB2 := Lib.hid (HB1.out.trans (hb2.mono HB1.out.size))
  have HT2 := Lib.hid hn2.own.txts
  clear HR1 HB1 hn2 hb2
  go_wp2_with fail
  refine (HS.out _ _ HT2.out).mono ?_
  rintro e w3 ⟨rfl, hb3⟩
  have HR3 := Lib.hid (HR2.out.kept hb3)
  have HB3 := Lib.hid (HB2.out.trans (hb3.mono HB2.out.size))
  clear HR2 HB2 hb3 HT2
  go_wp2_with (first | (refine wpList_load_row rfl 52 _ rfl _ rfl 52 _ _ _ (HR3.out) Try.underlying52 rfl (by kernel_rfl) ?_) | fail)
  refine (HTO2.out _ (HA.out.kept HB3.out)).mono ?_
  rintro e w4 ⟨v4, rfl, hn4, hb4⟩
  have HR4 := Lib.hid (HR3.out.kept hb4)
  have HB4 := Lib.hid (HB3.out.trans (hb4.mono HB3.out.size))
  have HN4 := Lib.hid (hn4.lower HB3.out.size)
  obtain ⟨a4, k4, rfl, -⟩ := hn4.own.view
  rw [strs_len, HLL.out] at HN4 ⊢
  clear HR3 HB3 hn4 hb4
  go_wp2_with (first | (refine wpList_store_row rfl 26 _ _ rfl _ _ rfl rfl 26 _ (heap_alloc_new _ _) (by kernel_rfl) rfl (by kernel_rfl) ?_; rw [World.setRow_alloc_new]) | fail)
  have HX5 := Lib.hid (RowAt.new w4 26 #[.string s, .int .i64 n, .slice a4 m k4])
  have HR5 := Lib.hid (HR4.out.push (.cells #[.string s, .int .i64 n, .slice a4 m k4] 26))
  have HB5 := Lib.hid (HB4.out.alloc HB4.out.size (.cells #[.string s, .int .i64 n, .slice a4 m k4] 26))
  have HN5 := Lib.hid (HN4.out.kept ((Below.refl _ _).alloc (Nat.le_refl _) (.cells #[.string s, .int .i64 n, .slice a4 m k4] 26)))
  clear HR4 HB4 HN4
  refine (HI.out _ _ HN5.out.own.txts).mono ?_
  rintro e w6 ⟨rfl, hb6⟩
  have HX6 := Lib.hid (HX5.out.kept hb6)
  have HR6 := Lib.hid (HR5.out.kept hb6)
  have HB6 := Lib.hid (HB5.out.trans (hb6.mono HB5.out.size))
  have HN6 := Lib.hid (HN5.out.kept hb6)
  clear HX5 HR5 HB5 HN5 hb6
  go_wp2
  have hltx := HX6.out.lt
  have hltr := HR6.out.lt
  have HX6A : Hid (∀ W', Below w6.heap.size w6 W' → (W'.cell? ⟨w4.heap.size, 0, none⟩ = some (.string s) ∧ W'.cell? ⟨w4.heap.size, 1, none⟩ = some (.int .i64 n) ∧ W'.cell? ⟨w4.heap.size, 2, none⟩ = some (.slice a4 m k4) ∧ W'.cell? ⟨W.heap.size, 0, none⟩ = some (.string s) ∧ W'.cell? ⟨W.heap.size, 1, none⟩ = some (.int .i64 n) ∧ W'.cell? ⟨W.heap.size, 2, none⟩ = some (.slice a m cap) ∧ Below w6.heap.size w6 W')) := Lib.hid (fun W' h => by
    have hx := HX6.out.keep h hltx
    have hr := HR6.out.keep h hltr
    exact ⟨hx.cell 0 rfl, hx.cell 1 rfl, hx.cell 2 rfl, hr.cell 0 rfl, hr.cell 1 rfl, hr.cell 2 rfl, h⟩)
  have HTO7 : Hid (∀ W', Below w6.heap.size w6 W' → Calls Try.prog 46 #[.agg #[.string s, .int .i64 n, .slice a m cap]] W' fun e w' => (∃ a7 k7, e = .returned (.agg #[.string s, .int .i64 n, .slice a7 m k7]) ∧ Own w' 9 (.slice a7 m k7) (strs L)) ∧ Below w6.heap.size w6 w') := Lib.hid (fun W' h => (HTO2.out W' (HA.out.kept (HB6.out.trans (h.mono HB6.out.size)))).mono fun e w' hw => by
    obtain ⟨v7, rfl, hn7, hb7⟩ := hw
    obtain ⟨a7, k7, rfl, -⟩ := hn7.own.view
    have ho := hn7.own
    rw [strs_len, HLL.out] at ho ⊢
    exact ⟨⟨a7, k7, rfl, ho⟩, h.trans (hb7.mono h.size)⟩)
  have HEQ7 : Hid (∀ W' a7 k7, Below w6.heap.size w6 W' → Own W' 9 (.slice a7 m k7) (strs L) → Calls Try.prog 48 #[.agg #[.string s, .int .i64 n, .slice a4 m k4], .agg #[.string s, .int .i64 n, .slice a7 m k7]] W' fun e w' => e = .returned (.bool true) ∧ Below w6.heap.size w6 w') := Lib.hid (fun W' a7 k7 h ho => (eqMethod_same s n _ _ L W' (HN6.out.kept h).own ho (by rw [HLL.out]; omega)).mono fun e w' hw => ⟨hw.1, h.trans (hw.2.mono h.size)⟩)
  clear hltx hltr
  go_region_held3 (fun w' => w'.cell? ⟨w4.heap.size, 0, none⟩ = some (.string s) ∧ w'.cell? ⟨w4.heap.size, 1, none⟩ = some (.int .i64 n) ∧ w'.cell? ⟨w4.heap.size, 2, none⟩ = some (.slice a4 m k4) ∧ w'.cell? ⟨W.heap.size, 0, none⟩ = some (.string s) ∧ w'.cell? ⟨W.heap.size, 1, none⟩ = some (.int .i64 n) ∧ w'.cell? ⟨W.heap.size, 2, none⟩ = some (.slice a m cap) ∧ Below w6.heap.size w6 w') (first | assumption | exact HX6A.out _ (Below.refl _ _).drew) (first | (go_at_call 46; refine (HTO7.out _ (by first | exact (Below.refl _ _).drew | exact Below.refl _ _)).mono ?_; rintro e7 w7 ⟨⟨a7, k7, rfl, ho7⟩, hb7⟩; have hS7 := HX6A.out _ hb7) | (go_at_call 48; refine (HEQ7.out _ _ _ hb7 ho7).mono ?_; rintro e8 w8 ⟨rfl, hb8⟩; have hS8 := HX6A.out _ hb8) | fail)
  go_wp2
  go_ret
  exact ⟨rfl, HB6.out.trans (hS8.2.2.2.2.2.2.mono HB6.out.size)⟩

set_option maxRecDepth 100000 in
set_option maxHeartbeats 1000000 in
theorem lawLeadsIn (s : ByteArray) (n : Int) (v : Value) (ss : List ByteArray) (W : World) (hsz : s.size ≤ maxLen) (hA : Arg W v ss) (hy : ss.length ≤ maxLen ∧ ∀ t ∈ ss, t.size ≤ maxLen) :
    Calls Try.prog 8 #[.agg #[.string s, .int .i64 n, v]] W fun e w' => e = .returned (.bool true) ∧ Below W.heap.size W w' := by
  obtain ⟨a, cap, rfl, -⟩ := id hA
  have HB : Hid (s.size ≤ 1048576 → ss.length ≤ 1048576 → (∀ t ∈ ss, t.size ≤ 1048576) → _) := Lib.hid (fun h1 h2 h3 => bothLeadsIn s (by simp only [maxLen]; omega) n (letss ss) (by rw [letss_len]; omega) (small_letss hy.2))
  have HSZ : Hid (∀ w, Arg w (.slice a ss.length cap) ss → Calls Try.prog 44 #[.agg #[.string s, .int .i64 n, .slice a ss.length cap], .int .i64 1048576] w _) := Lib.hid (fun w h => szMethod_any s hsz n (.slice a ss.length cap) ss w h hy.1 hy.2 1048576 (by omega) (by omega))
  have HTO : Hid (ss.length ≤ 1048576 → ∀ w, Arg w (.slice a ss.length cap) ss → Calls Try.prog 46 #[.agg #[.string s, .int .i64 n, .slice a ss.length cap]] w (MethOut s n (letss ss) w)) := Lib.hid (fun h2 w h => toMethod_any s n (.slice a ss.length cap) ss w h (by omega))
  have HLL := Lib.hid (letss_len ss)
  have HA := Lib.hid hA
  have HSS : Hid (ss.length = ss.length) := Lib.hid rfl
  have HR0 := Lib.hid (RowAt.new W 52 #[.string s, .int .i64 n, .slice a ss.length cap])
  have HB0 := Lib.hid ((Below.refl _ W).alloc (Nat.le_refl _) (.cells #[.string s, .int .i64 n, .slice a ss.length cap] 52))
  unfold MethOut at HTO
  generalize letss ss = L at *
  generalize hm : ss.length = m at *
  have HMM := Lib.hid hm
  clear hA hy hsz hm
  go_enter Try.func8, Try.ntmps8
  go_wp2_with (first | (refine wpList_load_row rfl 52 _ rfl _ rfl 52 _ _ _ (HR0.out) Try.underlying52 rfl (by kernel_rfl) ?_) | fail)
  refine (HSZ.out _ (HA.out.kept HB0.out)).mono ?_
  rintro e w1 ⟨z, rfl, hz0, hz1, hz2, hb1⟩
  have HR1 := Lib.hid (HR0.out.kept hb1)
  have HB1 := Lib.hid (HB0.out.trans (hb1.mono HB0.out.size))
  clear HR0 HB0 hb1 HSZ
  by_cases hneg : z < 0
  · clear hz2
    go_wp2
    go_ret
    exact ⟨rfl, HB1.out⟩
  have hz3 := hz2 (by omega)
  obtain ⟨hs1, hs2, hs3⟩ := hz3
  have hm2 : m ≤ 1048576 := by omega
  have HTO2 := Lib.hid (HTO.out hm2)
  have hboth := HB.out (by omega) (by omega) (fun t ht => by have := hs3 t ht; omega)
  clear HB HTO hz2 hs1 hs2 hs3
  obtain ⟨res, flag, hI, hS⟩ := hboth
  have HI := Lib.hid hI
  have HS := Lib.hid hS
  clear hI hS
  go_wp2_with (first | (refine wpList_load_row rfl 52 _ rfl _ rfl 52 _ _ _ (HR1.out) Try.underlying52 rfl (by kernel_rfl) ?_) | fail)
  refine (HTO2.out _ (HA.out.kept HB1.out)).mono ?_
  rintro e w2 ⟨v2, rfl, hn2, hb2⟩
  have HR2 := Lib.hid (HR1.out.kept hb2)
  have HB2 := Lib.hid (HB1.out.trans (hb2.mono HB1.out.size))
  have HT2 := Lib.hid hn2.own.txts
  clear HR1 HB1 hn2 hb2
  go_wp2_with fail
  refine (HS.out _ _ HT2.out).mono ?_
  rintro e w3 ⟨rfl, hb3⟩
  have HR3 := Lib.hid (HR2.out.kept hb3)
  have HB3 := Lib.hid (HB2.out.trans (hb3.mono HB2.out.size))
  clear HR2 HB2 hb3 HT2
  go_wp2_with (first | (refine wpList_load_row rfl 52 _ rfl _ rfl 52 _ _ _ (HR3.out) Try.underlying52 rfl (by kernel_rfl) ?_) | fail)
  refine (HTO2.out _ (HA.out.kept HB3.out)).mono ?_
  rintro e w4 ⟨v4, rfl, hn4, hb4⟩
  have HR4 := Lib.hid (HR3.out.kept hb4)
  have HB4 := Lib.hid (HB3.out.trans (hb4.mono HB3.out.size))
  have HN4 := Lib.hid (hn4.lower HB3.out.size)
  obtain ⟨a4, k4, rfl, -⟩ := hn4.own.view
  rw [strs_len, HLL.out] at HN4 ⊢
  clear HR3 HB3 hn4 hb4
  go_wp2_with (first | (refine wpList_store_row rfl 26 _ _ rfl _ _ rfl rfl 26 _ (heap_alloc_new _ _) (by kernel_rfl) rfl (by kernel_rfl) ?_; rw [World.setRow_alloc_new]) | fail)
  have HX5 := Lib.hid (RowAt.new w4 26 #[.string s, .int .i64 n, .slice a4 m k4])
  have HR5 := Lib.hid (HR4.out.push (.cells #[.string s, .int .i64 n, .slice a4 m k4] 26))
  have HB5 := Lib.hid (HB4.out.alloc HB4.out.size (.cells #[.string s, .int .i64 n, .slice a4 m k4] 26))
  have HN5 := Lib.hid (HN4.out.kept ((Below.refl _ _).alloc (Nat.le_refl _) (.cells #[.string s, .int .i64 n, .slice a4 m k4] 26)))
  clear HR4 HB4 HN4
  refine (HI.out _ _ HN5.out.own.txts).mono ?_
  rintro e w6 ⟨rfl, hb6⟩
  have HX6 := Lib.hid (HX5.out.kept hb6)
  have HR6 := Lib.hid (HR5.out.kept hb6)
  have HB6 := Lib.hid (HB5.out.trans (hb6.mono HB5.out.size))
  have HN6 := Lib.hid (HN5.out.kept hb6)
  clear HX5 HR5 HB5 HN5 hb6
  go_wp2
  have hltx := HX6.out.lt
  have hltr := HR6.out.lt
  have HX6A : Hid (∀ W', Below w6.heap.size w6 W' → (W'.cell? ⟨w4.heap.size, 0, none⟩ = some (.string s) ∧ W'.cell? ⟨w4.heap.size, 1, none⟩ = some (.int .i64 n) ∧ W'.cell? ⟨w4.heap.size, 2, none⟩ = some (.slice a4 m k4) ∧ W'.cell? ⟨W.heap.size, 0, none⟩ = some (.string s) ∧ W'.cell? ⟨W.heap.size, 1, none⟩ = some (.int .i64 n) ∧ W'.cell? ⟨W.heap.size, 2, none⟩ = some (.slice a m cap) ∧ Below w6.heap.size w6 W')) := Lib.hid (fun W' h => by
    have hx := HX6.out.keep h hltx
    have hr := HR6.out.keep h hltr
    exact ⟨hx.cell 0 rfl, hx.cell 1 rfl, hx.cell 2 rfl, hr.cell 0 rfl, hr.cell 1 rfl, hr.cell 2 rfl, h⟩)
  have HTO7 : Hid (∀ W', Below w6.heap.size w6 W' → Calls Try.prog 46 #[.agg #[.string s, .int .i64 n, .slice a m cap]] W' fun e w' => (∃ a7 k7, e = .returned (.agg #[.string s, .int .i64 n, .slice a7 m k7]) ∧ Own w' 9 (.slice a7 m k7) (strs L)) ∧ Below w6.heap.size w6 w') := Lib.hid (fun W' h => (HTO2.out W' (HA.out.kept (HB6.out.trans (h.mono HB6.out.size)))).mono fun e w' hw => by
    obtain ⟨v7, rfl, hn7, hb7⟩ := hw
    obtain ⟨a7, k7, rfl, -⟩ := hn7.own.view
    have ho := hn7.own
    rw [strs_len, HLL.out] at ho ⊢
    exact ⟨⟨a7, k7, rfl, ho⟩, h.trans (hb7.mono h.size)⟩)
  have HEQ7 : Hid (∀ W' a7 k7, Below w6.heap.size w6 W' → Own W' 9 (.slice a7 m k7) (strs L) → Calls Try.prog 48 #[.agg #[.string s, .int .i64 n, .slice a4 m k4], .agg #[.string s, .int .i64 n, .slice a7 m k7]] W' fun e w' => e = .returned (.bool true) ∧ Below w6.heap.size w6 w') := Lib.hid (fun W' a7 k7 h ho => (eqMethod_same s n _ _ L W' (HN6.out.kept h).own ho (by rw [HLL.out]; omega)).mono fun e w' hw => ⟨hw.1, h.trans (hw.2.mono h.size)⟩)
  clear hltx hltr
  go_region_held3 (fun w' => w'.cell? ⟨w4.heap.size, 0, none⟩ = some (.string s) ∧ w'.cell? ⟨w4.heap.size, 1, none⟩ = some (.int .i64 n) ∧ w'.cell? ⟨w4.heap.size, 2, none⟩ = some (.slice a4 m k4) ∧ w'.cell? ⟨W.heap.size, 0, none⟩ = some (.string s) ∧ w'.cell? ⟨W.heap.size, 1, none⟩ = some (.int .i64 n) ∧ w'.cell? ⟨W.heap.size, 2, none⟩ = some (.slice a m cap) ∧ Below w6.heap.size w6 w') (first | assumption | exact HX6A.out _ (Below.refl _ _).drew) (first | (go_at_call 46; refine (HTO7.out _ (by first | exact (Below.refl _ _).drew | exact Below.refl _ _)).mono ?_; rintro e7 w7 ⟨⟨a7, k7, rfl, ho7⟩, hb7⟩; have hS7 := HX6A.out _ hb7) | (go_at_call 48; refine (HEQ7.out _ _ _ hb7 ho7).mono ?_; rintro e8 w8 ⟨rfl, hb8⟩; have hS8 := HX6A.out _ hb8) | fail)
  go_wp2
  go_ret
  exact ⟨rfl, HB6.out.trans (hS8.2.2.2.2.2.2.mono HB6.out.size)⟩

end Go.Proofs.Ytcbokfkbmhenkaa
