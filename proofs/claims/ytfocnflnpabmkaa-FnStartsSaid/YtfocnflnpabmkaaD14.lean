/- The law FnExactTurnMethod. -/
import Derived.Test.YtfocnflnpabmkaaD13
namespace Go.Proofs.Ytfocnflnpabmkaa
open Go.RowKit
set_option linter.unusedSimpArgs false
set_option linter.unusedVariables false

theorem bothTurnMethod (s : ByteArray) (hs : s.size ≤ maxLen) (n : Int) (L : List (List Nat)) (hl : L.length ≤ 2000000) (hsm : Small L) :
    ∃ (sp : ByteArray) (np : Int) (P : List (List Nat)) (b : Bool), P.length ≤ 1000 ∧ (∀ u w, Txts w u L → Calls Try.prog 28 #[.agg #[.string s, .int .i64 n, u]] w (MethAny sp np P b w)) ∧
      (∀ u w, Txts w u L → Calls Try.prog 29 #[.agg #[.string s, .int .i64 n, u]] w (MethAny sp np P b w)) := by
  cases hg : goodM s n L
  · exact ⟨_, _, [], _, by simp, fun u w h => iTurnMethod_no s hs n u L w h hl hg, fun u w h => sTurnMethod_no s hs n u L w h hl hsm hg⟩
  · refine ⟨_, _, _, _, ?_, fun u w h => iTurnMethod_yes s hs n u L w h hl hg, fun u w h => sTurnMethod_yes s hs n u L w h hl hsm hg⟩
    have := goodAll_len (goodM_parts hg).1
    simp
    omega

set_option maxRecDepth 100000 in
set_option maxHeartbeats 1000000 in
theorem lawTurnMethod (s : ByteArray) (n : Int) (v : Value) (ss : List ByteArray) (W : World) (hsz : s.size ≤ maxLen) (hA : Arg W v ss) (hy : ss.length ≤ maxLen ∧ ∀ t ∈ ss, t.size ≤ maxLen) :
    Calls Try.prog 14 #[.agg #[.string s, .int .i64 n, v]] W fun e w' => e = .returned (.bool true) ∧ Below W.heap.size W w' := by
  obtain ⟨a, cap, rfl, -⟩ := id hA
  have HB : Hid (s.size ≤ 1048576 → ss.length ≤ 1048576 → (∀ t ∈ ss, t.size ≤ 1048576) → _) := Lib.hid (fun h1 h2 h3 => bothTurnMethod s (by simp only [maxLen]; omega) n (letss ss) (by rw [letss_len]; omega) (small_letss hy.2))
  have HSZ : Hid (∀ w, Arg w (.slice a ss.length cap) ss → Calls Try.prog 44 #[.agg #[.string s, .int .i64 n, .slice a ss.length cap], .int .i64 1048576] w _) := Lib.hid (fun w h => szMethod_any s hsz n (.slice a ss.length cap) ss w h hy.1 hy.2 1048576 (by omega) (by omega))
  have HTO : Hid (ss.length ≤ 1048576 → ∀ w, Arg w (.slice a ss.length cap) ss → Calls Try.prog 46 #[.agg #[.string s, .int .i64 n, .slice a ss.length cap]] w (MethOut s n (letss ss) w)) := Lib.hid (fun h2 w h => toMethod_any s n (.slice a ss.length cap) ss w h (by omega))
  have HLL := Lib.hid (letss_len ss)
  have HA := Lib.hid hA
  have HSS : Hid (ss.length = ss.length) := Lib.hid rfl
  have HR0 := Lib.hid (RowAt.new W 52 #[.string s, .int .i64 n, .slice a ss.length cap])
  have HB0 := Lib.hid ((Below.refl _ W).alloc (Nat.le_refl _) (.cells #[.string s, .int .i64 n, .slice a ss.length cap] 52))
  unfold MethOut at HTO
  generalize letss ss = L at *
  generalize hm : ss.length = m at *
  have HMM := Lib.hid hm
  clear hA hy hsz hm
  go_enter Try.func14, Try.ntmps14
  go_wp2_with (first | (refine wpList_load_row rfl 52 _ rfl _ rfl 52 _ _ _ (HR0.out) Try.underlying52 rfl (by kernel_rfl) ?_) | fail)
  refine (HSZ.out _ (HA.out.kept HB0.out)).mono ?_
  rintro e w1 ⟨z, rfl, hz0, hz1, hz2, hb1⟩
  have HR1 := Lib.hid (HR0.out.kept hb1)
  have HB1 := Lib.hid (HB0.out.trans (hb1.mono HB0.out.size))
  clear HR0 HB0 hb1 HSZ
  by_cases hneg : z < 0
  · clear hz2
    go_wp2
    go_ret
    exact ⟨rfl, HB1.out⟩
  have hz3 := hz2 (by omega)
  obtain ⟨hs1, hs2, hs3⟩ := hz3
  have hm2 : m ≤ 1048576 := by omega
  have HTO2 := Lib.hid (HTO.out hm2)
  have hboth := HB.out (by omega) (by omega) (fun t ht => by have := hs3 t ht; omega)
  clear HB HTO hz2 hs1 hs2 hs3
  obtain ⟨sp, np, P, flag, hpl, hI, hS⟩ := hboth
  have HI := Lib.hid hI
  have HS := Lib.hid hS
  clear hI hS
  obtain ⟨p, hp⟩ : ∃ p, P.length = p := ⟨_, rfl⟩
  rw [hp] at hpl
  have HPL := Lib.hid hp
  clear hp
  unfold MethAny at HI HS
  go_wp2_with (first | (refine wpList_load_row rfl 52 _ rfl _ rfl 52 _ _ _ (HR1.out) Try.underlying52 rfl (by kernel_rfl) ?_) | fail)
  refine (HTO2.out _ (HA.out.kept HB1.out)).mono ?_
  rintro e w2 ⟨v2, rfl, hn2, hb2⟩
  have HR2 := Lib.hid (HR1.out.kept hb2)
  have HB2 := Lib.hid (HB1.out.trans (hb2.mono HB1.out.size))
  have HT2 := Lib.hid hn2.own.txts
  clear HR1 HB1 hn2 hb2
  go_wp2_with fail
  refine (HS.out _ _ HT2.out).mono ?_
  rintro e w3 ⟨v3, rfl, hn3, hb3⟩
  have HR3 := Lib.hid (HR2.out.kept hb3)
  have HB3 := Lib.hid (HB2.out.trans (hb3.mono HB2.out.size))
  have HP3 := Lib.hid hn3.own
  have HLT3 := Lib.hid hn3.own.lt
  obtain ⟨a3, k3, rfl, -⟩ := hn3.own.view
  rw [strs_len, HPL.out] at HP3 HLT3 ⊢
  clear HR2 HB2 hb3 HT2 hn3
  have HR3a := Lib.hid (HR3.out.push (.cells #[.string sp, .int .i64 np, .slice a3 p k3] 26))
  have HB3a := Lib.hid (HB3.out.alloc HB3.out.size (.cells #[.string sp, .int .i64 np, .slice a3 p k3] 26))
  have HP3a := Lib.hid (HP3.out.kept ((Below.refl _ _).alloc (Nat.le_refl _) (.cells #[.string sp, .int .i64 np, .slice a3 p k3] 26)))
  have HY3a := Lib.hid (RowAt.new w3 26 #[.string sp, .int .i64 np, .slice a3 p k3])
  clear HR3 HB3 HP3
  go_wp2_with (first | (refine wpList_store_row rfl 26 _ _ rfl _ _ rfl rfl 26 _ (heap_alloc_new _ _) (by kernel_rfl) rfl (by kernel_rfl) ?_; rw [World.setRow_alloc_new]) | (refine wpList_load_row rfl 52 _ rfl _ rfl 52 _ _ _ (HR3a.out) Try.underlying52 rfl (by kernel_rfl) ?_) | fail)
  generalize hw3 : w3.alloc (.cells #[.string sp, .int .i64 np, .slice a3 p k3] 26) = w3a at *
  have HLT3a : Hid (∀ g, (Value.slice a3 p k3).ownBlock = some g → g < w3a.heap.size) := Lib.hid (fun g hg => HP3a.out.lt g hg)
  have HY3lt := Lib.hid HY3a.out.lt
  have HR3lt := Lib.hid HR3a.out.lt
  have HB3s := Lib.hid HB3a.out.size
  clear hw3 HLT3
  refine (HTO2.out _ (HA.out.kept HB3a.out)).mono ?_
  rintro e w4 ⟨v4, rfl, hn4, hb4⟩
  have HP4 := Lib.hid (HP3a.out.kept hb4)
  have HY4 := Lib.hid (HY3a.out.kept hb4)
  have HW4 := Lib.hid hb4.size
  have HR4 := Lib.hid (HR3a.out.kept hb4)
  have HB4 := Lib.hid (HB3a.out.trans (hb4.mono HB3a.out.size))
  have HN4 := Lib.hid hn4
  obtain ⟨a4, k4, rfl, -⟩ := hn4.own.view
  rw [strs_len, HLL.out] at HN4 ⊢
  clear HR3a HB3a hn4 hb4 HP3a HY3a
  have HX5 := Lib.hid (RowAt.new w4 26 #[.string s, .int .i64 n, .slice a4 m k4])
  have HR5 := Lib.hid (HR4.out.push (.cells #[.string s, .int .i64 n, .slice a4 m k4] 26))
  have HY5 := Lib.hid (HY4.out.push (.cells #[.string s, .int .i64 n, .slice a4 m k4] 26))
  have HB5 := Lib.hid (HB4.out.alloc HB4.out.size (.cells #[.string s, .int .i64 n, .slice a4 m k4] 26))
  have HN5 := Lib.hid (HN4.out.kept ((Below.refl _ _).alloc (Nat.le_refl _) (.cells #[.string s, .int .i64 n, .slice a4 m k4] 26)))
  have HP5 := Lib.hid (HP4.out.kept ((Below.refl _ _).alloc (Nat.le_refl _) (.cells #[.string s, .int .i64 n, .slice a4 m k4] 26)))
  have HW5 := Lib.hid (Nat.le_trans HW4.out ((Below.refl w4.heap.size _).alloc (Nat.le_refl _) (.cells #[.string s, .int .i64 n, .slice a4 m k4] 26)).size)
  clear HR4 HB4 HN4 HP4 HW4 HY4
  go_wp2_with (first | (refine wpList_store_row rfl 26 _ _ rfl _ _ rfl rfl 26 _ (heap_alloc_new _ _) (by kernel_rfl) rfl (by kernel_rfl) ?_; rw [World.setRow_alloc_new]) | (refine wpList_load_row rfl 26 _ rfl _ rfl 26 _ _ _ (HX5.out) Try.underlying26 rfl (by kernel_rfl) ?_) | fail)
  generalize w4.alloc (.cells #[.string s, .int .i64 n, .slice a4 m k4] 26) = w5 at *
  have HLT5 : Hid (∀ g, (Value.slice a4 m k4).ownBlock = some g → g < w5.heap.size) := Lib.hid (fun g hg => HN5.out.own.lt g hg)
  have HW35 := Lib.hid HW5.out
  refine (HI.out _ _ HN5.out.own.txts).mono ?_
  rintro e w5b ⟨v6, rfl, hn6, hb6⟩
  have HX5b := Lib.hid (HX5.out.kept hb6)
  have HR5b := Lib.hid (HR5.out.kept hb6)
  have HY5b := Lib.hid (HY5.out.kept hb6)
  have HB5b := Lib.hid (HB5.out.trans (hb6.mono HB5.out.size))
  have HN5b := Lib.hid (HN5.out.kept hb6)
  have HP5b := Lib.hid (HP5.out.kept hb6)
  have HW5b := Lib.hid (Nat.le_trans HW5.out hb6.size)
  have HV5b := Lib.hid hb6.size
  have HQ5b := Lib.hid hn6
  obtain ⟨a6, k6, rfl, -⟩ := hn6.own.view
  rw [strs_len, HPL.out] at HQ5b ⊢
  clear HX5 HR5 HB5 HN5 hb6 HP5 HW5 hn6 HY5
  obtain ⟨o6, ho6⟩ : ∃ o6, Obj.cells #[.string sp, .int .i64 np, .slice a6 p k6] 26 = o6 := ⟨_, rfl⟩
  have hal := (Below.refl w5b.heap.size w5b).alloc (Nat.le_refl _) o6
  have HX5c := Lib.hid (HX5b.out.push o6)
  have HR5c := Lib.hid (HR5b.out.push o6)
  have HY5c := Lib.hid (HY5b.out.push o6)
  have HB5c := Lib.hid (HB5b.out.alloc HB5b.out.size o6)
  have HN5c := Lib.hid (HN5b.out.kept hal)
  have HP5c := Lib.hid (HP5b.out.kept hal)
  have HQ5c := Lib.hid (HQ5b.out.kept hal)
  have HW5c := Lib.hid (Nat.le_trans HW5b.out hal.size)
  have HV5c := Lib.hid (Nat.le_trans HV5b.out hal.size)
  have HG5c : Hid (RowAt (w5b.alloc o6) w5b.heap.size 26 #[.string sp, .int .i64 np, .slice a6 p k6]) := Lib.hid (by rw [← ho6]; exact RowAt.new w5b _ _)
  clear HX5b HR5b HY5b HB5b HN5b HP5b HQ5b HW5b HV5b hal
  subst ho6
  go_wp2_with (first | (refine wpList_store_row rfl 26 _ _ rfl _ _ rfl rfl 26 _ (heap_alloc_new _ _) (by kernel_rfl) rfl (by kernel_rfl) ?_; rw [World.setRow_alloc_new]) | (refine wpList_load_row rfl 26 _ rfl _ rfl 26 _ _ _ (HG5c.out) Try.underlying26 rfl (by kernel_rfl) ?_) | (refine wpList_load_row rfl 26 _ rfl _ rfl 26 _ _ _ (HY5c.out) Try.underlying26 rfl (by kernel_rfl) ?_) | fail)
  generalize w5b.alloc (.cells #[.string sp, .int .i64 np, .slice a6 p k6] 26) = w5c at *
  refine (eqMethod_same sp np _ _ P _ HQ5c.out.own HP5c.out (by rw [HPL.out]; omega)).mono ?_
  rintro e w6 ⟨rfl, hb6⟩
  have HX6 := Lib.hid (HX5c.out.kept hb6)
  have HR6 := Lib.hid (HR5c.out.kept hb6)
  have HY6 := Lib.hid (HY5c.out.kept hb6)
  have HN6 := Lib.hid (HN5c.out.kept hb6)
  have HP6 := Lib.hid (HP5c.out.kept hb6)
  have HQ6 := Lib.hid (HQ5c.out.kept hb6)
  have HG6 := Lib.hid (HG5c.out.kept hb6)
  clear HX5c HR5c HY5c HN5c HP5c HQ5c HG5c
  have HB6 := Lib.hid (HB5c.out.trans (hb6.mono HB5c.out.size))
  have HW6 := Lib.hid (Nat.le_trans HW5c.out hb6.size)
  have HV6 := Lib.hid (Nat.le_trans HV5c.out hb6.size)
  clear HB5c HW5c HV5c hb6
  go_wp2
  have hltx := HX6.out.lt
  have hltr := HR6.out.lt
  have HX6A : Hid (∀ W', Below w6.heap.size w6 W' → (W'.cell? ⟨w4.heap.size, 0, none⟩ = some (.string s) ∧ W'.cell? ⟨w4.heap.size, 1, none⟩ = some (.int .i64 n) ∧ W'.cell? ⟨w4.heap.size, 2, none⟩ = some (.slice a4 m k4) ∧ W'.cell? ⟨W.heap.size, 0, none⟩ = some (.string s) ∧ W'.cell? ⟨W.heap.size, 1, none⟩ = some (.int .i64 n) ∧ W'.cell? ⟨W.heap.size, 2, none⟩ = some (.slice a m cap) ∧ Below w6.heap.size w6 W')) := Lib.hid (fun W' h => by
    have hx := HX6.out.keep h hltx
    have hr := HR6.out.keep h hltr
    exact ⟨hx.cell 0 rfl, hx.cell 1 rfl, hx.cell 2 rfl, hr.cell 0 rfl, hr.cell 1 rfl, hr.cell 2 rfl, h⟩)
  have HTO7 : Hid (∀ W', Below w6.heap.size w6 W' → Calls Try.prog 46 #[.agg #[.string s, .int .i64 n, .slice a m cap]] W' fun e w' => (∃ a7 k7, e = .returned (.agg #[.string s, .int .i64 n, .slice a7 m k7]) ∧ Own w' 9 (.slice a7 m k7) (strs L)) ∧ Below w6.heap.size w6 w') := Lib.hid (fun W' h => (HTO2.out W' (HA.out.kept (HB6.out.trans (h.mono HB6.out.size)))).mono fun e w' hw => by
    obtain ⟨v7, rfl, hn7, hb7⟩ := hw
    obtain ⟨a7, k7, rfl, -⟩ := hn7.own.view
    have ho := hn7.own
    rw [strs_len, HLL.out] at ho ⊢
    exact ⟨⟨a7, k7, rfl, ho⟩, h.trans (hb7.mono h.size)⟩)
  have HEQ7 : Hid (∀ W' a7 k7, Below w6.heap.size w6 W' → Own W' 9 (.slice a7 m k7) (strs L) → Calls Try.prog 48 #[.agg #[.string s, .int .i64 n, .slice a4 m k4], .agg #[.string s, .int .i64 n, .slice a7 m k7]] W' fun e w' => e = .returned (.bool true) ∧ Below w6.heap.size w6 w') := Lib.hid (fun W' a7 k7 h ho => (eqMethod_same s n _ _ L W' (HN6.out.kept h).own ho (by rw [HLL.out]; omega)).mono fun e w' hw => ⟨hw.1, h.trans (hw.2.mono h.size)⟩)
  clear hltx hltr
  go_region_held3 (fun w' => w'.cell? ⟨w4.heap.size, 0, none⟩ = some (.string s) ∧ w'.cell? ⟨w4.heap.size, 1, none⟩ = some (.int .i64 n) ∧ w'.cell? ⟨w4.heap.size, 2, none⟩ = some (.slice a4 m k4) ∧ w'.cell? ⟨W.heap.size, 0, none⟩ = some (.string s) ∧ w'.cell? ⟨W.heap.size, 1, none⟩ = some (.int .i64 n) ∧ w'.cell? ⟨W.heap.size, 2, none⟩ = some (.slice a m cap) ∧ Below w6.heap.size w6 w') (first | assumption | exact HX6A.out _ (Below.refl _ _).drew) (first | (go_at_call 46; refine (HTO7.out _ (by first | exact (Below.refl _ _).drew | exact Below.refl _ _)).mono ?_; rintro e7 w7 ⟨⟨a7, k7, rfl, ho7⟩, hb7⟩; have hS7 := HX6A.out _ hb7) | (go_at_call 48; refine (HEQ7.out _ _ _ hb7 ho7).mono ?_; rintro e8 w8 ⟨rfl, hb8⟩; have hS8 := HX6A.out _ hb8) | fail)
  have HX8 := Lib.hid (HX6.out.kept hb8)
  have HR8 := Lib.hid (HR6.out.kept hb8)
  have HY8 := Lib.hid (HY6.out.kept hb8)
  have HN8 := Lib.hid (HN6.out.kept hb8)
  have HP8 := Lib.hid (HP6.out.kept hb8)
  have HQ8 := Lib.hid (HQ6.out.kept hb8)
  have HG8 := Lib.hid (HG6.out.kept hb8)
  clear HX6 HR6 HY6 HN6 HP6 HQ6 HG6
  have HB8 := Lib.hid (HB6.out.trans (hb8.mono HB6.out.size))
  have HW8 := Lib.hid (Nat.le_trans HW6.out hb8.size)
  have HV8 := Lib.hid (Nat.le_trans HV6.out hb8.size)
  clear HB6 HW6 HV6 hS8 hS7 hb8 hb7 ho7 HX6A HTO7 HEQ7
  go_wp2_with (first | (refine wpList_load_row rfl 26 _ rfl _ rfl 26 _ _ _ (HX8.out) Try.underlying26 rfl (by kernel_rfl) ?_) | fail)
  refine (markMethod_any s n w3a.heap.size (.slice a4 m k4) L _ HN8.out HW8.out (by rw [HLL.out]; omega)).mono ?_
  rintro e w9 ⟨rfl, -, hb9, hk9⟩
  rw [HLL.out]
  have HR9 := Lib.hid (HR8.out.keep hb9 HR3lt.out)
  have HY9 := Lib.hid (HY8.out.keep hb9 HY3lt.out)
  have HG9 := Lib.hid (hk9.row HG8.out (HN8.out.apartRow HG8.out (by decide)))
  have HB9 := Lib.hid (HB8.out.trans (hb9.mono HB3s.out))
  have HP9 := Lib.hid (HP8.out.under HLT3a.out hb9)
  have HQ9 : Hid (New w5.heap.size w9 9 (.slice a6 p k6) (strs P)) := Lib.hid ⟨HQ8.out.own.besides hk9 (fun g hg h4 => by
    have := HQ8.out.base g hg
    have := HLT5.out g h4
    omega), HQ8.out.base⟩
  have HV9 := Lib.hid (Nat.le_trans HV8.out hb9.size)
  have hmm : ¬ ((1 : Int) + (m : Nat) < 0) := by omega
  clear HX8 HR8 HB8 HN8 HP8 HQ8 HW8 HV8 hb9 hk9 HY8 HG8
  have g0 := HG9.out.cell 0 rfl
  have g1 := HG9.out.cell 1 rfl
  have g2 := HG9.out.cell 2 rfl
  have y0 := HY9.out.cell 0 rfl
  have y1 := HY9.out.cell 1 rfl
  have y2 := HY9.out.cell 2 rfl
  go_wp2_with (first | (refine wpList_load_row rfl 26 _ rfl _ rfl 26 _ _ _ (HG9.out) Try.underlying26 rfl (by kernel_rfl) ?_) | (refine wpList_load_row rfl 26 _ rfl _ rfl 26 _ _ _ (HY9.out) Try.underlying26 rfl (by kernel_rfl) ?_) | fail)
  refine (eqMethod_same sp np _ _ P _ HQ9.out.own HP9.out (by rw [HPL.out]; omega)).mono ?_
  rintro e w10 ⟨rfl, hb10⟩
  have HR10 := Lib.hid (HR9.out.kept hb10)
  have HY10 := Lib.hid (HY9.out.kept hb10)
  have HP10 := Lib.hid (HP9.out.kept hb10)
  have HQ10 := Lib.hid (HQ9.out.kept hb10)
  have HG10 := Lib.hid (HG9.out.kept hb10)
  clear HR9 HY9 HP9 HQ9 HG9
  have HB10 := Lib.hid (HB9.out.trans (hb10.mono HB9.out.size))
  have HV10 := Lib.hid (Nat.le_trans HV9.out hb10.size)
  clear HB9 HV9 hb10 g0 g1 g2 y0 y1 y2
  go_wp2_with (first | (refine wpList_load_row rfl 26 _ rfl _ rfl 26 _ _ _ (HG10.out) Try.underlying26 rfl (by kernel_rfl) ?_) | fail)
  refine (markMethod_any sp np w5.heap.size (.slice a6 p k6) P _ HQ10.out HV10.out (by rw [HPL.out]; omega)).mono ?_
  rintro e w11 ⟨rfl, hn11, hb11, hk11⟩
  rw [HPL.out] at hn11 ⊢
  have HM11 := Lib.hid hn11.own
  have HR11 := Lib.hid (HR10.out.keep hb11 (Nat.lt_of_lt_of_le HR3lt.out HW35.out))
  have HY11 := Lib.hid (HY10.out.keep hb11 (Nat.lt_of_lt_of_le HY3lt.out HW35.out))
  have HG11 := Lib.hid (hk11.row HG10.out (HQ10.out.apartRow HG10.out (by decide)))
  have HB11 := Lib.hid (HB10.out.trans (hb11.mono (Nat.le_trans HB3s.out HW35.out)))
  have HP11 := Lib.hid (HP10.out.under (fun g hg => Nat.lt_of_lt_of_le (HLT3a.out g hg) HW35.out) hb11)
  have hpp : ¬ ((1 : Int) + (p : Nat) < 0) := by omega
  clear hn11 hb11 hk11 HR10 HB10 HP10 HQ10 HV10 HY10 HG10
  go_wp2_with (first | (refine wpList_load_row rfl 26 _ rfl _ rfl 26 _ _ _ (HG11.out) Try.underlying26 rfl (by kernel_rfl) ?_) | fail)
  refine (heldMethod_any sp np (.slice a6 p k6) p _ HM11.out (by omega)).mono ?_
  rintro e w12 ⟨rfl, hb12⟩
  have HM12 := Lib.hid (HM11.out.kept hb12)
  have HR12 := Lib.hid (HR11.out.kept hb12)
  have HY12 := Lib.hid (HY11.out.kept hb12)
  have HP12 := Lib.hid (HP11.out.kept hb12)
  have HG12 := Lib.hid (HG11.out.kept hb12)
  clear HM11 HR11 HY11 HP11 HG11
  have HB12 := Lib.hid (HB11.out.trans (hb12.mono HB11.out.size))
  clear hb12 HB11
  go_wp2_with (first | (refine wpList_load_row rfl 52 _ rfl _ rfl 52 _ _ _ (HR12.out) Try.underlying52 rfl (by kernel_rfl) ?_) | fail)
  refine (HTO2.out _ (HA.out.kept HB12.out)).mono ?_
  rintro e w13 ⟨v13, rfl, hn13, hb13⟩
  have HM13 := Lib.hid (HM12.out.kept hb13)
  have HY13 := Lib.hid (HY12.out.kept hb13)
  have HP13 := Lib.hid (HP12.out.kept hb13)
  have HG13 := Lib.hid (HG12.out.kept hb13)
  clear HM12 HY12 HP12 HG12
  have HB13 := Lib.hid (HB12.out.trans (hb13.mono HB12.out.size))
  have HT13 := Lib.hid hn13.own.txts
  clear hb13 hn13 HB12 HR12
  go_wp2_with fail
  refine (HI.out _ _ HT13.out).mono ?_
  rintro e w14 ⟨v14, rfl, hn14, hb14⟩
  have HM14 := Lib.hid (HM13.out.kept hb14)
  have HY14 := Lib.hid (HY13.out.kept hb14)
  have HP14 := Lib.hid (HP13.out.kept hb14)
  have HG14 := Lib.hid (HG13.out.kept hb14)
  clear HM13 HY13 HP13 HG13
  have HB14 := Lib.hid (HB13.out.trans (hb14.mono HB13.out.size))
  have HQ14 := Lib.hid hn14.own
  obtain ⟨a14, k14, rfl, -⟩ := hn14.own.view
  rw [strs_len, HPL.out] at HQ14 ⊢
  clear hb14 hn14 HB13 HT13
  have hal := (Below.refl w14.heap.size w14).alloc (Nat.le_refl _) (.cells #[.string sp, .int .i64 np, .slice a14 p k14] 26)
  have HM14a := Lib.hid (HM14.out.kept hal)
  have HY14a := Lib.hid (HY14.out.kept hal)
  have HP14a := Lib.hid (HP14.out.kept hal)
  have HG14a := Lib.hid (HG14.out.kept hal)
  have HQ14a := Lib.hid (HQ14.out.kept hal)
  clear HM14 HY14 HP14 HG14 HQ14
  have HB14a := Lib.hid (HB14.out.alloc HB14.out.size (.cells #[.string sp, .int .i64 np, .slice a14 p k14] 26))
  have HH14a := Lib.hid (RowAt.new w14 26 #[.string sp, .int .i64 np, .slice a14 p k14])
  clear HB14 hal
  go_wp2_with (first | (refine wpList_store_row rfl 26 _ _ rfl _ _ rfl rfl 26 _ (heap_alloc_new _ _) (by kernel_rfl) rfl (by kernel_rfl) ?_; rw [World.setRow_alloc_new]) | (refine wpList_load_row rfl 26 _ rfl _ rfl 26 _ _ _ (HH14a.out) Try.underlying26 rfl (by kernel_rfl) ?_) | (refine wpList_load_row rfl 26 _ rfl _ rfl 26 _ _ _ (HY14a.out) Try.underlying26 rfl (by kernel_rfl) ?_) | fail)
  generalize w14.alloc (.cells #[.string sp, .int .i64 np, .slice a14 p k14] 26) = w14a at *
  refine (eqMethod_same sp np _ _ P _ HQ14a.out HP14a.out (by rw [HPL.out]; omega)).mono ?_
  rintro e w15 ⟨rfl, hb15⟩
  have HM15 := Lib.hid (HM14a.out.kept hb15)
  have HG15 := Lib.hid (HG14a.out.kept hb15)
  clear HM14a HG14a
  have HB15 := Lib.hid (HB14a.out.trans (hb15.mono HB14a.out.size))
  clear hb15 HB14a HP14a HQ14a HH14a HY14a
  go_wp2_with (first | (refine wpList_load_row rfl 26 _ rfl _ rfl 26 _ _ _ (HG15.out) Try.underlying26 rfl (by kernel_rfl) ?_) | fail)
  refine (heldMethod_any sp np (.slice a6 p k6) p _ HM15.out (by omega)).mono ?_
  rintro e w16 ⟨rfl, hb16⟩
  go_wp2
  go_ret
  exact ⟨rfl, HB15.out.trans (hb16.mono HB15.out.size)⟩

end Go.Proofs.Ytfocnflnpabmkaa
