/- The law FnExactTouchHeads. -/
import Derived.Test.YtkhglknpcajmiaaXT
import Derived.Deep.RegionHeld3
namespace Go.Proofs.Ytkhglknpcajmiaa
open Go.RowKit
set_option linter.unusedSimpArgs false
set_option linter.unusedVariables false

set_option maxRecDepth 100000 in
set_option maxHeartbeats 1000000 in
theorem lawTouchHeads (s : ByteArray) (n : Int) (v : Value) (ss : List ByteArray) (b q : ByteArray) (r0 : ByteArray) (W : World) (hsz : s.size ≤ maxLen) (hA : Arg W v ss) (hy : ss.length ≤ maxLen ∧ ∀ t ∈ ss, t.size ≤ maxLen) (hkb : b.size ≤ maxLen) (hkq : q.size ≤ maxLen) (hr0 : r0.size ≤ maxLen) :
    Calls Try.prog 8 #[.agg #[.string s, .int .i64 n, v], .agg #[.string b, .string q], .string r0] W fun e w' => e = .returned (.bool true) ∧ Below W.heap.size W w' := by
  obtain ⟨a, cap, rfl, -⟩ := id hA
  have HBO : Hid (s.size ≤ 1048576 → ss.length ≤ 1048576 → (∀ t ∈ ss, t.size ≤ 1048576) → _) := Lib.hid (fun h1 h2 h3 => bothTouchHeads s (by simp only [maxLen]; omega) n (letss ss) (by rw [letss_len]; omega) (small_letss hy.2) b q hkb hkq r0 hr0)
  have HSZ : Hid (∀ w, Arg w (.slice a ss.length cap) ss → Calls Try.prog 66 #[.agg #[.string s, .int .i64 n, .slice a ss.length cap], .int .i64 1048576] w _) := Lib.hid (fun w h => szMethod_any s hsz n (.slice a ss.length cap) ss w h hy.1 hy.2 1048576 (by omega) (by omega))
  have HSK := Lib.hid (szCalls_any b q hkb hkq)
  have HTO : Hid (ss.length ≤ 1048576 → ∀ w, Arg w (.slice a ss.length cap) ss → Calls Try.prog 68 #[.agg #[.string s, .int .i64 n, .slice a ss.length cap]] w (MethOut s n (letss ss) w)) := Lib.hid (fun h2 w h => toMethod_any s n (.slice a ss.length cap) ss w h (by omega))
  have HLL := Lib.hid (letss_len ss)
  have HA := Lib.hid hA
  have HR0 := Lib.hid ((RowAt.new W 65 #[.string s, .int .i64 n, .slice a ss.length cap]).push (.cells #[.string b, .string q] 66))
  have HK0 : Hid (RowAt ((W.alloc (.cells #[.string s, .int .i64 n, .slice a ss.length cap] 65)).alloc (.cells #[.string b, .string q] 66)) (W.heap.size + 1) 66 #[.string b, .string q]) := Lib.hid (by
    have := RowAt.new (W.alloc (.cells #[.string s, .int .i64 n, .slice a ss.length cap] 65)) 66 #[.string b, .string q]
    simpa using this)
  have HB0 := Lib.hid (((Below.refl _ W).alloc (Nat.le_refl _) (.cells #[.string s, .int .i64 n, .slice a ss.length cap] 65)).alloc (by simp) (.cells #[.string b, .string q] 66))
  unfold MethOut at HTO
  generalize letss ss = L at *
  generalize hm : ss.length = m at *
  have HMM := Lib.hid hm
  clear hA hy hsz hm hkb hkq
  by_cases hbigr0 : 1048576 < r0.size
  · have hbigr0' : (1048576 : Int) < r0.size := by omega
    go_enter Try.func8, Try.ntmps8
    go_wp2
    go_ret
    exact ⟨rfl, HB0.out⟩
  have hbigr0' : (r0.size : Int) ≤ 1048576 := by omega
  clear hbigr0
  go_enter Try.func8, Try.ntmps8
  go_wp2_with (first | (refine wpList_load_row rfl 65 _ rfl _ rfl 65 _ _ _ (HR0.out) Try.underlying65 rfl (by kernel_rfl) ?_) | fail)
  refine (HSZ.out _ (HA.out.kept HB0.out)).mono ?_
  rintro e w1 ⟨z, rfl, hz0, hz1, hz2, hb1⟩
  have HR1 := Lib.hid (HR0.out.kept hb1)
  have HK1 := Lib.hid (HK0.out.kept hb1)
  have HB1 := Lib.hid (HB0.out.trans (hb1.mono HB0.out.size))
  clear HR0 HB0 HK0 hb1 HSZ
  by_cases hneg : z < 0
  · clear hz2
    go_wp2
    go_ret
    exact ⟨rfl, HB1.out⟩
  have hz3 := hz2 (by omega)
  obtain ⟨hs1, hs2, hs3⟩ := hz3
  have hm2 : m ≤ 1048576 := by omega
  have HTO2 := Lib.hid (HTO.out hm2)
  have hboth := HBO.out (by omega) (by omega) (fun t ht => by have := hs3 t ht; omega)
  clear HBO HTO hz2 hs1 hs2 hs3
  obtain ⟨P, flag, hpl, hI, hS⟩ := hboth
  have HI := Lib.hid hI
  have HS := Lib.hid hS
  clear hI hS
  obtain ⟨p, hp⟩ : ∃ p, P.length = p := ⟨_, rfl⟩
  rw [hp] at hpl
  have HPL := Lib.hid hp
  clear hp
  unfold TextsAny at HI HS
  go_wp2_with (first | (refine wpList_load_row rfl 66 _ rfl _ rfl 66 _ _ _ (HK1.out) Try.underlying66 rfl (by kernel_rfl) ?_) | fail)
  refine (HSK.out _ z (by omega) hz1).mono ?_
  rintro e w2 ⟨y, rfl, hy1, -, hb2⟩
  have HR2 := Lib.hid (HR1.out.kept hb2)
  have HK2 := Lib.hid (HK1.out.kept hb2)
  have HB2 := Lib.hid (HB1.out.trans (hb2.mono HB1.out.size))
  clear HR1 HB1 HK1 hb2 HSK
  by_cases hneg2 : y < 0
  · go_wp2
    go_ret
    exact ⟨rfl, HB2.out⟩
  go_wp2
  have HXA2 : Hid (∀ W', Below w2.heap.size w2 W' → (W'.cell? ⟨W.heap.size, 0, none⟩ = some (.string s) ∧ W'.cell? ⟨W.heap.size, 1, none⟩ = some (.int .i64 n) ∧ W'.cell? ⟨W.heap.size, 2, none⟩ = some (.slice a m cap) ∧ W'.cell? ⟨W.heap.size + 1, 0, none⟩ = some (.string b) ∧ W'.cell? ⟨W.heap.size + 1, 1, none⟩ = some (.string q) ∧ Below w2.heap.size w2 W')) := Lib.hid (fun W' h => by
    have hR := HR2.out.keep h HR2.out.lt
    have hK := HK2.out.keep h HK2.out.lt
    exact ⟨hR.cell 0 rfl, hR.cell 1 rfl, hR.cell 2 rfl, hK.cell 0 rfl, hK.cell 1 rfl, h⟩)
  have HTM2 : Hid (∀ W', Below w2.heap.size w2 W' → Calls Try.prog 68 #[.agg #[.string s, .int .i64 n, .slice a m cap]] W' fun e w' => (∃ a7 k7, e = .returned (.agg #[.string s, .int .i64 n, .slice a7 m k7]) ∧ Own w' 9 (.slice a7 m k7) (strs L)) ∧ Below w2.heap.size w2 w') := Lib.hid (fun W' h => (HTO2.out W' (HA.out.kept (HB2.out.trans (h.mono HB2.out.size)))).mono fun e w' hw => by
    obtain ⟨v7, rfl, hn7, hb7⟩ := hw
    obtain ⟨a7, k7, rfl, -⟩ := hn7.own.view
    have ho := hn7.own
    rw [strs_len, HLL.out] at ho ⊢
    exact ⟨⟨a7, k7, rfl, ho⟩, h.trans (hb7.mono h.size)⟩)
  have HTC2 : Hid (∀ W', Below w2.heap.size w2 W' → Calls Try.prog 69 #[.agg #[.string b, .string q]] W' fun e w' => e = .returned (.agg #[.string b, .string q]) ∧ Below W'.heap.size W' w' ∧ Below w2.heap.size w2 w') := Lib.hid (fun W' h => (toCalls_any b q W').mono fun e w' hw => ⟨hw.1, hw.2, h.trans (hw.2.mono h.size)⟩)
  have HF2 : Hid (∀ u W', Below w2.heap.size w2 W' → Txts W' u L → Calls Try.prog 43 #[.agg #[.string s, .int .i64 n, u], .agg #[.string b, .string q], .string r0] W' fun e w' => (∃ v, e = .returned (.tuple #[v, .bool flag]) ∧ New w2.heap.size w' 9 v (strs P)) ∧ Below w2.heap.size w2 w') := Lib.hid (fun u W' h ht => (HS.out u W' ht).mono fun e w' hw => by
    obtain ⟨v8, rfl, hn8, hb8⟩ := hw
    exact ⟨⟨v8, rfl, hn8.lower h.size⟩, h.trans (hb8.mono h.size)⟩)
  go_region_held3 (fun w' => w'.cell? ⟨W.heap.size, 0, none⟩ = some (.string s) ∧ w'.cell? ⟨W.heap.size, 1, none⟩ = some (.int .i64 n) ∧ w'.cell? ⟨W.heap.size, 2, none⟩ = some (.slice a m cap) ∧ w'.cell? ⟨W.heap.size + 1, 0, none⟩ = some (.string b) ∧ w'.cell? ⟨W.heap.size + 1, 1, none⟩ = some (.string q) ∧ Below w2.heap.size w2 w') (first | assumption | exact HXA2.out _ (Below.refl _ _).drew) (first | (go_at_call 68; refine (HTM2.out _ (by first | exact (Below.refl _ _).drew | exact Below.refl _ _)).mono ?_; rintro ea3 wa3 ⟨⟨aa3, ka3, rfl, hoa3⟩, hba3⟩; have hSa3 := HXA2.out _ hba3) | (go_at_call 69; refine (HTC2.out _ hba3).mono ?_; rintro eb3 wb3 ⟨rfl, hc3, hbb3⟩; have hSb3 := HXA2.out _ hbb3) | (go_at_call 43; refine (HF2.out _ _ hbb3 (hoa3.kept hc3).txts).mono ?_; rintro ec3 w3 ⟨⟨v3, rfl, hn3⟩, hb3⟩; have hSc3 := HXA2.out _ hb3) | fail)
  have HR3 := Lib.hid (HR2.out.kept hb3)
  have HK3 := Lib.hid (HK2.out.kept hb3)
  have HB3 := Lib.hid (HB2.out.trans (hb3.mono HB2.out.size))
  have HP3 := Lib.hid hn3.own
  have HLT3 := Lib.hid hn3.own.lt
  clear HR2 HK2 HB2 hb3 HXA2 HTC2 HF2 hSb3 hSc3 hc3 hbb3 HTM2 hSa3 hba3 hoa3 hn3
  go_wp2_with (first | (refine wpList_load_row rfl 65 _ rfl _ rfl 65 _ _ _ (HR3.out) Try.underlying65 rfl (by kernel_rfl) ?_) | fail)
  refine (HTO2.out _ (HA.out.kept HB3.out)).mono ?_
  rintro e w4 ⟨v4, rfl, hn4, hb4⟩
  have HR4 := Lib.hid (HR3.out.kept hb4)
  have HK4 := Lib.hid (HK3.out.kept hb4)
  have HB4 := Lib.hid (HB3.out.trans (hb4.mono HB3.out.size))
  have HN4 := Lib.hid hn4
  obtain ⟨a4, k4, rfl, -⟩ := hn4.own.view
  rw [strs_len, HLL.out] at HN4 ⊢
  have HP4 := Lib.hid (HP3.out.kept hb4)
  have HW4 := Lib.hid hb4.size
  have HB3s := Lib.hid HB3.out.size
  have HR3lt := Lib.hid HR3.out.lt
  have HK3lt := Lib.hid HK3.out.lt
  clear HR3 HK3 HB3 hn4 hb4 HP3
  have HX5 := Lib.hid (RowAt.new w4 25 #[.string s, .int .i64 n, .slice a4 m k4])
  have HR5 := Lib.hid (HR4.out.push (.cells #[.string s, .int .i64 n, .slice a4 m k4] 25))
  have HK5 := Lib.hid (HK4.out.push (.cells #[.string s, .int .i64 n, .slice a4 m k4] 25))
  have HB5 := Lib.hid (HB4.out.alloc HB4.out.size (.cells #[.string s, .int .i64 n, .slice a4 m k4] 25))
  have HN5 := Lib.hid (HN4.out.kept ((Below.refl _ _).alloc (Nat.le_refl _) (.cells #[.string s, .int .i64 n, .slice a4 m k4] 25)))
  have HP5 := Lib.hid (HP4.out.kept ((Below.refl _ _).alloc (Nat.le_refl _) (.cells #[.string s, .int .i64 n, .slice a4 m k4] 25)))
  have HW5 := Lib.hid (Nat.le_trans HW4.out ((Below.refl w4.heap.size _).alloc (Nat.le_refl _) (.cells #[.string s, .int .i64 n, .slice a4 m k4] 25)).size)
  have HW35 := Lib.hid HW5.out
  have HLT5 : Hid (∀ g, (Value.slice a4 m k4).ownBlock = some g → g < (w4.alloc (.cells #[.string s, .int .i64 n, .slice a4 m k4] 25)).heap.size) := Lib.hid (fun g hg => HN5.out.own.lt g hg)
  clear HR4 HK4 HB4 HN4 HP4 HW4
  go_wp2_with (first | (refine wpList_store_row rfl 25 _ _ rfl _ _ rfl rfl 25 _ (heap_alloc_new _ _) (by kernel_rfl) rfl (by kernel_rfl) ?_; rw [World.setRow_alloc_new]) | fail)
  generalize w4.alloc (.cells #[.string s, .int .i64 n, .slice a4 m k4] 25) = w5 at *
  go_wp2
  have HXA5 : Hid (∀ W', Below w5.heap.size w5 W' → (W'.cell? ⟨w4.heap.size, 0, none⟩ = some (.string s) ∧ W'.cell? ⟨w4.heap.size, 1, none⟩ = some (.int .i64 n) ∧ W'.cell? ⟨w4.heap.size, 2, none⟩ = some (.slice a4 m k4) ∧ W'.cell? ⟨W.heap.size + 1, 0, none⟩ = some (.string b) ∧ W'.cell? ⟨W.heap.size + 1, 1, none⟩ = some (.string q) ∧ Below w5.heap.size w5 W')) := Lib.hid (fun W' h => by
    have hX := HX5.out.keep h HX5.out.lt
    have hK := HK5.out.keep h HK5.out.lt
    exact ⟨hX.cell 0 rfl, hX.cell 1 rfl, hX.cell 2 rfl, hK.cell 0 rfl, hK.cell 1 rfl, h⟩)
  have HTC5 : Hid (∀ W', Below w5.heap.size w5 W' → Calls Try.prog 69 #[.agg #[.string b, .string q]] W' fun e w' => e = .returned (.agg #[.string b, .string q]) ∧ Below W'.heap.size W' w' ∧ Below w5.heap.size w5 w') := Lib.hid (fun W' h => (toCalls_any b q W').mono fun e w' hw => ⟨hw.1, hw.2, h.trans (hw.2.mono h.size)⟩)
  have HF5 : Hid (∀ u W', Below w5.heap.size w5 W' → Txts W' u L → Calls Try.prog 42 #[.agg #[.string s, .int .i64 n, u], .agg #[.string b, .string q], .string r0] W' fun e w' => (∃ v, e = .returned (.tuple #[v, .bool flag]) ∧ New w5.heap.size w' 9 v (strs P)) ∧ Below w5.heap.size w5 w') := Lib.hid (fun u W' h ht => (HI.out u W' ht).mono fun e w' hw => by
    obtain ⟨v8, rfl, hn8, hb8⟩ := hw
    exact ⟨⟨v8, rfl, hn8.lower h.size⟩, h.trans (hb8.mono h.size)⟩)
  go_region_held3 (fun w' => w'.cell? ⟨w4.heap.size, 0, none⟩ = some (.string s) ∧ w'.cell? ⟨w4.heap.size, 1, none⟩ = some (.int .i64 n) ∧ w'.cell? ⟨w4.heap.size, 2, none⟩ = some (.slice a4 m k4) ∧ w'.cell? ⟨W.heap.size + 1, 0, none⟩ = some (.string b) ∧ w'.cell? ⟨W.heap.size + 1, 1, none⟩ = some (.string q) ∧ Below w5.heap.size w5 w') (first | assumption | exact HXA5.out _ (Below.refl _ _).drew) (first | (go_at_call 69; refine (HTC5.out _ (by first | exact (Below.refl _ _).drew | exact Below.refl _ _)).mono ?_; rintro eb6 wb6 ⟨rfl, hc6, hbb6⟩; have hSb6 := HXA5.out _ hbb6) | (go_at_call 42; refine (HF5.out _ _ hbb6 (HN5.out.kept hbb6).own.txts).mono ?_; rintro ec6 w6 ⟨⟨v6, rfl, hn6⟩, hb6⟩; have hSc6 := HXA5.out _ hb6) | fail)
  have HX5b := Lib.hid (HX5.out.kept hb6)
  have HR5b := Lib.hid (HR5.out.kept hb6)
  have HK5b := Lib.hid (HK5.out.kept hb6)
  have HB5b := Lib.hid (HB5.out.trans (hb6.mono HB5.out.size))
  have HN5b := Lib.hid (HN5.out.kept hb6)
  have HP5b := Lib.hid (HP5.out.kept hb6)
  have HQ5b := Lib.hid hn6
  have HW5b := Lib.hid (Nat.le_trans HW5.out hb6.size)
  have HV5b := Lib.hid hb6.size
  clear HX5 HR5 HK5 HB5 HN5 hb6 HXA5 HTC5 HF5 hSb6 hSc6 hc6 hbb6 HP5 HW5 hn6
  go_wp2_with fail
  refine (eqStringS_same v6 v3 P _ HQ5b.out.own HP5b.out (by rw [HPL.out]; omega)).mono ?_
  rintro e w6b ⟨rfl, d6, hd6⟩
  have HX6 : Hid (RowAt w6b w4.heap.size 25 #[.string s, .int .i64 n, .slice a4 m k4]) := by rw [hd6]; exact HX5b.out.drewN d6
  have HR6 : Hid (RowAt w6b W.heap.size 65 #[.string s, .int .i64 n, .slice a m cap]) := by rw [hd6]; exact HR5b.out.drewN d6
  have HK6 : Hid (RowAt w6b (W.heap.size + 1) 66 #[.string b, .string q]) := by rw [hd6]; exact HK5b.out.drewN d6
  have HB6 : Hid (Below W.heap.size W w6b) := by rw [hd6]; exact below_drewN HB5b.out _
  have HN6 : Hid (New w3.heap.size w6b 9 (.slice a4 m k4) (strs L)) := by rw [hd6]; exact HN5b.out.drewN _
  have HP6 : Hid (Own w6b 9 v3 (strs P)) := by rw [hd6]; exact HP5b.out.drewN _
  have HQ6 : Hid (New w5.heap.size w6b 9 v6 (strs P)) := by rw [hd6]; exact HQ5b.out.drewN _
  have HW6 : Hid (w3.heap.size ≤ w6b.heap.size) := by rw [hd6]; exact HW5b
  have HV6 : Hid (w5.heap.size ≤ w6b.heap.size) := by rw [hd6]; exact HV5b
  clear hd6 HX5b HR5b HK5b HB5b HN5b HP5b HQ5b HW5b HV5b
  go_wp2
  have hltx := HX6.out.lt
  have hltr := HR6.out.lt
  have HX6A : Hid (∀ W', Below w6b.heap.size w6b W' → (W'.cell? ⟨w4.heap.size, 0, none⟩ = some (.string s) ∧ W'.cell? ⟨w4.heap.size, 1, none⟩ = some (.int .i64 n) ∧ W'.cell? ⟨w4.heap.size, 2, none⟩ = some (.slice a4 m k4) ∧ W'.cell? ⟨W.heap.size, 0, none⟩ = some (.string s) ∧ W'.cell? ⟨W.heap.size, 1, none⟩ = some (.int .i64 n) ∧ W'.cell? ⟨W.heap.size, 2, none⟩ = some (.slice a m cap) ∧ Below w6b.heap.size w6b W')) := Lib.hid (fun W' h => by
    have hx := HX6.out.keep h hltx
    have hr := HR6.out.keep h hltr
    exact ⟨hx.cell 0 rfl, hx.cell 1 rfl, hx.cell 2 rfl, hr.cell 0 rfl, hr.cell 1 rfl, hr.cell 2 rfl, h⟩)
  have HTO7 : Hid (∀ W', Below w6b.heap.size w6b W' → Calls Try.prog 68 #[.agg #[.string s, .int .i64 n, .slice a m cap]] W' fun e w' => (∃ a7 k7, e = .returned (.agg #[.string s, .int .i64 n, .slice a7 m k7]) ∧ Own w' 9 (.slice a7 m k7) (strs L)) ∧ Below w6b.heap.size w6b w') := Lib.hid (fun W' h => (HTO2.out W' (HA.out.kept (HB6.out.trans (h.mono HB6.out.size)))).mono fun e w' hw => by
    obtain ⟨v7, rfl, hn7, hb7⟩ := hw
    obtain ⟨a7, k7, rfl, -⟩ := hn7.own.view
    have ho := hn7.own
    rw [strs_len, HLL.out] at ho ⊢
    exact ⟨⟨a7, k7, rfl, ho⟩, h.trans (hb7.mono h.size)⟩)
  have HEQ7 : Hid (∀ W' a7 k7, Below w6b.heap.size w6b W' → Own W' 9 (.slice a7 m k7) (strs L) → Calls Try.prog 71 #[.agg #[.string s, .int .i64 n, .slice a4 m k4], .agg #[.string s, .int .i64 n, .slice a7 m k7]] W' fun e w' => e = .returned (.bool true) ∧ Below w6b.heap.size w6b w') := Lib.hid (fun W' a7 k7 h ho => (eqMethod_same s n _ _ L W' (HN6.out.kept h).own ho (by rw [HLL.out]; omega)).mono fun e w' hw => ⟨hw.1, h.trans (hw.2.mono h.size)⟩)
  clear hltx hltr
  go_region_held3 (fun w' => w'.cell? ⟨w4.heap.size, 0, none⟩ = some (.string s) ∧ w'.cell? ⟨w4.heap.size, 1, none⟩ = some (.int .i64 n) ∧ w'.cell? ⟨w4.heap.size, 2, none⟩ = some (.slice a4 m k4) ∧ w'.cell? ⟨W.heap.size, 0, none⟩ = some (.string s) ∧ w'.cell? ⟨W.heap.size, 1, none⟩ = some (.int .i64 n) ∧ w'.cell? ⟨W.heap.size, 2, none⟩ = some (.slice a m cap) ∧ Below w6b.heap.size w6b w') (first | assumption | exact HX6A.out _ (Below.refl _ _).drew) (first | (go_at_call 68; refine (HTO7.out _ (by first | exact (Below.refl _ _).drew | exact Below.refl _ _)).mono ?_; rintro e7 w7 ⟨⟨a7, k7, rfl, ho7⟩, hb7⟩; have hS7 := HX6A.out _ hb7) | (go_at_call 71; refine (HEQ7.out _ _ _ hb7 ho7).mono ?_; rintro e8 w8 ⟨rfl, hb8⟩; have hS8 := HX6A.out _ hb8) | fail)
  have HX8 := Lib.hid (HX6.out.kept hb8)
  have HR8 := Lib.hid (HR6.out.kept hb8)
  have HK8 := Lib.hid (HK6.out.kept hb8)
  have HB8 := Lib.hid (HB6.out.trans (hb8.mono HB6.out.size))
  have HN8 := Lib.hid (HN6.out.kept hb8)
  have HP8 := Lib.hid (HP6.out.kept hb8)
  have HQ8 := Lib.hid (HQ6.out.kept hb8)
  have HW8 := Lib.hid (Nat.le_trans HW6.out hb8.size)
  have HV8 := Lib.hid (Nat.le_trans HV6.out hb8.size)
  clear HX6 HR6 HK6 HB6 HN6 HP6 HQ6 HW6 HV6 hS8 hS7 hb8 hb7 ho7 HX6A HTO7 HEQ7
  go_wp2_with (first | (refine wpList_load_row rfl 25 _ rfl _ rfl 25 _ _ _ (HX8.out) Try.underlying25 rfl (by kernel_rfl) ?_) | fail)
  refine (markMethod_any s n w3.heap.size (.slice a4 m k4) L _ HN8.out HW8.out (by rw [HLL.out]; omega)).mono ?_
  rintro e w9 ⟨rfl, -, hb9, hk9⟩
  rw [HLL.out]
  have HR9 := Lib.hid (HR8.out.keep hb9 HR3lt.out)
  have HK9 := Lib.hid (HK8.out.keep hb9 HK3lt.out)
  have HB9 := Lib.hid (HB8.out.trans (hb9.mono HB3s.out))
  have HP9 := Lib.hid (HP8.out.under HLT3.out hb9)
  have HQ9 : Hid (New w5.heap.size w9 9 v6 (strs P)) := Lib.hid ⟨HQ8.out.own.besides hk9 (fun g hg h4 => by
    have := HQ8.out.base g hg
    have := HLT5.out g h4
    omega), HQ8.out.base⟩
  have HW9 := Lib.hid (Nat.le_trans HW8.out hb9.size)
  have HV9 := Lib.hid (Nat.le_trans HV8.out hb9.size)
  have hmm : ¬ ((1 : Int) + (m : Nat) < 0) := by omega
  clear HX8 HR8 HK8 HB8 HN8 HP8 HQ8 HW8 HV8 hb9 hk9
  go_wp2_with fail
  refine (eqStringS_same v6 v3 P _ HQ9.out.own HP9.out (by rw [HPL.out]; omega)).mono ?_
  rintro e w10 ⟨rfl, d10, hd10⟩
  have HR10 : Hid (RowAt w10 W.heap.size 65 #[.string s, .int .i64 n, .slice a m cap]) := by rw [hd10]; exact HR9.out.drewN d10
  have HK10 : Hid (RowAt w10 (W.heap.size + 1) 66 #[.string b, .string q]) := by rw [hd10]; exact HK9.out.drewN d10
  have HB10 : Hid (Below W.heap.size W w10) := by rw [hd10]; exact below_drewN HB9.out _
  have HP10 : Hid (Own w10 9 v3 (strs P)) := by rw [hd10]; exact HP9.out.drewN _
  have HQ10 : Hid (New w5.heap.size w10 9 v6 (strs P)) := by rw [hd10]; exact HQ9.out.drewN _
  have HW10 : Hid (w3.heap.size ≤ w10.heap.size) := by rw [hd10]; exact HW9
  have HV10 : Hid (w5.heap.size ≤ w10.heap.size) := by rw [hd10]; exact HV9
  clear hd10 HR9 HK9 HB9 HP9 HQ9 HW9 HV9
  go_wp2_with fail
  refine (markTexts w5.heap.size v6 P _ HQ10.out HV10.out (by rw [HPL.out]; omega)).mono ?_
  rintro e w11 ⟨rfl, ho11, hb11⟩
  rw [HPL.out] at ho11 ⊢
  have HM11 := Lib.hid ho11
  have HR11 := Lib.hid (HR10.out.keep hb11 (Nat.lt_of_lt_of_le HR3lt.out HW35.out))
  have HK11 := Lib.hid (HK10.out.keep hb11 (Nat.lt_of_lt_of_le HK3lt.out HW35.out))
  have HB11 := Lib.hid (HB10.out.trans (hb11.mono (Nat.le_trans HB3s.out HW35.out)))
  have HP11 := Lib.hid (HP10.out.under (fun g hg => Nat.lt_of_lt_of_le (HLT3.out g hg) HW35.out) hb11)
  have hpp : ¬ ((1 : Int) + (p : Nat) < 0) := by omega
  clear ho11 hb11 HR10 HK10 HB10 HP10 HQ10 HW10 HV10
  go_wp2_with fail
  refine (heldTexts v6 p _ HM11.out (by omega)).mono ?_
  rintro e w12 ⟨rfl, hb12⟩
  have HM12 := Lib.hid (HM11.out.kept hb12)
  have HR12 := Lib.hid (HR11.out.kept hb12)
  have HK12 := Lib.hid (HK11.out.kept hb12)
  have HB12 := Lib.hid (HB11.out.trans (hb12.mono HB11.out.size))
  have HP12 := Lib.hid (HP11.out.kept hb12)
  clear hb12 HM11 HR11 HK11 HB11 HP11
  go_wp2
  have HXA12 : Hid (∀ W', Below w12.heap.size w12 W' → (W'.cell? ⟨W.heap.size, 0, none⟩ = some (.string s) ∧ W'.cell? ⟨W.heap.size, 1, none⟩ = some (.int .i64 n) ∧ W'.cell? ⟨W.heap.size, 2, none⟩ = some (.slice a m cap) ∧ W'.cell? ⟨W.heap.size + 1, 0, none⟩ = some (.string b) ∧ W'.cell? ⟨W.heap.size + 1, 1, none⟩ = some (.string q) ∧ Below w12.heap.size w12 W')) := Lib.hid (fun W' h => by
    have hR := HR12.out.keep h HR12.out.lt
    have hK := HK12.out.keep h HK12.out.lt
    exact ⟨hR.cell 0 rfl, hR.cell 1 rfl, hR.cell 2 rfl, hK.cell 0 rfl, hK.cell 1 rfl, h⟩)
  have HTM12 : Hid (∀ W', Below w12.heap.size w12 W' → Calls Try.prog 68 #[.agg #[.string s, .int .i64 n, .slice a m cap]] W' fun e w' => (∃ a7 k7, e = .returned (.agg #[.string s, .int .i64 n, .slice a7 m k7]) ∧ Own w' 9 (.slice a7 m k7) (strs L)) ∧ Below w12.heap.size w12 w') := Lib.hid (fun W' h => (HTO2.out W' (HA.out.kept (HB12.out.trans (h.mono HB12.out.size)))).mono fun e w' hw => by
    obtain ⟨v7, rfl, hn7, hb7⟩ := hw
    obtain ⟨a7, k7, rfl, -⟩ := hn7.own.view
    have ho := hn7.own
    rw [strs_len, HLL.out] at ho ⊢
    exact ⟨⟨a7, k7, rfl, ho⟩, h.trans (hb7.mono h.size)⟩)
  have HTC12 : Hid (∀ W', Below w12.heap.size w12 W' → Calls Try.prog 69 #[.agg #[.string b, .string q]] W' fun e w' => e = .returned (.agg #[.string b, .string q]) ∧ Below W'.heap.size W' w' ∧ Below w12.heap.size w12 w') := Lib.hid (fun W' h => (toCalls_any b q W').mono fun e w' hw => ⟨hw.1, hw.2, h.trans (hw.2.mono h.size)⟩)
  have HF12 : Hid (∀ u W', Below w12.heap.size w12 W' → Txts W' u L → Calls Try.prog 42 #[.agg #[.string s, .int .i64 n, u], .agg #[.string b, .string q], .string r0] W' fun e w' => (∃ v, e = .returned (.tuple #[v, .bool flag]) ∧ New w12.heap.size w' 9 v (strs P)) ∧ Below w12.heap.size w12 w') := Lib.hid (fun u W' h ht => (HI.out u W' ht).mono fun e w' hw => by
    obtain ⟨v8, rfl, hn8, hb8⟩ := hw
    exact ⟨⟨v8, rfl, hn8.lower h.size⟩, h.trans (hb8.mono h.size)⟩)
  go_region_held3 (fun w' => w'.cell? ⟨W.heap.size, 0, none⟩ = some (.string s) ∧ w'.cell? ⟨W.heap.size, 1, none⟩ = some (.int .i64 n) ∧ w'.cell? ⟨W.heap.size, 2, none⟩ = some (.slice a m cap) ∧ w'.cell? ⟨W.heap.size + 1, 0, none⟩ = some (.string b) ∧ w'.cell? ⟨W.heap.size + 1, 1, none⟩ = some (.string q) ∧ Below w12.heap.size w12 w') (first | assumption | exact HXA12.out _ (Below.refl _ _).drew) (first | (go_at_call 68; refine (HTM12.out _ (by first | exact (Below.refl _ _).drew | exact Below.refl _ _)).mono ?_; rintro ea14 wa14 ⟨⟨aa14, ka14, rfl, hoa14⟩, hba14⟩; have hSa14 := HXA12.out _ hba14) | (go_at_call 69; refine (HTC12.out _ hba14).mono ?_; rintro eb14 wb14 ⟨rfl, hc14, hbb14⟩; have hSb14 := HXA12.out _ hbb14) | (go_at_call 42; refine (HF12.out _ _ hbb14 (hoa14.kept hc14).txts).mono ?_; rintro ec14 w14 ⟨⟨v14, rfl, hn14⟩, hb14⟩; have hSc14 := HXA12.out _ hb14) | fail)
  have HM14 := Lib.hid (HM12.out.kept hb14)
  have HB14 := Lib.hid (HB12.out.trans (hb14.mono HB12.out.size))
  have HP14 := Lib.hid (HP12.out.kept hb14)
  have HQ14 := Lib.hid hn14.own
  clear hb14 hn14 HM12 HB12 HP12 HR12 HK12 HXA12 HTC12 HF12 hSb14 hSc14 hc14 hbb14 HTM12 hSa14 hba14 hoa14
  go_wp2_with fail
  refine (eqStringS_same v14 v3 P _ HQ14.out HP14.out (by rw [HPL.out]; omega)).mono ?_
  rintro e w15 ⟨rfl, d15, hd15⟩
  have HM15 : Hid (Own w15 9 v6 (strs (smarks 1 p))) := by rw [hd15]; exact HM14.out.drewN _
  have HB15 : Hid (Below W.heap.size W w15) := by rw [hd15]; exact below_drewN HB14.out _
  clear hd15 HM14 HB14 HP14 HQ14
  go_wp2_with fail
  refine (heldTexts v6 p _ HM15.out (by omega)).mono ?_
  rintro e w16 ⟨rfl, hb16⟩
  go_wp2
  go_ret
  exact ⟨rfl, HB15.out.trans (hb16.mono HB15.out.size)⟩

end Go.Proofs.Ytkhglknpcajmiaa
