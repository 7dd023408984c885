/- The law FnExactIsRound. -/
import Derived.Test.YtkhglknpcajmiaaXT
import Derived.Deep.RegionHeld3
namespace Go.Proofs.Ytkhglknpcajmiaa
open Go.RowKit
set_option linter.unusedSimpArgs false
set_option linter.unusedVariables false

set_option maxRecDepth 100000 in
set_option maxHeartbeats 1000000 in
theorem lawIsRound (s : ByteArray) (n : Int) (v : Value) (ss : List ByteArray) (b q : ByteArray) (r0 : ByteArray) (W : World) (hsz : s.size ≤ maxLen) (hA : Arg W v ss) (hy : ss.length ≤ maxLen ∧ ∀ t ∈ ss, t.size ≤ maxLen) (hkb : b.size ≤ maxLen) (hkq : q.size ≤ maxLen) (hr0 : r0.size ≤ maxLen) :
    Calls Try.prog 11 #[.agg #[.string s, .int .i64 n, v], .agg #[.string b, .string q], .string r0] W fun e w' => e = .returned (.bool true) ∧ Below W.heap.size W w' := by
  obtain ⟨a, cap, rfl, -⟩ := id hA
  have HBO : Hid (s.size ≤ 1048576 → ss.length ≤ 1048576 → (∀ t ∈ ss, t.size ≤ 1048576) → _) := Lib.hid (fun h1 h2 h3 => bothIsRound s (by simp only [maxLen]; omega) n (letss ss) (by rw [letss_len]; omega) (small_letss hy.2) b q hkb hkq r0 hr0)
  have HSZ : Hid (∀ w, Arg w (.slice a ss.length cap) ss → Calls Try.prog 66 #[.agg #[.string s, .int .i64 n, .slice a ss.length cap], .int .i64 1048576] w _) := Lib.hid (fun w h => szMethod_any s hsz n (.slice a ss.length cap) ss w h hy.1 hy.2 1048576 (by omega) (by omega))
  have HSK := Lib.hid (szCalls_any b q hkb hkq)
  have HTO : Hid (ss.length ≤ 1048576 → ∀ w, Arg w (.slice a ss.length cap) ss → Calls Try.prog 68 #[.agg #[.string s, .int .i64 n, .slice a ss.length cap]] w (MethOut s n (letss ss) w)) := Lib.hid (fun h2 w h => toMethod_any s n (.slice a ss.length cap) ss w h (by omega))
  have HLL := Lib.hid (letss_len ss)
  have HA := Lib.hid hA
  have HR0 := Lib.hid ((RowAt.new W 65 #[.string s, .int .i64 n, .slice a ss.length cap]).push (.cells #[.string b, .string q] 66))
  have HK0 : Hid (RowAt ((W.alloc (.cells #[.string s, .int .i64 n, .slice a ss.length cap] 65)).alloc (.cells #[.string b, .string q] 66)) (W.heap.size + 1) 66 #[.string b, .string q]) := Lib.hid (by
    have := RowAt.new (W.alloc (.cells #[.string s, .int .i64 n, .slice a ss.length cap] 65)) 66 #[.string b, .string q]
    simpa using this)
  have HB0 := Lib.hid (((Below.refl _ W).alloc (Nat.le_refl _) (.cells #[.string s, .int .i64 n, .slice a ss.length cap] 65)).alloc (by simp) (.cells #[.string b, .string q] 66))
  unfold MethOut at HTO
  generalize letss ss = L at *
  generalize hm : ss.length = m at *
  have HMM := Lib.hid hm
  clear hA hy hsz hm hkb hkq
  by_cases hbigr0 : 1048576 < r0.size
  · have hbigr0' : (1048576 : Int) < r0.size := by omega
    go_enter Try.func11, Try.ntmps11
    go_wp2
    go_ret
    exact ⟨rfl, HB0.out⟩
  have hbigr0' : (r0.size : Int) ≤ 1048576 := by omega
  clear hbigr0
  go_enter Try.func11, Try.ntmps11
  go_wp2_with (first | (refine wpList_load_row rfl 65 _ rfl _ rfl 65 _ _ _ (HR0.out) Try.underlying65 rfl (by kernel_rfl) ?_) | fail)
  refine (HSZ.out _ (HA.out.kept HB0.out)).mono ?_
  rintro e w1 ⟨z, rfl, hz0, hz1, hz2, hb1⟩
  have HR1 := Lib.hid (HR0.out.kept hb1)
  have HK1 := Lib.hid (HK0.out.kept hb1)
  have HB1 := Lib.hid (HB0.out.trans (hb1.mono HB0.out.size))
  clear HR0 HB0 HK0 hb1 HSZ
  by_cases hneg : z < 0
  · clear hz2
    go_wp2
    go_ret
    exact ⟨rfl, HB1.out⟩
  have hz3 := hz2 (by omega)
  obtain ⟨hs1, hs2, hs3⟩ := hz3
  have hm2 : m ≤ 1048576 := by omega
  have HTO2 := Lib.hid (HTO.out hm2)
  have hboth := HBO.out (by omega) (by omega) (fun t ht => by have := hs3 t ht; omega)
  clear HBO HTO hz2 hs1 hs2 hs3
  obtain ⟨res, flag, hI, hS⟩ := hboth
  have HI := Lib.hid hI
  have HS := Lib.hid hS
  clear hI hS
  go_wp2_with (first | (refine wpList_load_row rfl 66 _ rfl _ rfl 66 _ _ _ (HK1.out) Try.underlying66 rfl (by kernel_rfl) ?_) | fail)
  refine (HSK.out _ z (by omega) hz1).mono ?_
  rintro e w2 ⟨y, rfl, hy1, -, hb2⟩
  have HR2 := Lib.hid (HR1.out.kept hb2)
  have HK2 := Lib.hid (HK1.out.kept hb2)
  have HB2 := Lib.hid (HB1.out.trans (hb2.mono HB1.out.size))
  clear HR1 HB1 HK1 hb2 HSK
  by_cases hneg2 : y < 0
  · go_wp2
    go_ret
    exact ⟨rfl, HB2.out⟩
  go_wp2
  have HXA2 : Hid (∀ W', Below w2.heap.size w2 W' → (W'.cell? ⟨W.heap.size, 0, none⟩ = some (.string s) ∧ W'.cell? ⟨W.heap.size, 1, none⟩ = some (.int .i64 n) ∧ W'.cell? ⟨W.heap.size, 2, none⟩ = some (.slice a m cap) ∧ W'.cell? ⟨W.heap.size + 1, 0, none⟩ = some (.string b) ∧ W'.cell? ⟨W.heap.size + 1, 1, none⟩ = some (.string q) ∧ Below w2.heap.size w2 W')) := Lib.hid (fun W' h => by
    have hR := HR2.out.keep h HR2.out.lt
    have hK := HK2.out.keep h HK2.out.lt
    exact ⟨hR.cell 0 rfl, hR.cell 1 rfl, hR.cell 2 rfl, hK.cell 0 rfl, hK.cell 1 rfl, h⟩)
  have HTM2 : Hid (∀ W', Below w2.heap.size w2 W' → Calls Try.prog 68 #[.agg #[.string s, .int .i64 n, .slice a m cap]] W' fun e w' => (∃ a7 k7, e = .returned (.agg #[.string s, .int .i64 n, .slice a7 m k7]) ∧ Own w' 9 (.slice a7 m k7) (strs L)) ∧ Below w2.heap.size w2 w') := Lib.hid (fun W' h => (HTO2.out W' (HA.out.kept (HB2.out.trans (h.mono HB2.out.size)))).mono fun e w' hw => by
    obtain ⟨v7, rfl, hn7, hb7⟩ := hw
    obtain ⟨a7, k7, rfl, -⟩ := hn7.own.view
    have ho := hn7.own
    rw [strs_len, HLL.out] at ho ⊢
    exact ⟨⟨a7, k7, rfl, ho⟩, h.trans (hb7.mono h.size)⟩)
  have HTC2 : Hid (∀ W', Below w2.heap.size w2 W' → Calls Try.prog 69 #[.agg #[.string b, .string q]] W' fun e w' => e = .returned (.agg #[.string b, .string q]) ∧ Below W'.heap.size W' w' ∧ Below w2.heap.size w2 w') := Lib.hid (fun W' h => (toCalls_any b q W').mono fun e w' hw => ⟨hw.1, hw.2, h.trans (hw.2.mono h.size)⟩)
  have HF2 : Hid (∀ u W', Below w2.heap.size w2 W' → Txts W' u L → Calls Try.prog 49 #[.agg #[.string s, .int .i64 n, u], .agg #[.string b, .string q], .string r0] W' fun e w' => e = .returned (.tuple #[.bool res, .bool flag]) ∧ Below w2.heap.size w2 w') := Lib.hid (fun u W' h ht => (HS.out u W' ht).mono fun e w' hw => ⟨hw.1, h.trans (hw.2.mono h.size)⟩)
  go_region_held3 (fun w' => w'.cell? ⟨W.heap.size, 0, none⟩ = some (.string s) ∧ w'.cell? ⟨W.heap.size, 1, none⟩ = some (.int .i64 n) ∧ w'.cell? ⟨W.heap.size, 2, none⟩ = some (.slice a m cap) ∧ w'.cell? ⟨W.heap.size + 1, 0, none⟩ = some (.string b) ∧ w'.cell? ⟨W.heap.size + 1, 1, none⟩ = some (.string q) ∧ Below w2.heap.size w2 w') (first | assumption | exact HXA2.out _ (Below.refl _ _).drew) (first | (go_at_call 68; refine (HTM2.out _ (by first | exact (Below.refl _ _).drew | exact Below.refl _ _)).mono ?_; rintro ea3 wa3 ⟨⟨aa3, ka3, rfl, hoa3⟩, hba3⟩; have hSa3 := HXA2.out _ hba3) | (go_at_call 69; refine (HTC2.out _ hba3).mono ?_; rintro eb3 wb3 ⟨rfl, hc3, hbb3⟩; have hSb3 := HXA2.out _ hbb3) | (go_at_call 49; refine (HF2.out _ _ hbb3 (hoa3.kept hc3).txts).mono ?_; rintro ec3 w3 ⟨rfl, hb3⟩; have hSc3 := HXA2.out _ hb3) | fail)
  have HR3 := Lib.hid (HR2.out.kept hb3)
  have HK3 := Lib.hid (HK2.out.kept hb3)
  have HB3 := Lib.hid (HB2.out.trans (hb3.mono HB2.out.size))
  clear HR2 HK2 HB2 hb3 HXA2 HTC2 HF2 hSb3 hSc3 hc3 hbb3 HTM2 hSa3 hba3 hoa3
  go_wp2_with (first | (refine wpList_load_row rfl 65 _ rfl _ rfl 65 _ _ _ (HR3.out) Try.underlying65 rfl (by kernel_rfl) ?_) | fail)
  refine (HTO2.out _ (HA.out.kept HB3.out)).mono ?_
  rintro e w4 ⟨v4, rfl, hn4, hb4⟩
  have HR4 := Lib.hid (HR3.out.kept hb4)
  have HK4 := Lib.hid (HK3.out.kept hb4)
  have HB4 := Lib.hid (HB3.out.trans (hb4.mono HB3.out.size))
  have HN4 := Lib.hid hn4
  obtain ⟨a4, k4, rfl, -⟩ := hn4.own.view
  rw [strs_len, HLL.out] at HN4 ⊢
  clear HR3 HK3 HB3 hn4 hb4
  have HX5 := Lib.hid (RowAt.new w4 25 #[.string s, .int .i64 n, .slice a4 m k4])
  have HR5 := Lib.hid (HR4.out.push (.cells #[.string s, .int .i64 n, .slice a4 m k4] 25))
  have HK5 := Lib.hid (HK4.out.push (.cells #[.string s, .int .i64 n, .slice a4 m k4] 25))
  have HB5 := Lib.hid (HB4.out.alloc HB4.out.size (.cells #[.string s, .int .i64 n, .slice a4 m k4] 25))
  have HN5 := Lib.hid (HN4.out.kept ((Below.refl _ _).alloc (Nat.le_refl _) (.cells #[.string s, .int .i64 n, .slice a4 m k4] 25)))
  clear HR4 HK4 HB4 HN4
  go_wp2_with (first | (refine wpList_store_row rfl 25 _ _ rfl _ _ rfl rfl 25 _ (heap_alloc_new _ _) (by kernel_rfl) rfl (by kernel_rfl) ?_; rw [World.setRow_alloc_new]) | fail)
  generalize w4.alloc (.cells #[.string s, .int .i64 n, .slice a4 m k4] 25) = w5 at *
  go_wp2
  have HXA5 : Hid (∀ W', Below w5.heap.size w5 W' → (W'.cell? ⟨w4.heap.size, 0, none⟩ = some (.string s) ∧ W'.cell? ⟨w4.heap.size, 1, none⟩ = some (.int .i64 n) ∧ W'.cell? ⟨w4.heap.size, 2, none⟩ = some (.slice a4 m k4) ∧ W'.cell? ⟨W.heap.size + 1, 0, none⟩ = some (.string b) ∧ W'.cell? ⟨W.heap.size + 1, 1, none⟩ = some (.string q) ∧ Below w5.heap.size w5 W')) := Lib.hid (fun W' h => by
    have hX := HX5.out.keep h HX5.out.lt
    have hK := HK5.out.keep h HK5.out.lt
    exact ⟨hX.cell 0 rfl, hX.cell 1 rfl, hX.cell 2 rfl, hK.cell 0 rfl, hK.cell 1 rfl, h⟩)
  have HTC5 : Hid (∀ W', Below w5.heap.size w5 W' → Calls Try.prog 69 #[.agg #[.string b, .string q]] W' fun e w' => e = .returned (.agg #[.string b, .string q]) ∧ Below W'.heap.size W' w' ∧ Below w5.heap.size w5 w') := Lib.hid (fun W' h => (toCalls_any b q W').mono fun e w' hw => ⟨hw.1, hw.2, h.trans (hw.2.mono h.size)⟩)
  have HF5 : Hid (∀ u W', Below w5.heap.size w5 W' → Txts W' u L → Calls Try.prog 48 #[.agg #[.string s, .int .i64 n, u], .agg #[.string b, .string q], .string r0] W' fun e w' => e = .returned (.tuple #[.bool res, .bool flag]) ∧ Below w5.heap.size w5 w') := Lib.hid (fun u W' h ht => (HI.out u W' ht).mono fun e w' hw => ⟨hw.1, h.trans (hw.2.mono h.size)⟩)
  go_region_held3 (fun w' => w'.cell? ⟨w4.heap.size, 0, none⟩ = some (.string s) ∧ w'.cell? ⟨w4.heap.size, 1, none⟩ = some (.int .i64 n) ∧ w'.cell? ⟨w4.heap.size, 2, none⟩ = some (.slice a4 m k4) ∧ w'.cell? ⟨W.heap.size + 1, 0, none⟩ = some (.string b) ∧ w'.cell? ⟨W.heap.size + 1, 1, none⟩ = some (.string q) ∧ Below w5.heap.size w5 w') (first | assumption | exact HXA5.out _ (Below.refl _ _).drew) (first | (go_at_call 69; refine (HTC5.out _ (by first | exact (Below.refl _ _).drew | exact Below.refl _ _)).mono ?_; rintro eb6 wb6 ⟨rfl, hc6, hbb6⟩; have hSb6 := HXA5.out _ hbb6) | (go_at_call 48; refine (HF5.out _ _ hbb6 (HN5.out.kept hbb6).own.txts).mono ?_; rintro ec6 w6 ⟨rfl, hb6⟩; have hSc6 := HXA5.out _ hb6) | fail)
  have HX6 := Lib.hid (HX5.out.kept hb6)
  have HR6 := Lib.hid (HR5.out.kept hb6)
  have HK6 := Lib.hid (HK5.out.kept hb6)
  have HB6 := Lib.hid (HB5.out.trans (hb6.mono HB5.out.size))
  have HN6 := Lib.hid (HN5.out.kept hb6)
  clear HX5 HR5 HK5 HB5 HN5 hb6 HXA5 HTC5 HF5 hSb6 hSc6 hc6 hbb6
  go_wp2
  have hltx := HX6.out.lt
  have hltr := HR6.out.lt
  have HX6A : Hid (∀ W', Below w6.heap.size w6 W' → (W'.cell? ⟨w4.heap.size, 0, none⟩ = some (.string s) ∧ W'.cell? ⟨w4.heap.size, 1, none⟩ = some (.int .i64 n) ∧ W'.cell? ⟨w4.heap.size, 2, none⟩ = some (.slice a4 m k4) ∧ W'.cell? ⟨W.heap.size, 0, none⟩ = some (.string s) ∧ W'.cell? ⟨W.heap.size, 1, none⟩ = some (.int .i64 n) ∧ W'.cell? ⟨W.heap.size, 2, none⟩ = some (.slice a m cap) ∧ Below w6.heap.size w6 W')) := Lib.hid (fun W' h => by
    have hx := HX6.out.keep h hltx
    have hr := HR6.out.keep h hltr
    exact ⟨hx.cell 0 rfl, hx.cell 1 rfl, hx.cell 2 rfl, hr.cell 0 rfl, hr.cell 1 rfl, hr.cell 2 rfl, h⟩)
  have HTO7 : Hid (∀ W', Below w6.heap.size w6 W' → Calls Try.prog 68 #[.agg #[.string s, .int .i64 n, .slice a m cap]] W' fun e w' => (∃ a7 k7, e = .returned (.agg #[.string s, .int .i64 n, .slice a7 m k7]) ∧ Own w' 9 (.slice a7 m k7) (strs L)) ∧ Below w6.heap.size w6 w') := Lib.hid (fun W' h => (HTO2.out W' (HA.out.kept (HB6.out.trans (h.mono HB6.out.size)))).mono fun e w' hw => by
    obtain ⟨v7, rfl, hn7, hb7⟩ := hw
    obtain ⟨a7, k7, rfl, -⟩ := hn7.own.view
    have ho := hn7.own
    rw [strs_len, HLL.out] at ho ⊢
    exact ⟨⟨a7, k7, rfl, ho⟩, h.trans (hb7.mono h.size)⟩)
  have HEQ7 : Hid (∀ W' a7 k7, Below w6.heap.size w6 W' → Own W' 9 (.slice a7 m k7) (strs L) → Calls Try.prog 71 #[.agg #[.string s, .int .i64 n, .slice a4 m k4], .agg #[.string s, .int .i64 n, .slice a7 m k7]] W' fun e w' => e = .returned (.bool true) ∧ Below w6.heap.size w6 w') := Lib.hid (fun W' a7 k7 h ho => (eqMethod_same s n _ _ L W' (HN6.out.kept h).own ho (by rw [HLL.out]; omega)).mono fun e w' hw => ⟨hw.1, h.trans (hw.2.mono h.size)⟩)
  clear hltx hltr
  go_region_held3 (fun w' => w'.cell? ⟨w4.heap.size, 0, none⟩ = some (.string s) ∧ w'.cell? ⟨w4.heap.size, 1, none⟩ = some (.int .i64 n) ∧ w'.cell? ⟨w4.heap.size, 2, none⟩ = some (.slice a4 m k4) ∧ w'.cell? ⟨W.heap.size, 0, none⟩ = some (.string s) ∧ w'.cell? ⟨W.heap.size, 1, none⟩ = some (.int .i64 n) ∧ w'.cell? ⟨W.heap.size, 2, none⟩ = some (.slice a m cap) ∧ Below w6.heap.size w6 w') (first | assumption | exact HX6A.out _ (Below.refl _ _).drew) (first | (go_at_call 68; refine (HTO7.out _ (by first | exact (Below.refl _ _).drew | exact Below.refl _ _)).mono ?_; rintro e7 w7 ⟨⟨a7, k7, rfl, ho7⟩, hb7⟩; have hS7 := HX6A.out _ hb7) | (go_at_call 71; refine (HEQ7.out _ _ _ hb7 ho7).mono ?_; rintro e8 w8 ⟨rfl, hb8⟩; have hS8 := HX6A.out _ hb8) | fail)
  go_wp2
  go_ret
  exact ⟨rfl, HB6.out.trans (hS8.2.2.2.2.2.2.mono HB6.out.size)⟩

end Go.Proofs.Ytkhglknpcajmiaa
