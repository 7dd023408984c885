/- The law FnExactCalledLead. -/
import Derived.Test.YtdldpmefadnlnaaQP
import Derived.Test.YtdldpmefadnlnaaQL
import Derived.Deep.DeepCutAuto
namespace Go.Proofs.Ytdldpmefadnlnaa
open Go.RowKit
set_option linter.unusedSimpArgs false
set_option linter.unusedVariables false

set_option maxRecDepth 100000 in
set_option maxHeartbeats 1000000 in
set_option maxHeartbeats 8000000 in
theorem lawCalledLead (s : ByteArray) (n : Int) (v : Value) (ss : List ByteArray) (b q : ByteArray) (r0 : ByteArray) (W : World) (hsz : s.size ≤ maxLen) (hA : Arg W v ss) (hy : ss.length ≤ maxLen ∧ ∀ t ∈ ss, t.size ≤ maxLen) (hkb : b.size ≤ maxLen) (hkq : q.size ≤ maxLen) (hr0 : r0.size ≤ maxLen) :
    Calls Try.prog 4 #[.agg #[.string s, .int .i64 n, v], .agg #[.string b, .string q], .string r0] W fun e w' => e = .returned (.bool true) ∧ Below W.heap.size W w' := by
  obtain ⟨a, cap, rfl, -⟩ := id hA
  have HBO : Hid (s.size ≤ 1048576 → ss.length ≤ 1048576 → (∀ t ∈ ss, t.size ≤ 1048576) → _) := Lib.hid (fun h1 h2 h3 => bothCalledLead s (by simp only [maxLen]; omega) n (letss ss) (by rw [letss_len]; omega) (small_letss hy.2) b q hkb hkq r0 hr0)
  have HSZ : Hid (∀ w, Arg w (.slice a ss.length cap) ss → Calls Try.prog 12 #[.agg #[.string s, .int .i64 n, .slice a ss.length cap], .int .i64 1048576] w _) := Lib.hid (fun w h => szMethod_any s hsz n (.slice a ss.length cap) ss w h hy.1 hy.2 1048576 (by omega) (by omega))
  have HSK := Lib.hid (szCalls_any b q hkb hkq)
  have HTO : Hid (ss.length ≤ 1048576 → ∀ w, Arg w (.slice a ss.length cap) ss → Calls Try.prog 15 #[.agg #[.string s, .int .i64 n, .slice a ss.length cap]] w (MethOut s n (letss ss) w)) := Lib.hid (fun h2 w h => toMethod_any s n (.slice a ss.length cap) ss w h (by omega))
  have HLL := Lib.hid (letss_len ss)
  have HA := Lib.hid hA
  have HR0 := Lib.hid ((RowAt.new W 24 #[.string s, .int .i64 n, .slice a ss.length cap]).push (.cells #[.string b, .string q] 26))
  have HK0 : Hid (RowAt ((W.alloc (.cells #[.string s, .int .i64 n, .slice a ss.length cap] 24)).alloc (.cells #[.string b, .string q] 26)) (W.heap.size + 1) 26 #[.string b, .string q]) := Lib.hid (by
    have := RowAt.new (W.alloc (.cells #[.string s, .int .i64 n, .slice a ss.length cap] 24)) 26 #[.string b, .string q]
    simpa using this)
  have HB0 := Lib.hid (((Below.refl _ W).alloc (Nat.le_refl _) (.cells #[.string s, .int .i64 n, .slice a ss.length cap] 24)).alloc (by simp) (.cells #[.string b, .string q] 26))
  unfold MethOut at HTO
  generalize letss ss = L at *
  generalize hm : ss.length = m at *
  have HMM := Lib.hid hm
  clear hA hy hsz hm hkb hkq
  by_cases hbigr0 : 1048576 < r0.size
  · have hbigr0' : (1048576 : Int) < r0.size := by omega
    go_enter Try.func4, Try.ntmps4
    go_wp2
    go_ret
    exact ⟨rfl, HB0.out⟩
  have hbigr0' : (r0.size : Int) ≤ 1048576 := by omega
  clear hbigr0
  go_enter Try.func4, Try.ntmps4
  go_wp2_with (first | (refine wpList_load_row rfl 24 _ rfl _ rfl 24 _ _ _ (HR0.out) Try.underlying24 rfl (by kernel_rfl) ?_) | fail)
  refine (HSZ.out _ (HA.out.kept HB0.out)).mono ?_
  rintro e w1 ⟨z, rfl, hz0, hz1, hz2, hb1⟩
  have HR1 := Lib.hid (HR0.out.kept hb1)
  have HK1 := Lib.hid (HK0.out.kept hb1)
  have HB1 := Lib.hid (HB0.out.trans (hb1.mono HB0.out.size))
  clear HR0 HB0 HK0 hb1 HSZ
  by_cases hneg : z < 0
  · clear hz2
    go_wp2
    go_ret
    exact ⟨rfl, HB1.out⟩
  have hz3 := hz2 (by omega)
  obtain ⟨hs1, hs2, hs3⟩ := hz3
  have hm2 : m ≤ 1048576 := by omega
  have HTO2 := Lib.hid (HTO.out hm2)
  have hboth := HBO.out (by omega) (by omega) (fun t ht => by have := hs3 t ht; omega)
  clear HBO HTO hz2 hs1 hs2 hs3
  obtain ⟨sp, np, P, flag, hpl, hI, hS⟩ := hboth
  have HI := Lib.hid hI
  have HS := Lib.hid hS
  clear hI hS
  obtain ⟨p, hp⟩ : ∃ p, P.length = p := ⟨_, rfl⟩
  rw [hp] at hpl
  have HPL := Lib.hid hp
  clear hp
  unfold MethK at HI HS
  go_wp2_with (first | (refine wpList_load_row rfl 26 _ rfl _ rfl 26 _ _ _ (HK1.out) Try.underlying26 rfl (by kernel_rfl) ?_) | fail)
  refine (HSK.out _ z (by omega) hz1).mono ?_
  rintro e w2 ⟨y, rfl, hy1, -, hb2⟩
  have HR2 := Lib.hid (HR1.out.kept hb2)
  have HK2 := Lib.hid (HK1.out.kept hb2)
  have HB2 := Lib.hid (HB1.out.trans (hb2.mono HB1.out.size))
  clear HR1 HB1 HK1 hb2 HSK
  by_cases hneg2 : y < 0
  · go_wp2
    go_ret
    exact ⟨rfl, HB2.out⟩
  go_wp2
  try simp only [Act.put, List.setIfInBounds_toArray, List.set_cons_zero, List.set_cons_succ]
  have HXA2 : Hid (∀ W', Below w2.heap.size w2 W' → (W'.cell? ⟨W.heap.size, 0, none⟩ = some (.string s) ∧ W'.cell? ⟨W.heap.size, 1, none⟩ = some (.int .i64 n) ∧ W'.cell? ⟨W.heap.size, 2, none⟩ = some (.slice a m cap) ∧ W'.cell? ⟨W.heap.size + 1, 0, none⟩ = some (.string b) ∧ W'.cell? ⟨W.heap.size + 1, 1, none⟩ = some (.string q))) := Lib.hid (fun W' h => by
    have hR := HR2.out.keep h HR2.out.lt
    have hK := HK2.out.keep h HK2.out.lt
    exact ⟨hR.cell 0 rfl, hR.cell 1 rfl, hR.cell 2 rfl, hK.cell 0 rfl, hK.cell 1 rfl⟩)
  have HTM2 : Hid (∀ W', Below w2.heap.size w2 W' → Calls Try.prog 15 #[.agg #[.string s, .int .i64 n, .slice a m cap]] W' fun e w' => (∃ a7 k7, e = .returned (.agg #[.string s, .int .i64 n, .slice a7 m k7]) ∧ Own w' 9 (.slice a7 m k7) (strs L)) ∧ Below W'.heap.size W' w' ∧ Below w2.heap.size w2 w') := Lib.hid (fun W' h => (HTO2.out W' (HA.out.kept (HB2.out.trans (h.mono HB2.out.size)))).mono fun e w' hw => by
    obtain ⟨v7, rfl, hn7, hb7⟩ := hw
    obtain ⟨a7, k7, rfl, -⟩ := hn7.own.view
    have ho := hn7.own
    rw [strs_len, HLL.out] at ho ⊢
    exact ⟨⟨a7, k7, rfl, ho⟩, hb7, h.trans (hb7.mono h.size)⟩)
  have HTC2 : Hid (∀ W', Below w2.heap.size w2 W' → Calls Try.prog 16 #[.agg #[.string b, .string q]] W' fun e w' => e = .returned (.agg #[.string b, .string q]) ∧ Below W'.heap.size W' w' ∧ Below w2.heap.size w2 w') := Lib.hid (fun W' h => (toCalls_any b q W').mono fun e w' hw => ⟨hw.1, hw.2, h.trans (hw.2.mono h.size)⟩)
  have HF2 : Hid (∀ u W', Below w2.heap.size w2 W' → Txts W' u L → Calls Try.prog 19 #[.agg #[.string s, .int .i64 n, u], .agg #[.string b, .string q], .string r0] W' fun e w' => (∃ a8 k8, e = .returned (.tuple #[.agg #[.string sp, .int .i64 np, .slice a8 p k8], .bool flag]) ∧ New w2.heap.size w' 9 (.slice a8 p k8) (strs P)) ∧ Below W'.heap.size W' w' ∧ Below w2.heap.size w2 w') := Lib.hid (fun u W' h ht => (HS.out u W' ht).mono fun e w' hw => by
    obtain ⟨v8, rfl, hn8, hb8⟩ := hw
    obtain ⟨a8, k8, rfl, -⟩ := hn8.own.view
    have hn9 := hn8.lower h.size
    rw [strs_len, HPL.out] at hn9 ⊢
    exact ⟨⟨a8, k8, rfl, hn9⟩, hb8, h.trans (hb8.mono h.size)⟩)
  go_cut [8, 9] (fun pv fl w' => fl = .bool flag ∧ ∃ g a3 k3, pv = .pointer (some ⟨g, 0, none⟩) ∧ RowAt w' g 30 #[.string sp, .int .i64 np, .slice a3 p k3] ∧ New w2.heap.size w' 9 (.slice a3 p k3) (strs P) ∧ w2.heap.size ≤ g ∧ Below w2.heap.size w2 w')
  case first =>
    go_region_held3 (fun w' => w'.cell? ⟨W.heap.size, 0, none⟩ = some (.string s) ∧ w'.cell? ⟨W.heap.size, 1, none⟩ = some (.int .i64 n) ∧ w'.cell? ⟨W.heap.size, 2, none⟩ = some (.slice a m cap) ∧ w'.cell? ⟨W.heap.size + 1, 0, none⟩ = some (.string b) ∧ w'.cell? ⟨W.heap.size + 1, 1, none⟩ = some (.string q)) (first | assumption | exact HXA2.out _ (Below.refl _ _).drew | exact HXA2.out _ ((Below.refl _ _).drew.alloc (by simp) _) | exact HXA2.out _ (((hbk.setCell hgz _).setCell hgz _).setCell hgz _) | exact HXA2.out _ (hbk.alloc hbk.size _) | exact HXA2.out _ (hbb.alloc hbb.size _) | exact HXA2.out _ (hba.alloc hba.size _)) (first | (go_at_call 15; refine (HTM2.out _ (Below.refl _ _).drew).mono ?_; rintro ea wa ⟨⟨aa, ka, rfl, hoa⟩, hca, hba⟩; have hSa := HXA2.out _ hba) | (go_at_call 15; refine (HTM2.out _ ((Below.refl _ _).drew.alloc (by simp) _)).mono ?_; rintro ea wa ⟨⟨aa, ka, rfl, hoa⟩, hca, hba⟩; have hSa := HXA2.out _ hba; have hza : RowAt wa w2.heap.size 30 #[.string ⟨#[]⟩, .int .i64 0, .slice none 0 0] := (RowAt.new w2.drew 30 #[.string ⟨#[]⟩, .int .i64 0, .slice none 0 0]).kept hca; have hgz : w2.heap.size ≤ w2.heap.size := Nat.le_refl _) | (go_at_call 16; refine (HTC2.out _ hba).mono ?_; rintro eb wb ⟨rfl, hcb, hbb⟩; have hSb := HXA2.out _ hbb; have hob := hoa.kept hcb; have hzb := hza.kept hcb) | (go_at_call 16; refine (HTC2.out _ (hba.alloc hba.size _)).mono ?_; rintro eb wb ⟨rfl, hcb, hbb⟩; have hSb := HXA2.out _ hbb; have hob := (hoa.kept ((Below.refl _ _).alloc (Nat.le_refl _) _)).kept hcb; have hzb := (RowAt.new wa 30 #[.string ⟨#[]⟩, .int .i64 0, .slice none 0 0]).kept hcb; have hgz := hba.size) | (go_at_call 16; refine (HTC2.out _ hba).mono ?_; rintro eb wb ⟨rfl, hcb, hbb⟩; have hSb := HXA2.out _ hbb; have hob := hoa.kept hcb) | (go_at_call 19; refine (HF2.out _ _ hbb hob.txts).mono ?_; rintro ec wk ⟨⟨a9, k9, rfl, hn9⟩, hcc, hbk⟩; have hSc := HXA2.out _ hbk; have hzk := hzb.kept hcc; have z0 := hzk.cell 0 rfl; have z1 := hzk.cell 1 rfl; have z2 := hzk.cell 2 rfl; have f0 := hzk.free 0; have f1 := hzk.free 1; have f2 := hzk.free 2) | (go_at_call 19; refine (HF2.out _ _ (hbb.alloc hbb.size _) (hob.kept ((Below.refl _ _).alloc (Nat.le_refl _) _)).txts).mono ?_; rintro ec wk ⟨⟨a9, k9, rfl, hn9⟩, hcc, hbk⟩; have hSc := HXA2.out _ hbk; have hzk := (RowAt.new wb 30 #[.string ⟨#[]⟩, .int .i64 0, .slice none 0 0]).kept hcc; have hgz := hbb.size; have z0 := hzk.cell 0 rfl; have z1 := hzk.cell 1 rfl; have z2 := hzk.cell 2 rfl; have f0 := hzk.free 0; have f1 := hzk.free 1; have f2 := hzk.free 2) | (go_at_call 19; refine (HF2.out _ _ hbb hob.txts).mono ?_; rintro ec wk ⟨⟨a9, k9, rfl, hn9⟩, hcc, hbk⟩; have hSc := HXA2.out _ hbk) | fail)
    · go_wp2_with fail
      go_meet
      exact ⟨rfl, _, _, _, rfl, RowAt.new _ _ _, hn9.kept ((Below.refl _ _).alloc (Nat.le_refl _) _), hbk.size, hbk.alloc hbk.size _⟩
    all_goals
      have hap := hn9.apartRow hzk (by decide)
      have hr9 := ((hzk.set 0 (.string sp)).set 1 (.int .i64 np)).set 2 (.slice a9 p k9)
      have hn8 := ((hn9.setOther _ 0 (.string sp) hap).setOther _ 1 (.int .i64 np) hap).setOther _ 2 (.slice a9 p k9) hap
      have hb9 := (((hbk.setCell (p := ⟨_, 0, none⟩) hgz (.string sp)).setCell (p := ⟨_, 1, none⟩) hgz (.int .i64 np)).setCell (p := ⟨_, 2, none⟩) hgz (.slice a9 p k9))
      go_wp2_with fail
      go_meet
      exact ⟨rfl, _, _, _, rfl, hr9, hn8, hgz, hb9⟩
  case rest =>
  revert hcut
  revert wc
  intro w3a hcut
  obtain ⟨rfl, g3a, a3, k3, rfl, hrow, hnew, hge, hbel⟩ := hcut
  have HR3a := Lib.hid (HR2.out.kept hbel)
  have HK3a := Lib.hid (HK2.out.kept hbel)
  have HB3a := Lib.hid (HB2.out.trans (hbel.mono HB2.out.size))
  have HY3a := Lib.hid hrow
  have HP3a := Lib.hid hnew.own
  have HLT3a : Hid (∀ g, (Value.slice a3 p k3).ownBlock = some g → g < w3a.heap.size) := Lib.hid (fun g hg => HP3a.out.lt g hg)
  have HY3lt := Lib.hid HY3a.out.lt
  have HR3lt := Lib.hid HR3a.out.lt
  have HK3lt := Lib.hid HK3a.out.lt
  have HB3s := Lib.hid HB3a.out.size
  clear hrow hnew hge hbel HR2 HK2 HB2 HXA2 HTC2 HF2 HTM2
  go_wp2_with (first | (refine wpList_load_row rfl 24 _ rfl _ rfl 24 _ _ _ (HR3a.out) Try.underlying24 rfl (by kernel_rfl) ?_) | fail)
  refine (HTO2.out _ (HA.out.kept HB3a.out)).mono ?_
  rintro e w4 ⟨v4, rfl, hn4, hb4⟩
  have HP4 := Lib.hid (HP3a.out.kept hb4)
  have HY4 := Lib.hid (HY3a.out.kept hb4)
  have HW4 := Lib.hid hb4.size
  have HR4 := Lib.hid (HR3a.out.kept hb4)
  have HK4 := Lib.hid (HK3a.out.kept hb4)
  have HB4 := Lib.hid (HB3a.out.trans (hb4.mono HB3a.out.size))
  have HN4 := Lib.hid hn4
  obtain ⟨a4, k4, rfl, -⟩ := hn4.own.view
  rw [strs_len, HLL.out] at HN4 ⊢
  clear HR3a HK3a HB3a hn4 hb4 HP3a HY3a
  have HX5 := Lib.hid (RowAt.new w4 30 #[.string s, .int .i64 n, .slice a4 m k4])
  have HR5 := Lib.hid (HR4.out.push (.cells #[.string s, .int .i64 n, .slice a4 m k4] 30))
  have HK5 := Lib.hid (HK4.out.push (.cells #[.string s, .int .i64 n, .slice a4 m k4] 30))
  have HY5 := Lib.hid (HY4.out.push (.cells #[.string s, .int .i64 n, .slice a4 m k4] 30))
  have HB5 := Lib.hid (HB4.out.alloc HB4.out.size (.cells #[.string s, .int .i64 n, .slice a4 m k4] 30))
  have HN5 := Lib.hid (HN4.out.kept ((Below.refl _ _).alloc (Nat.le_refl _) (.cells #[.string s, .int .i64 n, .slice a4 m k4] 30)))
  have HP5 := Lib.hid (HP4.out.kept ((Below.refl _ _).alloc (Nat.le_refl _) (.cells #[.string s, .int .i64 n, .slice a4 m k4] 30)))
  have HW5 := Lib.hid (Nat.le_trans HW4.out ((Below.refl w4.heap.size _).alloc (Nat.le_refl _) (.cells #[.string s, .int .i64 n, .slice a4 m k4] 30)).size)
  clear HR4 HK4 HB4 HN4 HP4 HW4 HY4
  go_wp2_with (first | (refine wpList_store_row rfl 30 _ _ rfl _ _ rfl rfl 30 _ (heap_alloc_new _ _) (by kernel_rfl) rfl (by kernel_rfl) ?_; rw [World.setRow_alloc_new]) | fail)
  generalize w4.alloc (.cells #[.string s, .int .i64 n, .slice a4 m k4] 30) = w5 at *
  have HLT5 : Hid (∀ g, (Value.slice a4 m k4).ownBlock = some g → g < w5.heap.size) := Lib.hid (fun g hg => HN5.out.own.lt g hg)
  have HW35 := Lib.hid HW5.out
  go_wp2
  try simp only [Act.put, List.setIfInBounds_toArray, List.set_cons_zero, List.set_cons_succ]
  have HXA5 : Hid (∀ W', Below w5.heap.size w5 W' → (W'.cell? ⟨w4.heap.size, 0, none⟩ = some (.string s) ∧ W'.cell? ⟨w4.heap.size, 1, none⟩ = some (.int .i64 n) ∧ W'.cell? ⟨w4.heap.size, 2, none⟩ = some (.slice a4 m k4) ∧ W'.cell? ⟨W.heap.size + 1, 0, none⟩ = some (.string b) ∧ W'.cell? ⟨W.heap.size + 1, 1, none⟩ = some (.string q))) := Lib.hid (fun W' h => by
    have hX := HX5.out.keep h HX5.out.lt
    have hK := HK5.out.keep h HK5.out.lt
    exact ⟨hX.cell 0 rfl, hX.cell 1 rfl, hX.cell 2 rfl, hK.cell 0 rfl, hK.cell 1 rfl⟩)
  have HTC5 : Hid (∀ W', Below w5.heap.size w5 W' → Calls Try.prog 16 #[.agg #[.string b, .string q]] W' fun e w' => e = .returned (.agg #[.string b, .string q]) ∧ Below W'.heap.size W' w' ∧ Below w5.heap.size w5 w') := Lib.hid (fun W' h => (toCalls_any b q W').mono fun e w' hw => ⟨hw.1, hw.2, h.trans (hw.2.mono h.size)⟩)
  have HF5 : Hid (∀ u W', Below w5.heap.size w5 W' → Txts W' u L → Calls Try.prog 20 #[.agg #[.string s, .int .i64 n, u], .agg #[.string b, .string q], .string r0] W' fun e w' => (∃ a8 k8, e = .returned (.tuple #[.agg #[.string sp, .int .i64 np, .slice a8 p k8], .bool flag]) ∧ New w5.heap.size w' 9 (.slice a8 p k8) (strs P)) ∧ Below W'.heap.size W' w' ∧ Below w5.heap.size w5 w') := Lib.hid (fun u W' h ht => (HI.out u W' ht).mono fun e w' hw => by
    obtain ⟨v8, rfl, hn8, hb8⟩ := hw
    obtain ⟨a8, k8, rfl, -⟩ := hn8.own.view
    have hn9 := hn8.lower h.size
    rw [strs_len, HPL.out] at hn9 ⊢
    exact ⟨⟨a8, k8, rfl, hn9⟩, hb8, h.trans (hb8.mono h.size)⟩)
  go_cut [11, 12] (fun pv fl w' => fl = .bool flag ∧ ∃ g a3 k3, pv = .pointer (some ⟨g, 0, none⟩) ∧ RowAt w' g 30 #[.string sp, .int .i64 np, .slice a3 p k3] ∧ New w5.heap.size w' 9 (.slice a3 p k3) (strs P) ∧ w5.heap.size ≤ g ∧ Below w5.heap.size w5 w')
  case first =>
    go_region_held3 (fun w' => w'.cell? ⟨w4.heap.size, 0, none⟩ = some (.string s) ∧ w'.cell? ⟨w4.heap.size, 1, none⟩ = some (.int .i64 n) ∧ w'.cell? ⟨w4.heap.size, 2, none⟩ = some (.slice a4 m k4) ∧ w'.cell? ⟨W.heap.size + 1, 0, none⟩ = some (.string b) ∧ w'.cell? ⟨W.heap.size + 1, 1, none⟩ = some (.string q)) (first | assumption | exact HXA5.out _ (Below.refl _ _).drew | exact HXA5.out _ ((Below.refl _ _).drew.alloc (by simp) _) | exact HXA5.out _ (((hbk.setCell hgz _).setCell hgz _).setCell hgz _) | exact HXA5.out _ (hbk.alloc hbk.size _) | exact HXA5.out _ (hbb.alloc hbb.size _)) (first | (go_at_call 16; refine (HTC5.out _ (Below.refl _ _).drew).mono ?_; rintro eb wb ⟨rfl, hcb, hbb⟩; have hSb := HXA5.out _ hbb; have hob := (HN5.out.kept hbb).own) | (go_at_call 16; refine (HTC5.out _ ((Below.refl _ _).drew.alloc (by simp) _)).mono ?_; rintro eb wb ⟨rfl, hcb, hbb⟩; have hSb := HXA5.out _ hbb; have hob := (HN5.out.kept hbb).own; have hzb : RowAt wb w5.heap.size 30 #[.string ⟨#[]⟩, .int .i64 0, .slice none 0 0] := (RowAt.new w5.drew 30 #[.string ⟨#[]⟩, .int .i64 0, .slice none 0 0]).kept hcb; have hgz : w5.heap.size ≤ w5.heap.size := Nat.le_refl _) | (go_at_call 20; refine (HF5.out _ _ hbb hob.txts).mono ?_; rintro ec wk ⟨⟨a9, k9, rfl, hn9⟩, hcc, hbk⟩; have hSc := HXA5.out _ hbk; have hzk := hzb.kept hcc; have z0 := hzk.cell 0 rfl; have z1 := hzk.cell 1 rfl; have z2 := hzk.cell 2 rfl; have f0 := hzk.free 0; have f1 := hzk.free 1; have f2 := hzk.free 2) | (go_at_call 20; refine (HF5.out _ _ (hbb.alloc hbb.size _) (hob.kept ((Below.refl _ _).alloc (Nat.le_refl _) _)).txts).mono ?_; rintro ec wk ⟨⟨a9, k9, rfl, hn9⟩, hcc, hbk⟩; have hSc := HXA5.out _ hbk; have hzk := (RowAt.new wb 30 #[.string ⟨#[]⟩, .int .i64 0, .slice none 0 0]).kept hcc; have hgz := hbb.size; have z0 := hzk.cell 0 rfl; have z1 := hzk.cell 1 rfl; have z2 := hzk.cell 2 rfl; have f0 := hzk.free 0; have f1 := hzk.free 1; have f2 := hzk.free 2) | (go_at_call 20; refine (HF5.out _ _ hbb hob.txts).mono ?_; rintro ec wk ⟨⟨a9, k9, rfl, hn9⟩, hcc, hbk⟩; have hSc := HXA5.out _ hbk) | fail)
    · go_wp2_with fail
      go_meet
      exact ⟨rfl, _, _, _, rfl, RowAt.new _ _ _, hn9.kept ((Below.refl _ _).alloc (Nat.le_refl _) _), hbk.size, hbk.alloc hbk.size _⟩
    all_goals
      have hap := hn9.apartRow hzk (by decide)
      have hr9 := ((hzk.set 0 (.string sp)).set 1 (.int .i64 np)).set 2 (.slice a9 p k9)
      have hn8 := ((hn9.setOther _ 0 (.string sp) hap).setOther _ 1 (.int .i64 np) hap).setOther _ 2 (.slice a9 p k9) hap
      have hb9 := (((hbk.setCell (p := ⟨_, 0, none⟩) hgz (.string sp)).setCell (p := ⟨_, 1, none⟩) hgz (.int .i64 np)).setCell (p := ⟨_, 2, none⟩) hgz (.slice a9 p k9))
      go_wp2_with fail
      go_meet
      exact ⟨rfl, _, _, _, rfl, hr9, hn8, hgz, hb9⟩
  case rest =>
  revert hcut
  revert wc
  intro w5c hcut
  obtain ⟨rfl, g5c, a6, k6, rfl, hrow, hnew, hge, hbel⟩ := hcut
  have HX5c := Lib.hid (HX5.out.kept hbel)
  have HR5c := Lib.hid (HR5.out.kept hbel)
  have HK5c := Lib.hid (HK5.out.kept hbel)
  have HY5c := Lib.hid (HY5.out.kept hbel)
  have HB5c := Lib.hid (HB5.out.trans (hbel.mono HB5.out.size))
  have HN5c := Lib.hid (HN5.out.kept hbel)
  have HP5c := Lib.hid (HP5.out.kept hbel)
  have HQ5c := Lib.hid hnew
  have HG5c := Lib.hid hrow
  have HW5c := Lib.hid (Nat.le_trans HW5.out hbel.size)
  have HV5c := Lib.hid hbel.size
  clear hrow hnew hge hbel HX5 HR5 HK5 HB5 HN5 HP5 HW5 HY5 HXA5 HTC5 HF5
  go_wp2_with (first | (refine wpList_load_row rfl 30 _ rfl _ rfl 30 _ _ _ (HG5c.out) Try.underlying30 rfl (by kernel_rfl) ?_) | (refine wpList_load_row rfl 30 _ rfl _ rfl 30 _ _ _ (HY5c.out) Try.underlying30 rfl (by kernel_rfl) ?_) | fail)
  refine (eqMethod_same sp np _ _ P _ HQ5c.out.own HP5c.out (by rw [HPL.out]; omega)).mono ?_
  rintro e w6 ⟨rfl, hb6⟩
  have HX6 := Lib.hid (HX5c.out.kept hb6)
  have HR6 := Lib.hid (HR5c.out.kept hb6)
  have HK6 := Lib.hid (HK5c.out.kept hb6)
  have HY6 := Lib.hid (HY5c.out.kept hb6)
  have HN6 := Lib.hid (HN5c.out.kept hb6)
  have HP6 := Lib.hid (HP5c.out.kept hb6)
  have HQ6 := Lib.hid (HQ5c.out.kept hb6)
  have HG6 := Lib.hid (HG5c.out.kept hb6)
  clear HX5c HR5c HK5c HY5c HN5c HP5c HQ5c HG5c
  have HB6 := Lib.hid (HB5c.out.trans (hb6.mono HB5c.out.size))
  have HW6 := Lib.hid (Nat.le_trans HW5c.out hb6.size)
  have HV6 := Lib.hid (Nat.le_trans HV5c.out hb6.size)
  clear HB5c HW5c HV5c hb6
  go_wp2
  have hltx := HX6.out.lt
  have hltr := HR6.out.lt
  have HX6A : Hid (∀ W', Below w6.heap.size w6 W' → (W'.cell? ⟨w4.heap.size, 0, none⟩ = some (.string s) ∧ W'.cell? ⟨w4.heap.size, 1, none⟩ = some (.int .i64 n) ∧ W'.cell? ⟨w4.heap.size, 2, none⟩ = some (.slice a4 m k4) ∧ W'.cell? ⟨W.heap.size, 0, none⟩ = some (.string s) ∧ W'.cell? ⟨W.heap.size, 1, none⟩ = some (.int .i64 n) ∧ W'.cell? ⟨W.heap.size, 2, none⟩ = some (.slice a m cap) ∧ Below w6.heap.size w6 W')) := Lib.hid (fun W' h => by
    have hx := HX6.out.keep h hltx
    have hr := HR6.out.keep h hltr
    exact ⟨hx.cell 0 rfl, hx.cell 1 rfl, hx.cell 2 rfl, hr.cell 0 rfl, hr.cell 1 rfl, hr.cell 2 rfl, h⟩)
  have HTO7 : Hid (∀ W', Below w6.heap.size w6 W' → Calls Try.prog 15 #[.agg #[.string s, .int .i64 n, .slice a m cap]] W' fun e w' => (∃ a7 k7, e = .returned (.agg #[.string s, .int .i64 n, .slice a7 m k7]) ∧ Own w' 9 (.slice a7 m k7) (strs L)) ∧ Below w6.heap.size w6 w') := Lib.hid (fun W' h => (HTO2.out W' (HA.out.kept (HB6.out.trans (h.mono HB6.out.size)))).mono fun e w' hw => by
    obtain ⟨v7, rfl, hn7, hb7⟩ := hw
    obtain ⟨a7, k7, rfl, -⟩ := hn7.own.view
    have ho := hn7.own
    rw [strs_len, HLL.out] at ho ⊢
    exact ⟨⟨a7, k7, rfl, ho⟩, h.trans (hb7.mono h.size)⟩)
  have HEQ7 : Hid (∀ W' a7 k7, Below w6.heap.size w6 W' → Own W' 9 (.slice a7 m k7) (strs L) → Calls Try.prog 18 #[.agg #[.string s, .int .i64 n, .slice a4 m k4], .agg #[.string s, .int .i64 n, .slice a7 m k7]] W' fun e w' => e = .returned (.bool true) ∧ Below w6.heap.size w6 w') := Lib.hid (fun W' a7 k7 h ho => (eqMethod_same s n _ _ L W' (HN6.out.kept h).own ho (by rw [HLL.out]; omega)).mono fun e w' hw => ⟨hw.1, h.trans (hw.2.mono h.size)⟩)
  clear hltx hltr
  go_region_held3 (fun w' => w'.cell? ⟨w4.heap.size, 0, none⟩ = some (.string s) ∧ w'.cell? ⟨w4.heap.size, 1, none⟩ = some (.int .i64 n) ∧ w'.cell? ⟨w4.heap.size, 2, none⟩ = some (.slice a4 m k4) ∧ w'.cell? ⟨W.heap.size, 0, none⟩ = some (.string s) ∧ w'.cell? ⟨W.heap.size, 1, none⟩ = some (.int .i64 n) ∧ w'.cell? ⟨W.heap.size, 2, none⟩ = some (.slice a m cap) ∧ Below w6.heap.size w6 w') (first | assumption | exact HX6A.out _ (Below.refl _ _).drew) (first | (go_at_call 15; refine (HTO7.out _ (by first | exact (Below.refl _ _).drew | exact Below.refl _ _)).mono ?_; rintro e7 w7 ⟨⟨a7, k7, rfl, ho7⟩, hb7⟩; have hS7 := HX6A.out _ hb7) | (go_at_call 18; refine (HEQ7.out _ _ _ hb7 ho7).mono ?_; rintro e8 w8 ⟨rfl, hb8⟩; have hS8 := HX6A.out _ hb8) | fail)
  have HX8 := Lib.hid (HX6.out.kept hb8)
  have HR8 := Lib.hid (HR6.out.kept hb8)
  have HK8 := Lib.hid (HK6.out.kept hb8)
  have HY8 := Lib.hid (HY6.out.kept hb8)
  have HN8 := Lib.hid (HN6.out.kept hb8)
  have HP8 := Lib.hid (HP6.out.kept hb8)
  have HQ8 := Lib.hid (HQ6.out.kept hb8)
  have HG8 := Lib.hid (HG6.out.kept hb8)
  clear HX6 HR6 HK6 HY6 HN6 HP6 HQ6 HG6
  have HB8 := Lib.hid (HB6.out.trans (hb8.mono HB6.out.size))
  have HW8 := Lib.hid (Nat.le_trans HW6.out hb8.size)
  have HV8 := Lib.hid (Nat.le_trans HV6.out hb8.size)
  clear HB6 HW6 HV6 hS8 hS7 hb8 hb7 ho7 HX6A HTO7 HEQ7
  go_wp2_with (first | (refine wpList_load_row rfl 30 _ rfl _ rfl 30 _ _ _ (HX8.out) Try.underlying30 rfl (by kernel_rfl) ?_) | fail)
  refine (markMethod_any s n w3a.heap.size (.slice a4 m k4) L _ HN8.out HW8.out (by rw [HLL.out]; omega)).mono ?_
  rintro e w9 ⟨rfl, -, hb9, hk9⟩
  rw [HLL.out]
  have HR9 := Lib.hid (HR8.out.keep hb9 HR3lt.out)
  have HK9 := Lib.hid (HK8.out.keep hb9 HK3lt.out)
  have HY9 := Lib.hid (HY8.out.keep hb9 HY3lt.out)
  have HG9 := Lib.hid (hk9.row HG8.out (HN8.out.apartRow HG8.out (by decide)))
  have HB9 := Lib.hid (HB8.out.trans (hb9.mono HB3s.out))
  have HP9 := Lib.hid (HP8.out.under HLT3a.out hb9)
  have HQ9 : Hid (New w5.heap.size w9 9 (.slice a6 p k6) (strs P)) := Lib.hid ⟨HQ8.out.own.besides hk9 (fun g hg h4 => by
    have := HQ8.out.base g hg
    have := HLT5.out g h4
    omega), HQ8.out.base⟩
  have HV9 := Lib.hid (Nat.le_trans HV8.out hb9.size)
  have hmm : ¬ ((1 : Int) + (m : Nat) < 0) := by omega
  clear HX8 HR8 HK8 HB8 HN8 HP8 HQ8 HW8 HV8 hb9 hk9 HY8 HG8
  have g0 := HG9.out.cell 0 rfl
  have g1 := HG9.out.cell 1 rfl
  have g2 := HG9.out.cell 2 rfl
  have y0 := HY9.out.cell 0 rfl
  have y1 := HY9.out.cell 1 rfl
  have y2 := HY9.out.cell 2 rfl
  go_wp2_with (first | (refine wpList_load_row rfl 30 _ rfl _ rfl 30 _ _ _ (HG9.out) Try.underlying30 rfl (by kernel_rfl) ?_) | (refine wpList_load_row rfl 30 _ rfl _ rfl 30 _ _ _ (HY9.out) Try.underlying30 rfl (by kernel_rfl) ?_) | fail)
  refine (eqMethod_same sp np _ _ P _ HQ9.out.own HP9.out (by rw [HPL.out]; omega)).mono ?_
  rintro e w10 ⟨rfl, hb10⟩
  have HR10 := Lib.hid (HR9.out.kept hb10)
  have HK10 := Lib.hid (HK9.out.kept hb10)
  have HY10 := Lib.hid (HY9.out.kept hb10)
  have HP10 := Lib.hid (HP9.out.kept hb10)
  have HQ10 := Lib.hid (HQ9.out.kept hb10)
  have HG10 := Lib.hid (HG9.out.kept hb10)
  clear HR9 HK9 HY9 HP9 HQ9 HG9
  have HB10 := Lib.hid (HB9.out.trans (hb10.mono HB9.out.size))
  have HV10 := Lib.hid (Nat.le_trans HV9.out hb10.size)
  clear HB9 HV9 hb10 g0 g1 g2 y0 y1 y2
  go_wp2_with (first | (refine wpList_load_row rfl 30 _ rfl _ rfl 30 _ _ _ (HG10.out) Try.underlying30 rfl (by kernel_rfl) ?_) | fail)
  refine (markMethod_any sp np w5.heap.size (.slice a6 p k6) P _ HQ10.out HV10.out (by rw [HPL.out]; omega)).mono ?_
  rintro e w11 ⟨rfl, hn11, hb11, hk11⟩
  rw [HPL.out] at hn11 ⊢
  have HM11 := Lib.hid hn11.own
  have HR11 := Lib.hid (HR10.out.keep hb11 (Nat.lt_of_lt_of_le HR3lt.out HW35.out))
  have HK11 := Lib.hid (HK10.out.keep hb11 (Nat.lt_of_lt_of_le HK3lt.out HW35.out))
  have HY11 := Lib.hid (HY10.out.keep hb11 (Nat.lt_of_lt_of_le HY3lt.out HW35.out))
  have HG11 := Lib.hid (hk11.row HG10.out (HQ10.out.apartRow HG10.out (by decide)))
  have HB11 := Lib.hid (HB10.out.trans (hb11.mono (Nat.le_trans HB3s.out HW35.out)))
  have HP11 := Lib.hid (HP10.out.under (fun g hg => Nat.lt_of_lt_of_le (HLT3a.out g hg) HW35.out) hb11)
  have hpp : ¬ ((1 : Int) + (p : Nat) < 0) := by omega
  clear hn11 hb11 hk11 HR10 HK10 HB10 HP10 HQ10 HV10 HY10 HG10
  go_wp2_with (first | (refine wpList_load_row rfl 30 _ rfl _ rfl 30 _ _ _ (HG11.out) Try.underlying30 rfl (by kernel_rfl) ?_) | fail)
  refine (heldMethod_any sp np (.slice a6 p k6) p _ HM11.out (by omega)).mono ?_
  rintro e w12 ⟨rfl, hb12⟩
  have HM12 := Lib.hid (HM11.out.kept hb12)
  have HR12 := Lib.hid (HR11.out.kept hb12)
  have HK12 := Lib.hid (HK11.out.kept hb12)
  have HY12 := Lib.hid (HY11.out.kept hb12)
  have HP12 := Lib.hid (HP11.out.kept hb12)
  have HG12 := Lib.hid (HG11.out.kept hb12)
  clear HM11 HR11 HK11 HY11 HP11 HG11
  have HB12 := Lib.hid (HB11.out.trans (hb12.mono HB11.out.size))
  clear hb12 HB11
  go_wp2
  try simp only [Act.put, List.setIfInBounds_toArray, List.set_cons_zero, List.set_cons_succ]
  have HXA12 : Hid (∀ W', Below w12.heap.size w12 W' → (W'.cell? ⟨W.heap.size, 0, none⟩ = some (.string s) ∧ W'.cell? ⟨W.heap.size, 1, none⟩ = some (.int .i64 n) ∧ W'.cell? ⟨W.heap.size, 2, none⟩ = some (.slice a m cap) ∧ W'.cell? ⟨W.heap.size + 1, 0, none⟩ = some (.string b) ∧ W'.cell? ⟨W.heap.size + 1, 1, none⟩ = some (.string q))) := Lib.hid (fun W' h => by
    have hR := HR12.out.keep h HR12.out.lt
    have hK := HK12.out.keep h HK12.out.lt
    exact ⟨hR.cell 0 rfl, hR.cell 1 rfl, hR.cell 2 rfl, hK.cell 0 rfl, hK.cell 1 rfl⟩)
  have HTM12 : Hid (∀ W', Below w12.heap.size w12 W' → Calls Try.prog 15 #[.agg #[.string s, .int .i64 n, .slice a m cap]] W' fun e w' => (∃ a7 k7, e = .returned (.agg #[.string s, .int .i64 n, .slice a7 m k7]) ∧ Own w' 9 (.slice a7 m k7) (strs L)) ∧ Below W'.heap.size W' w' ∧ Below w12.heap.size w12 w') := Lib.hid (fun W' h => (HTO2.out W' (HA.out.kept (HB12.out.trans (h.mono HB12.out.size)))).mono fun e w' hw => by
    obtain ⟨v7, rfl, hn7, hb7⟩ := hw
    obtain ⟨a7, k7, rfl, -⟩ := hn7.own.view
    have ho := hn7.own
    rw [strs_len, HLL.out] at ho ⊢
    exact ⟨⟨a7, k7, rfl, ho⟩, hb7, h.trans (hb7.mono h.size)⟩)
  have HTC12 : Hid (∀ W', Below w12.heap.size w12 W' → Calls Try.prog 16 #[.agg #[.string b, .string q]] W' fun e w' => e = .returned (.agg #[.string b, .string q]) ∧ Below W'.heap.size W' w' ∧ Below w12.heap.size w12 w') := Lib.hid (fun W' h => (toCalls_any b q W').mono fun e w' hw => ⟨hw.1, hw.2, h.trans (hw.2.mono h.size)⟩)
  have HF12 : Hid (∀ u W', Below w12.heap.size w12 W' → Txts W' u L → Calls Try.prog 20 #[.agg #[.string s, .int .i64 n, u], .agg #[.string b, .string q], .string r0] W' fun e w' => (∃ a8 k8, e = .returned (.tuple #[.agg #[.string sp, .int .i64 np, .slice a8 p k8], .bool flag]) ∧ New w12.heap.size w' 9 (.slice a8 p k8) (strs P)) ∧ Below W'.heap.size W' w' ∧ Below w12.heap.size w12 w') := Lib.hid (fun u W' h ht => (HI.out u W' ht).mono fun e w' hw => by
    obtain ⟨v8, rfl, hn8, hb8⟩ := hw
    obtain ⟨a8, k8, rfl, -⟩ := hn8.own.view
    have hn9 := hn8.lower h.size
    rw [strs_len, HPL.out] at hn9 ⊢
    exact ⟨⟨a8, k8, rfl, hn9⟩, hb8, h.trans (hb8.mono h.size)⟩)
  go_cut [16, 17] (fun pv fl w' => fl = .bool flag ∧ ∃ g a3 k3, pv = .pointer (some ⟨g, 0, none⟩) ∧ RowAt w' g 30 #[.string sp, .int .i64 np, .slice a3 p k3] ∧ New w12.heap.size w' 9 (.slice a3 p k3) (strs P) ∧ w12.heap.size ≤ g ∧ Below w12.heap.size w12 w')
  case first =>
    go_region_held3 (fun w' => w'.cell? ⟨W.heap.size, 0, none⟩ = some (.string s) ∧ w'.cell? ⟨W.heap.size, 1, none⟩ = some (.int .i64 n) ∧ w'.cell? ⟨W.heap.size, 2, none⟩ = some (.slice a m cap) ∧ w'.cell? ⟨W.heap.size + 1, 0, none⟩ = some (.string b) ∧ w'.cell? ⟨W.heap.size + 1, 1, none⟩ = some (.string q)) (first | assumption | exact HXA12.out _ (Below.refl _ _).drew | exact HXA12.out _ ((Below.refl _ _).drew.alloc (by simp) _) | exact HXA12.out _ (((hbk.setCell hgz _).setCell hgz _).setCell hgz _) | exact HXA12.out _ (hbk.alloc hbk.size _) | exact HXA12.out _ (hbb.alloc hbb.size _) | exact HXA12.out _ (hba.alloc hba.size _)) (first | (go_at_call 15; refine (HTM12.out _ (Below.refl _ _).drew).mono ?_; rintro ea wa ⟨⟨aa, ka, rfl, hoa⟩, hca, hba⟩; have hSa := HXA12.out _ hba) | (go_at_call 15; refine (HTM12.out _ ((Below.refl _ _).drew.alloc (by simp) _)).mono ?_; rintro ea wa ⟨⟨aa, ka, rfl, hoa⟩, hca, hba⟩; have hSa := HXA12.out _ hba; have hza : RowAt wa w12.heap.size 30 #[.string ⟨#[]⟩, .int .i64 0, .slice none 0 0] := (RowAt.new w12.drew 30 #[.string ⟨#[]⟩, .int .i64 0, .slice none 0 0]).kept hca; have hgz : w12.heap.size ≤ w12.heap.size := Nat.le_refl _) | (go_at_call 16; refine (HTC12.out _ hba).mono ?_; rintro eb wb ⟨rfl, hcb, hbb⟩; have hSb := HXA12.out _ hbb; have hob := hoa.kept hcb; have hzb := hza.kept hcb) | (go_at_call 16; refine (HTC12.out _ (hba.alloc hba.size _)).mono ?_; rintro eb wb ⟨rfl, hcb, hbb⟩; have hSb := HXA12.out _ hbb; have hob := (hoa.kept ((Below.refl _ _).alloc (Nat.le_refl _) _)).kept hcb; have hzb := (RowAt.new wa 30 #[.string ⟨#[]⟩, .int .i64 0, .slice none 0 0]).kept hcb; have hgz := hba.size) | (go_at_call 16; refine (HTC12.out _ hba).mono ?_; rintro eb wb ⟨rfl, hcb, hbb⟩; have hSb := HXA12.out _ hbb; have hob := hoa.kept hcb) | (go_at_call 20; refine (HF12.out _ _ hbb hob.txts).mono ?_; rintro ec wk ⟨⟨a9, k9, rfl, hn9⟩, hcc, hbk⟩; have hSc := HXA12.out _ hbk; have hzk := hzb.kept hcc; have z0 := hzk.cell 0 rfl; have z1 := hzk.cell 1 rfl; have z2 := hzk.cell 2 rfl; have f0 := hzk.free 0; have f1 := hzk.free 1; have f2 := hzk.free 2) | (go_at_call 20; refine (HF12.out _ _ (hbb.alloc hbb.size _) (hob.kept ((Below.refl _ _).alloc (Nat.le_refl _) _)).txts).mono ?_; rintro ec wk ⟨⟨a9, k9, rfl, hn9⟩, hcc, hbk⟩; have hSc := HXA12.out _ hbk; have hzk := (RowAt.new wb 30 #[.string ⟨#[]⟩, .int .i64 0, .slice none 0 0]).kept hcc; have hgz := hbb.size; have z0 := hzk.cell 0 rfl; have z1 := hzk.cell 1 rfl; have z2 := hzk.cell 2 rfl; have f0 := hzk.free 0; have f1 := hzk.free 1; have f2 := hzk.free 2) | (go_at_call 20; refine (HF12.out _ _ hbb hob.txts).mono ?_; rintro ec wk ⟨⟨a9, k9, rfl, hn9⟩, hcc, hbk⟩; have hSc := HXA12.out _ hbk) | fail)
    · go_wp2_with fail
      go_meet
      exact ⟨rfl, _, _, _, rfl, RowAt.new _ _ _, hn9.kept ((Below.refl _ _).alloc (Nat.le_refl _) _), hbk.size, hbk.alloc hbk.size _⟩
    all_goals
      have hap := hn9.apartRow hzk (by decide)
      have hr9 := ((hzk.set 0 (.string sp)).set 1 (.int .i64 np)).set 2 (.slice a9 p k9)
      have hn8 := ((hn9.setOther _ 0 (.string sp) hap).setOther _ 1 (.int .i64 np) hap).setOther _ 2 (.slice a9 p k9) hap
      have hb9 := (((hbk.setCell (p := ⟨_, 0, none⟩) hgz (.string sp)).setCell (p := ⟨_, 1, none⟩) hgz (.int .i64 np)).setCell (p := ⟨_, 2, none⟩) hgz (.slice a9 p k9))
      go_wp2_with fail
      go_meet
      exact ⟨rfl, _, _, _, rfl, hr9, hn8, hgz, hb9⟩
  case rest =>
  revert hcut
  revert wc
  intro w14a hcut
  obtain ⟨rfl, g14a, a14, k14, rfl, hrow, hnew, hge, hbel⟩ := hcut
  have HM14a := Lib.hid (HM12.out.kept hbel)
  have HY14a := Lib.hid (HY12.out.kept hbel)
  have HP14a := Lib.hid (HP12.out.kept hbel)
  have HG14a := Lib.hid (HG12.out.kept hbel)
  have HQ14a := Lib.hid hnew.own
  have HH14a := Lib.hid hrow
  have HB14a := Lib.hid (HB12.out.trans (hbel.mono HB12.out.size))
  clear hrow hnew hge hbel HM12 HY12 HP12 HG12 HB12 HR12 HK12 HXA12 HTC12 HF12 HTM12
  go_wp2_with (first | (refine wpList_load_row rfl 30 _ rfl _ rfl 30 _ _ _ (HH14a.out) Try.underlying30 rfl (by kernel_rfl) ?_) | (refine wpList_load_row rfl 30 _ rfl _ rfl 30 _ _ _ (HY14a.out) Try.underlying30 rfl (by kernel_rfl) ?_) | fail)
  refine (eqMethod_same sp np _ _ P _ HQ14a.out HP14a.out (by rw [HPL.out]; omega)).mono ?_
  rintro e w15 ⟨rfl, hb15⟩
  have HM15 := Lib.hid (HM14a.out.kept hb15)
  have HG15 := Lib.hid (HG14a.out.kept hb15)
  clear HM14a HG14a
  have HB15 := Lib.hid (HB14a.out.trans (hb15.mono HB14a.out.size))
  clear hb15 HB14a HP14a HQ14a HH14a HY14a
  go_wp2_with (first | (refine wpList_load_row rfl 30 _ rfl _ rfl 30 _ _ _ (HG15.out) Try.underlying30 rfl (by kernel_rfl) ?_) | fail)
  refine (heldMethod_any sp np (.slice a6 p k6) p _ HM15.out (by omega)).mono ?_
  rintro e w16 ⟨rfl, hb16⟩
  go_wp2
  go_ret
  exact ⟨rfl, HB15.out.trans (hb16.mono HB15.out.size)⟩

end Go.Proofs.Ytdldpmefadnlnaa
