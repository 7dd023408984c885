/- TurnMethod in the model. -/
import Derived.Test.YtfocnflnpabmkaaD12
namespace Go.Proofs.Ytfocnflnpabmkaa
open Go.RowKit
set_option linter.unusedSimpArgs false
set_option linter.unusedVariables false

set_option maxRecDepth 100000 in
set_option maxHeartbeats 1000000 in
theorem sTurnMethod_no (s : ByteArray) (hs : s.size ≤ maxLen) (n : Int) (v : Value) (L : List (List Nat)) (w : World) (h : Txts w v L) (hl : L.length ≤ 2000000) (hsm : Small L) (hg : goodM s n L = false) :
    Calls Try.prog 29 #[.agg #[.string s, .int .i64 n, v]] w (MethAny ⟨#[]⟩ 0 [] false w) := by
  obtain ⟨a, cap, rfl, hcap, -⟩ := id h
  have HT := Lib.hid h
  have HR0 := Lib.hid ((RowAt.new w 26 #[.string s, .int .i64 n, .slice a L.length cap]).push (.cells zeroM 26))
  have HZ0 : Hid (RowAt ((w.alloc (.cells #[.string s, .int .i64 n, .slice a L.length cap] 26)).alloc (.cells zeroM 26)) (w.heap.size + 1) 26 zeroM) := Lib.hid (by
    have := RowAt.new (w.alloc (.cells #[.string s, .int .i64 n, .slice a L.length cap] 26)) 26 zeroM
    simpa using this)
  have HB0 := Lib.hid (((Below.refl _ w).alloc (Nat.le_refl _) (.cells #[.string s, .int .i64 n, .slice a L.length cap] 26)).alloc (by simp) (.cells zeroM 26))
  have HG := Lib.hid (fun w h => l4Good_any s hs n (.slice a L.length cap) L w h hl hsm)
  rw [hg] at HG
  clear h hcap hl hg hsm
  generalize L.length = m at *
  go_enter Try.func29, Try.ntmps29
  go_wp2_with (first | (refine wpList_load_row rfl 26 _ rfl _ rfl 26 _ _ _ (HR0.out) Try.underlying26 rfl (by kernel_rfl) ?_) | fail)
  refine (HG.out _ (HT.out.kept HB0.out)).mono ?_
  rintro e w1 ⟨rfl, hb1⟩
  have HZ1 := Lib.hid (HZ0.out.kept hb1)
  have HB1 := Lib.hid (HB0.out.trans (hb1.mono HB0.out.size))
  clear hb1
  go_wp2_with (first | (refine wpList_store_row rfl 26 _ _ rfl _ _ rfl rfl 26 _ (HZ1.out) (by kernel_rfl) rfl (by kernel_rfl) ?_) | fail)
  exact bodyPost_ret (results_row_tmp rfl _ _ (w.heap.size + 1) 26 _ (0, 0) _ rfl (HZ1.out.row _) Try.underlying26 rfl (by kernel_rfl)) rfl ⟨_, rfl, New.nil _ _ _, below_setRow HB1.out (by omega) _⟩

set_option maxRecDepth 100000 in
set_option maxHeartbeats 1000000 in
theorem sTurnMethod_yes (s : ByteArray) (hs : s.size ≤ maxLen) (n : Int) (v : Value) (L : List (List Nat)) (w : World) (h : Txts w v L) (hl : L.length ≤ 2000000) (hsm : Small L) (hg : goodM s n L = true) :
    Calls Try.prog 29 #[.agg #[.string s, .int .i64 n, v]] w (MethAny s n L.reverse true w) := by
  have hlen := goodAll_len (goodM_parts hg).1
  obtain ⟨a, cap, rfl, hcap, ha⟩ := id h
  obtain ⟨gl, off, rfl, hgl, hcl⟩ := ha (by omega)
  have HT := Lib.hid h
  have HCL := Lib.hid hcl
  have HR0 := Lib.hid ((RowAt.new w 26 #[.string s, .int .i64 n, .slice (some ⟨gl, off, none⟩) L.length cap]).push (.cells zeroM 26))
  have HZ0 : Hid (RowAt ((w.alloc (.cells #[.string s, .int .i64 n, .slice (some ⟨gl, off, none⟩) L.length cap] 26)).alloc (.cells zeroM 26)) (w.heap.size + 1) 26 zeroM) := Lib.hid (by
    have := RowAt.new (w.alloc (.cells #[.string s, .int .i64 n, .slice (some ⟨gl, off, none⟩) L.length cap] 26)) 26 zeroM
    simpa using this)
  have HB0 := Lib.hid (((Below.refl _ w).alloc (Nat.le_refl _) (.cells #[.string s, .int .i64 n, .slice (some ⟨gl, off, none⟩) L.length cap] 26)).alloc (by simp) (.cells zeroM 26))
  have HG := Lib.hid (fun w h => l4Good_any s hs n (.slice (some ⟨gl, off, none⟩) L.length cap) L w h hl hsm)
  rw [hg] at HG
  obtain ⟨m, hm⟩ : ∃ m, L.length = m := ⟨_, rfl⟩
  rw [hm] at HT HR0 HZ0 HB0 HG hlen HCL ⊢
  have HM := Lib.hid hm
  obtain ⟨i0, hi0, hz0, hz1, hz2⟩ := info_parts infoText
  have I0 := Lib.hid (⟨hi0, hz0, hz1, hz2⟩ : _ ∧ _ ∧ _ ∧ _)
  have hm40 : (m : Int) ≤ 40 := by omega
  clear hi0 hz0 hz1 hz2 h hcap hl hg hm hsm ha hcl
  go_enter Try.func29, Try.ntmps29
  go_wp2_with (first | (refine wpList_load_row rfl 26 _ rfl _ rfl 26 _ _ _ (HR0.out) Try.underlying26 rfl (by kernel_rfl) ?_) | fail)
  refine (HG.out _ (HT.out.kept HB0.out)).mono ?_
  rintro e w1 ⟨rfl, hb1⟩
  have HR1 := Lib.hid (HR0.out.kept hb1)
  have HZ1 := Lib.hid (HZ0.out.kept hb1)
  have HB1 := Lib.hid (HB0.out.trans (hb1.mono HB0.out.size))
  have HS1 : Hid (w.heap.size + 1 < w1.heap.size) := Lib.hid HZ1.out.lt
  clear hb1 HR0 HZ0 HB0 HG HT
  have c0 := HR1.out.cell 0 rfl
  have c1 := HR1.out.cell 1 rfl
  have HO2 := Lib.hid (RowAt.new w1 26 #[.string s, .int .i64 n, .slice none 0 0])
  have HR2 := Lib.hid (HR1.out.push (.cells #[.string s, .int .i64 n, .slice none 0 0] 26))
  have HZ2 := Lib.hid (HZ1.out.push (.cells #[.string s, .int .i64 n, .slice none 0 0] 26))
  have HB2 := Lib.hid (HB1.out.alloc HB1.out.size (.cells #[.string s, .int .i64 n, .slice none 0 0] 26))
  have c2 := HR2.out.cell 2 rfl
  clear HR1 HZ1 HB1
  go_wp2_with (first | (refine wpList_store_row rfl 26 _ _ rfl _ _ rfl rfl 26 _ (heap_alloc_new _ _) (by kernel_rfl) rfl (by kernel_rfl) ?_; rw [World.setRow_alloc_new]) | fail)
  generalize hw2 : w1.alloc (.cells #[.string s, .int .i64 n, .slice none 0 0] 26) = w2 at *
  have hb12 : w1.heap.size < w2.heap.size := HO2.out.lt
  obtain ⟨ob, hob⟩ : ∃ ob, w1.heap.size = ob := ⟨_, rfl⟩
  rw [hob] at HO2 HS1 ⊢
  have hob1 : w.heap.size + 1 < ob := HS1.out
  clear hw2 c0 c1 c2 HS1 hob hb12
  go_loopg [5] m (fun q si wr => ∃ (u : Value) (acc : List (List Nat)), si = .int .i64 ((q : Int) - 1) ∧ q ≤ m ∧ acc = (L.drop q).reverse ∧ RowAt wr ob 26 #[.string s, .int .i64 n, u] ∧ New w.heap.size wr 9 u (strs acc) ∧ RowAt wr w.heap.size 26 #[.string s, .int .i64 n, .slice (some ⟨gl, off, none⟩) m cap] ∧ RowAt wr (w.heap.size + 1) 26 zeroM ∧ Below w.heap.size w wr)
  case atStart => exact ⟨_, [], by go_num, Nat.le_refl _, by rw [List.drop_of_length_le (by rw [HM.out]; exact Nat.le_refl _)]; rfl, HO2.out, New.nil _ _ _, HR2.out, HZ2.out, HB2.out⟩
  case round =>
    clear HO2 HR2 HZ2 HB2
    obtain ⟨u, acc, rfl, hqm, hacc, ho, hn, hr, hz, hb⟩ := hrel
    have HACC := Lib.hid hacc
    have HO := Lib.hid ho
    have HN := Lib.hid hn
    have HR := Lib.hid hr
    have HZ := Lib.hid hz
    have HB := Lib.hid hb
    obtain ⟨ao, co, rfl, -⟩ := hn.own.view
    clear hacc ho hn hr hz hb
    by_cases h0 : 0 < gk
    · obtain ⟨q', rfl⟩ : ∃ q', gk = q' + 1 := ⟨gk - 1, by omega⟩
      have hx : q' < L.length := by rw [HM.out]; omega
      have hcell := HCL.out q' (by omega)
      have hgd : L.getD q' [] = L[q'] := by simp [List.getD_eq_getElem?_getD, hx]
      rw [hgd] at hcell
      have hrev : (L.drop q').reverse = acc ++ [L[q']] := by
        rw [HACC.out, List.drop_eq_getElem_cons hx]; simp
      generalize L[q'] = x at *
      have HREV := Lib.hid hrev
      have ce := (HB.out.cell (p := ⟨gl, off + q', none⟩) hgl).trans hcell
      have hal : acc.length ≤ 40 := by
        have := HM.out
        rw [HACC.out]; simp; omega
      clear hcell hgd hrev
      have b2 := HR.out.cell 2 rfl
      have c2 := HO.out.cell 2 rfl
      have e2 := (HO.out.push (.cells #[.string (txt x)] 9)).cell 2 rfl
      have OA := Lib.hid ((HO.out.push (.cells #[.string (txt x)] 9)).drewN 1)
      have RA := Lib.hid ((HR.out.push (.cells #[.string (txt x)] 9)).drewN 1)
      have ZA := Lib.hid ((HZ.out.push (.cells #[.string (txt x)] 9)).drewN 1)
      have NA := Lib.hid ((HN.out.kept ((Below.refl _ _).alloc (Nat.le_refl _) (.cells #[.string (txt x)] 9))).drewN 1)
      have BA := Lib.hid (below_drewN (HB.out.alloc HB.out.size (.cells #[.string (txt x)] 9)) 1)
      have CA : Hid ((wr.alloc (.cells #[.string (txt x)] 9)).drew.cell? ⟨wr.heap.size, 0, none⟩ = some (.string (txt x))) := Lib.hid ((RowAt.new wr 9 #[.string (txt x)]).cell 0 rfl)
      have hqi : (0 : Int) ≤ (q' : Int) := by omega
      have hqi2 : (q' : Int) < m := by omega
      have hqq : ((q' + 1 : Nat) : Int) - 1 = q' := by omega
      rw [hqq]
      clear HO HR HZ HN HB
      go_wp2_with fail
      go_region_law (first | (refine step_appW rfl (.tmp 24) (.tmp 30) 24 rfl 9 i0 (.string ⟨#[]⟩) 16 Try.underlying24 I0.out.1 I0.out.2.1 I0.out.2.2.1 I0.out.2.2.2 rfl w.heap.size _ (strs acc) rfl NA.out wr.heap.size rfl CA.out rfl BA.out.size (by rw [strs_len]; omega) (by omega) ?_; intro v6 w6 hn6 hk6 hb6; obtain ⟨a6, c6, hv6, -⟩ := hn6.own.view; rw [show (strs acc ++ [Value.string (txt x)]).length = (strs acc).length + 1 by simp] at hv6; subst hv6; have cz := (hk6.row OA.out (NA.out.apartRow OA.out (by decide))).cell 2 rfl; have fz := (hk6.row OA.out (NA.out.apartRow OA.out (by decide))).free 2) | fail)
      all_goals
        have e4 : strs acc ++ [Value.string (txt x)] = strs (acc ++ [x]) := by simp [strs]
        have hro := hk6.row OA.out (NA.out.apartRow OA.out (by decide))
        have OB := Lib.hid (hro.set 2 (.slice a6 ((strs acc).length + 1) c6))
        have RB := Lib.hid ((hk6.row RA.out (NA.out.apartRow RA.out (by decide))).other ⟨ob, 2, none⟩ (.slice a6 ((strs acc).length + 1) c6) (by show w.heap.size ≠ ob; omega))
        have ZB := Lib.hid ((hk6.row ZA.out (NA.out.apartRow ZA.out (by decide))).other ⟨ob, 2, none⟩ (.slice a6 ((strs acc).length + 1) c6) (by show w.heap.size + 1 ≠ ob; omega))
        have NB := Lib.hid (hn6.setOther ob 2 (.slice a6 ((strs acc).length + 1) c6) (hn6.apartRow hro (by decide)))
        rw [e4] at NB
        have BB := Lib.hid ((BA.out.trans hb6).setCell (p := ⟨ob, 2, none⟩) (by show w.heap.size ≤ ob; omega) (.slice a6 ((strs acc).length + 1) c6))
        clear hn6 hk6 hb6 OA RA ZA NA BA CA b2 c2 e2 ce cz fz hro e4
        go_wp2
        go_roundg q'
        case measure => omega
        case rel => exact ⟨_, acc ++ [x], by go_num, by omega, HREV.out.symm, OB.out, NB.out, RB.out, ZB.out, BB.out⟩
    · obtain rfl : gk = 0 := by omega
      have hacc := HACC.out
      rw [List.drop_zero] at hacc
      subst hacc
      go_wp2_with (first | (refine wpList_load_row rfl 26 _ rfl _ rfl 26 _ _ _ (HO.out) Try.underlying26 rfl (by kernel_rfl) ?_) | (refine wpList_store_row rfl 26 _ _ rfl _ _ rfl rfl 26 _ (HZ.out) (by kernel_rfl) rfl (by kernel_rfl) ?_) | fail)
      exact bodyPost_ret (results_row_tmp rfl _ _ (w.heap.size + 1) 26 _ (0, 0) _ rfl (HZ.out.row _) Try.underlying26 rfl (by kernel_rfl)) rfl ⟨_, rfl, HN.out.setRowOther _ _ (HN.out.apartRow HZ.out (by decide)), below_setRow HB.out (by omega) _⟩
end Go.Proofs.Ytfocnflnpabmkaa
