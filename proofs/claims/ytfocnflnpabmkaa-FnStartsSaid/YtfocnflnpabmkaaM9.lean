/- Rows as texts and courses, in the program. -/
import Derived.Test.YtfocnflnpabmkaaM8
namespace Go.Proofs.Ytfocnflnpabmkaa
open Go.RowKit
set_option linter.unusedSimpArgs false
set_option linter.unusedVariables false

/-- a slice of texts of its own -/
def TextsOut (L : List (List Nat)) (w : World) (e : Ending) (w' : World) : Prop := ∃ v, e = .returned v ∧ New w.heap.size w' 9 v (strs L) ∧ Below w.heap.size w w'
def blanks (k : Nat) : List Value := List.replicate k (.string ⟨#[]⟩)
theorem blanks_set (A : List (List Nat)) (l : List Nat) (k : Nat) : (strs A ++ blanks (k + 1)).set A.length (.string (txt l)) = strs (A ++ [l]) ++ blanks k := by
  unfold blanks
  rw [List.set_append_right _ _ (by rw [strs_len]; exact Nat.le_refl _), strs_len, Nat.sub_self, List.replicate_succ]
  simp [strs]

set_option maxRecDepth 100000 in
set_option maxHeartbeats 1000000 in
theorem rowTexts_any (n : Nat) (v : Value) (fs : List (Nat → Nat)) (hf : Rows n fs) (hl : fs.length ≤ 1000) (w : World) (h : Digs w v fs) :
    Calls Try.prog 74 #[v] w (TextsOut (rowsL n fs) w) := by
  obtain ⟨m, hm⟩ : ∃ m, fs.length = m := ⟨_, rfl⟩
  obtain ⟨a, cap, rfl, hcap, ha⟩ := h
  have ha : 0 < m → ∃ g off, a = some ⟨g, off, none⟩ ∧ g < w.heap.size ∧ ∀ i (h : i < fs.length), w.rangeAt g (off + i * 8) (cells8 fs[i]) := fun h0 => ha (by rw [hm]; exact h0)
  rw [hm] at hl ⊢
  have hl' : (m : Int) ≤ 1000 := by omega
  have HA := Lib.hid ha
  have HM := Lib.hid hm
  have HF := Lib.hid hf
  generalize hres : rowsL n fs = res
  have HRES := Lib.hid hres
  obtain ⟨i0, hi0, hz0, hz1, hz2⟩ := info_parts infoText
  have I0 := Lib.hid (⟨hi0, hz0, hz1, hz2⟩ : _ ∧ _ ∧ _ ∧ _)
  clear ha hm hcap hf hres hi0 hz0 hz1 hz2
  go_enter Try.func74, Try.ntmps74
  go_wp2_with (first | (at_make; refine wpList_make_full _ rfl _ _ 24 rfl w.heap.size 9 i0 (.string ⟨#[]⟩) 1 Try.underlying24 I0.out.1 I0.out.2.1 I0.out.2.2.1 .i64 .i64 _ _ m rfl rfl rfl rfl (by rw [I0.out.2.2.2]; omega) (by unfold maxLen; omega) (Nat.le_refl _) ?_) | fail)
  intro w1 hown hgrow
  have HB1 := Lib.hid ((Below.refl _ w).grown hgrow (Nat.le_refl _) (fun k hk => by cases hk))
  have HN1 : Hid (New w.heap.size w1 9 (.slice (some ⟨w.heap.size, 0, none⟩) m m) (strs [] ++ blanks m)) := Lib.hid (by
    have := hown
    rw [toList_madeCells_one] at this
    exact New.of_row this (by simp [strs, blanks]))
  clear hown hgrow
  go_wp2
  go_loopg [11] m (fun q i wr => ∃ (j : Nat) (A : List (List Nat)), q + j = m ∧ i = .int .i64 j ∧ A.length = j ∧ A ++ rowsL n (fs.drop j) = res ∧ New w.heap.size wr 9 (.slice (some ⟨w.heap.size, 0, none⟩) m m) (strs A ++ blanks q) ∧ Below w.heap.size w wr)
  case atStart => exact ⟨0, [], by omega, rfl, rfl, HRES.out, HN1.out, HB1.out⟩
  case round =>
    clear HRES HN1 HB1
    obtain ⟨j, A, hq, rfl, hA, hr, hn, hb⟩ := hrel
    have HAL := Lib.hid hA
    have HRR := Lib.hid hr
    have HN := Lib.hid hn
    have HB := Lib.hid hb
    clear hA hr hn hb
    by_cases hlt : j < m
    · obtain ⟨q', rfl⟩ : ∃ q', gk = q' + 1 := ⟨gk - 1, by omega⟩
      obtain ⟨gb, off, rfl, hgb, hc⟩ := HA.out (by omega)
      have hjx : j < fs.length := by rw [HM.out]; exact hlt
      have hr := HRR.out
      rw [List.drop_eq_getElem_cons hjx] at hr
      have hrow := HF.out _ (List.getElem_mem hjx)
      have hload := hc j hjx
      generalize fs[j] = x at *
      have HL : Hid (wr.rangeAt gb (off + j * 8) (cells8 x)) := Lib.hid (fun k u hu => (HB.out.cell (p := ⟨gb, off + j * 8 + k, none⟩) hgb).trans (hload k u hu))
      have HR2 := Lib.hid (show (A ++ [rowL n x]) ++ rowsL n (fs.drop (j + 1)) = res from by rw [← hr]; simp [rowsL])
      have hji : (j : Int) < m := by omega
      have HBX := Lib.hid (HB.out.alloc HB.out.size (.cells (dig8 x) 77))
      have HXX := Lib.hid (RowAt.new wr 77 (dig8 x))
      have HNX := Lib.hid (HN.out.kept ((Below.refl _ _).alloc (Nat.le_refl _) (.cells (dig8 x) 77)))
      have HRC := Lib.hid (row_any n x (isDig_of hrow))
      have hset := blanks_set A (rowL n x) q'
      rw [HAL.out, txt_rowL] at hset
      have HSET := Lib.hid hset
      have HLEN : Hid (A.length + q' + 1 = m) := Lib.hid (by rw [HAL.out]; omega)
      generalize strOf n x = sx at *
      clear hc hr hload hrow HRR hset
      go_wp2_with (first | (refine wpList_store_row rfl 77 _ _ rfl _ _ rfl rfl 77 _ (heap_at _ _ _ (by simp)) (by kernel_rfl) rfl (by kernel_rfl) ?_; rw [setRow_at _ _ _ _ _ (by simp)]) | (refine wpList_load8 rfl _ rfl gb (off + j * 8) rfl x HL.out ?_) | (refine wpList_load_row rfl 77 _ rfl _ rfl 77 _ _ _ (HXX.out) Try.underlying77 rfl (by kernel_rfl) ?_) | fail)
      refine (HRC.out _).mono ?_
      rintro e w5 ⟨rfl, hb5⟩
      have HB5 := Lib.hid (HBX.out.trans (hb5.mono HBX.out.size))
      have HN5 := Lib.hid (HNX.out.kept hb5)
      obtain ⟨u, hu⟩ : ∃ u, (strs A ++ blanks (q' + 1))[j]? = some u := ⟨_, List.getElem?_eq_getElem (by rw [List.length_append, strs_len, HAL.out]; simp [blanks])⟩
      have c2 := HN5.out.own.cell j u hu
      have f2 := HN5.out.own.free j
      have HN6 := Lib.hid (HN5.out.own.set j (.string sx))
      clear hb5 HBX HNX HXX HL HN HB hu
      go_wp2
      go_roundg q'
      case measure => omega
      case rel => exact ⟨j + 1, A ++ [rowL n x], by omega, by go_num, by rw [List.length_append, HAL.out]; rfl, HR2.out, ⟨by have := HN6.out; rw [HSET.out] at this; exact this, HN5.out.base⟩, HB5.out.setCell (Nat.le_refl _) _⟩
    · obtain rfl : gk = 0 := by omega
      obtain rfl : j = m := by omega
      have hr := HRR.out
      rw [List.drop_eq_nil_of_le (by rw [HM.out]; exact Nat.le_refl _)] at hr
      have hr : A = res := by rw [← hr]; simp [rowsL]
      subst hr
      have hn := HN.out
      rw [show blanks 0 = [] from rfl, List.append_nil] at hn
      have HN2 := Lib.hid hn
      clear hn HN
      go_wp2
      go_ret
      exact ⟨_, rfl, HN2.out, HB.out⟩

set_option maxRecDepth 100000 in
set_option maxHeartbeats 1000000 in
theorem course_no (n : Nat) (u : Value) (cs : List (Nat → Nat)) (f : Nat → Nat) (hf : IsRow n f) (hc : Rows n cs) (hl : cs.length ≤ 40) (h1 : 1 ≤ cs.length) (k : Nat) (hk : IsOrd n (endF n cs f) k) (hbig : ¬ k * cs.length ≤ 800) (w : World) (h : Digs w u cs) :
    Calls Try.prog 99 #[.agg (leadV u f)] w fun e w' => e = .returned (.tuple #[.slice none 0 0, .bool false]) ∧ Below w.heap.size w w' := by
  obtain ⟨a, cap, rfl, hcap, -⟩ := id h
  have HD := Lib.hid h
  have HR0 := Lib.hid (RowAt.new w 79 (leadV (.slice a cs.length cap) f))
  have HB0 := Lib.hid ((Below.refl _ w).alloc (Nat.le_refl _) (.cells (leadV (.slice a cs.length cap) f) 79))
  have hend := isRow_end hc hf
  have hk840 := hk.le
  have HHD := Lib.hid (fun w h => head_any n (.slice a cs.length cap) cs f hf hc hl w h)
  have HO := Lib.hid (order_any n (endF n cs f) hend k hk)
  generalize endF n cs f = hd at *
  clear h hcap
  have HF := Lib.hid hf
  have HC := Lib.hid hc
  clear hf hc
  obtain ⟨l1, hl1⟩ : ∃ l1, cs.length = l1 := ⟨_, rfl⟩
  rw [hl1] at HD HR0 HB0 HHD hbig hl h1 ⊢
  have HL1 := Lib.hid hl1
  have hl1' : (l1 : Int) ≤ 40 := by omega
  have hk' : (k : Int) ≤ 840 := by omega
  obtain ⟨p, hp⟩ : ∃ p, k * l1 = p := ⟨_, rfl⟩
  have hpi : (k : Int) * (l1 : Int) = p := by rw [← hp]; simp
  have hp2 : p ≤ 840 * 40 := by rw [← hp]; exact Nat.mul_le_mul hk840 hl
  rw [hp] at hbig
  clear hk hl1 hend
  go_enter Try.func99, Try.ntmps99
  go_wp2_with (first | (refine wpList_load_row rfl 79 _ rfl _ rfl 79 _ _ _ (HR0.out) Try.underlying79 rfl (by kernel_rfl) ?_) | fail)
  refine (HHD.out _ (HD.out.kept HB0.out)).mono ?_
  rintro e w1 ⟨rfl, hb1⟩
  have HB1 := Lib.hid (HB0.out.trans (hb1.mono HB0.out.size))
  have HR1 := Lib.hid (HR0.out.kept hb1)
  clear hb1 HB0 HR0
  go_wp2_with fail
  refine (HO.out _).mono ?_
  rintro e w2 ⟨rfl, hb2⟩
  have HB2 := Lib.hid (HB1.out.trans (hb2.mono HB1.out.size))
  have HR2 := Lib.hid (HR1.out.kept hb2)
  have c0 : w2.cell? ⟨w.heap.size, 0, none⟩ = some (.slice a l1 cap) := HR2.out.cell 0 rfl
  have HLR2 := Lib.hid (lead_range HR2.out)
  clear hb2 HB1 HR1 HO HHD
  have hbig' : (800 : Int) < p := by omega
  go_wp2
  go_ret2
  exact ⟨rfl, HB2.out⟩

set_option maxRecDepth 100000 in
set_option maxHeartbeats 1000000 in
theorem course_yes (n : Nat) (u : Value) (cs : List (Nat → Nat)) (f : Nat → Nat) (hf : IsRow n f) (hc : Rows n cs) (hl : cs.length ≤ 40) (h1 : 1 ≤ cs.length) (k : Nat) (hk : IsOrd n (endF n cs f) k) (hbig : k * cs.length ≤ 800) (w : World) (h : Digs w u cs) :
    Calls Try.prog 99 #[.agg (leadV u f)] w fun e w' => ∃ v, e = .returned (.tuple #[v, .bool true]) ∧ NewD w.heap.size w' v (courseF n cs k f) ∧ Below w.heap.size w w' := by
  generalize hres : courseF n cs k f = res
  have HRES := Lib.hid hres
  clear hres
  obtain ⟨a, cap, rfl, hcap, -⟩ := id h
  have HD := Lib.hid h
  have HR0 := Lib.hid (RowAt.new w 79 (leadV (.slice a cs.length cap) f))
  have HB0 := Lib.hid ((Below.refl _ w).alloc (Nat.le_refl _) (.cells (leadV (.slice a cs.length cap) f) 79))
  have hend := isRow_end hc hf
  have hk840 := hk.le
  have HHD := Lib.hid (fun w h => head_any n (.slice a cs.length cap) cs f hf hc hl w h)
  have HO := Lib.hid (order_any n (endF n cs f) hend k hk)
  generalize endF n cs f = hd at *
  clear h hcap
  have HF := Lib.hid hf
  have HC := Lib.hid hc
  clear hf hc
  obtain ⟨l1, hl1⟩ : ∃ l1, cs.length = l1 := ⟨_, rfl⟩
  rw [hl1] at HD HR0 HB0 HHD hbig hl h1 ⊢
  have HL1 := Lib.hid hl1
  have hl1' : (l1 : Int) ≤ 40 := by omega
  have hk' : (k : Int) ≤ 840 := by omega
  obtain ⟨p, hp⟩ : ∃ p, k * l1 = p := ⟨_, rfl⟩
  have hpi : (k : Int) * (l1 : Int) = p := by rw [← hp]; simp
  have hp2 : p ≤ 840 * 40 := by rw [← hp]; exact Nat.mul_le_mul hk840 hl
  rw [hp] at hbig
  clear hk hl1 hend
  go_enter Try.func99, Try.ntmps99
  go_wp2_with (first | (refine wpList_load_row rfl 79 _ rfl _ rfl 79 _ _ _ (HR0.out) Try.underlying79 rfl (by kernel_rfl) ?_) | fail)
  refine (HHD.out _ (HD.out.kept HB0.out)).mono ?_
  rintro e w1 ⟨rfl, hb1⟩
  have HB1 := Lib.hid (HB0.out.trans (hb1.mono HB0.out.size))
  have HR1 := Lib.hid (HR0.out.kept hb1)
  clear hb1 HB0 HR0
  go_wp2_with fail
  refine (HO.out _).mono ?_
  rintro e w2 ⟨rfl, hb2⟩
  have HB2 := Lib.hid (HB1.out.trans (hb2.mono HB1.out.size))
  have HR2 := Lib.hid (HR1.out.kept hb2)
  have c0 : w2.cell? ⟨w.heap.size, 0, none⟩ = some (.slice a l1 cap) := HR2.out.cell 0 rfl
  have HLR2 := Lib.hid (lead_range HR2.out)
  clear hb2 HB1 HR1 HO HHD
  have hbig' : ¬ (800 : Int) < p := by omega
  have HRF := Lib.hid (RowAt.new w2 77 (dig8 f))
  have HBF := Lib.hid (HB2.out.alloc HB2.out.size (.cells (dig8 f) 77))
  have HRL := Lib.hid (HR2.out.push (.cells (dig8 f) 77))
  have hlt := HR2.out.lt
  go_wp2_with (first | (refine wpList_load8 rfl _ rfl w.heap.size 1 rfl f HLR2.out ?_) | (refine wpList_store_row rfl 77 _ _ rfl _ _ rfl rfl 77 _ (heap_at _ _ _ (by simp)) (by kernel_rfl) rfl (by kernel_rfl) ?_; rw [setRow_at _ _ _ _ _ (by simp)]) | fail)
  go_loopg [5, 19] k (fun q rv i wr => ∃ (j : Nat) (g : Nat → Nat) (A : List (Nat → Nat)), q + j = k ∧ i = .int .i64 j ∧ A ++ courseF n cs q g = res ∧ IsRow n g ∧ A.length = j * l1 ∧ w2.heap.size < wr.heap.size ∧ NewD (w2.heap.size + 1) wr rv A ∧ RowAt wr w.heap.size 79 (leadV (.slice a l1 cap) f) ∧ RowAt wr w2.heap.size 77 (dig8 g) ∧ Below w.heap.size w wr)
  case atStart => exact ⟨0, f, [], by omega, rfl, HRES.out, HF.out, by simp, by simp, NewD.nil _ _, HRL.out, HRF.out, HBF.out⟩
  case round =>
    clear HRES HRF HBF HRL
    obtain ⟨j, g, A, hq, rfl, hr, hg, hA, hsz, hn, hrl, hrf, hb⟩ := hrel
    have HRR := Lib.hid hr
    have HG := Lib.hid hg
    have HRL := Lib.hid hrl
    have HRF := Lib.hid hrf
    have HB := Lib.hid hb
    obtain ⟨a9, c9, rfl, -, -⟩ := hn.view rfl
    have HN := Lib.hid hn
    have c0' : wr.cell? ⟨w.heap.size, 0, none⟩ = some (.slice a l1 cap) := hrl.cell 0 rfl
    clear hr hg hn hrl hrf hb c0
    by_cases hlt2 : j < k
    · obtain ⟨q', rfl⟩ : ∃ q', gk = q' + 1 := ⟨gk - 1, by omega⟩
      have hji : (j : Int) < k := by omega
      have HR3 := Lib.hid (show (A ++ leadF n cs g) ++ courseF n cs q' (endF n cs g) = res from by rw [← HRR.out]; simp [courseF])
      have hle : A.length + l1 ≤ 800 := by
        rw [hA]
        have h9 : (j + 1) * l1 ≤ k * l1 := Nat.mul_le_mul_right _ (by omega)
        rw [Nat.succ_mul] at h9
        omega
      have hA2 : (A ++ leadF n cs g).length = (j + 1) * l1 := by rw [List.length_append, leadF_len, HL1.out, hA, Nat.succ_mul]
      have HA2 := Lib.hid hA2
      have hg1 : 0 < (leadF n cs g).length := by rw [leadF_len, HL1.out]; omega
      have hgl : A.length + (leadF n cs g).length ≤ 100000 := by rw [leadF_len, HL1.out]; omega
      have HRC := Lib.hid (fun w h => rows_any n (.slice a l1 cap) cs g HG.out HC.out (by rw [HL1.out]; exact hl) w h)
      have HEC := Lib.hid (fun w h => end_any n (.slice a l1 cap) cs g HG.out HC.out (by rw [HL1.out]; exact hl) w h)
      have HGE := Lib.hid (isRow_end HC.out HG.out)
      generalize leadF n cs g = lf at *
      generalize endF n cs g = ge at *
      clear HRR hA hA2
      go_wp2_with (first | (refine wpList_load_row rfl 77 _ rfl _ rfl 77 _ _ _ (HRF.out) Try.underlying77 rfl (by kernel_rfl) ?_) | fail)
      refine (HRC.out _ (HD.out.kept HB.out)).mono ?_
      rintro e w5 ⟨v5, rfl, hn5, hb5⟩
      have HB5 := Lib.hid (HB.out.trans (hb5.mono HB.out.size))
      have HN5 := Lib.hid (HN.out.kept hb5)
      have HL5 := Lib.hid (HRL.out.kept hb5)
      have HF5 := Lib.hid (HRF.out.kept hb5)
      have HV5 := Lib.hid hn5.digs
      have hsz5 : w2.heap.size < w5.heap.size := Nat.lt_of_lt_of_le hsz hb5.size
      clear hb5 HN HRL HRF hn5 c0'
      go_wp2_with (at_builtin; refine wpList_app8 rfl (.tmp 21) (.tmp 25) 74 rfl Try.underlying74 (w2.heap.size + 1) w.heap.size (by omega) _ A lf rfl HN5.out v5 rfl HV5.out hg1 (by omega) HB5.out hgl ?_)
      intro v6 w6 hn6 hk6 hb6 hs6
      have HN6 := Lib.hid hn6
      have HB6 := Lib.hid hb6
      have HL6 := Lib.hid (hk6.row HL5.out (fun e => by have := (HN5.out.lt _ e).1; omega))
      have HF6 := Lib.hid (hk6.row HF5.out (fun e => by have := (HN5.out.lt _ e).1; omega))
      have d0 : w6.cell? ⟨w.heap.size, 0, none⟩ = some (.slice a l1 cap) := HL6.out.cell 0 rfl
      clear hn6 hk6 hb6 HN5 HB5 HL5 HF5 HV5 HRC
      go_wp2_with (first | (refine wpList_load_row rfl 77 _ rfl _ rfl 77 _ _ _ (HF6.out) Try.underlying77 rfl (by kernel_rfl) ?_) | fail)
      refine (HEC.out _ (HD.out.kept HB6.out)).mono ?_
      rintro e w7 ⟨rfl, hb7⟩
      have HN7 := Lib.hid (HN6.out.kept hb7)
      have HB7 := Lib.hid (HB6.out.trans (hb7.mono HB6.out.size))
      have HL7 := Lib.hid (HL6.out.kept hb7)
      have HF7 := Lib.hid (HF6.out.kept hb7)
      have hs7 := hb7.size
      clear hb7 HN6 HB6 HL6 HF6 d0
      go_wp2_with (first | (refine wpList_store_row rfl 77 _ _ rfl _ _ rfl rfl 77 _ (HF7.out) (by kernel_rfl) rfl (by kernel_rfl) ?_) | fail)
      go_roundg q'
      case measure => omega
      case rel => exact ⟨j + 1, ge, A ++ lf, by omega, by go_num, HR3.out, HGE.out, HA2.out, by simp [World.setRow]; omega, HN7.out.setRowOther _ _ (fun e => by have := (HN7.out.lt _ e).1; omega), HL7.out.rowOther _ (by omega), HF7.out.row _, below_setRow HB7.out (by omega) _⟩
    · obtain rfl : gk = 0 := by omega
      obtain rfl : j = k := by omega
      have hr := HRR.out
      have hr : A = res := by rw [← hr]; simp [courseF]
      subst hr
      go_wp2
      go_ret2
      exact ⟨_, rfl, HN.out.lower (by omega), HB.out⟩
end Go.Proofs.Ytfocnflnpabmkaa
