/- The rows of a group; CosetOf. -/
import Derived.Test.YtapcfojnljnoaaaSY
namespace Go.Proofs.Ytapcfojnljnoaaa
open Go.RowKit
set_option linter.unusedSimpArgs false
set_option linter.unusedVariables false

theorem isG_facts {L : List (List Nat)} (h : isG L = true) : riseB L = true ∧ listB L = true ∧ 0 < L.length ∧ 3 ≤ firstN L ∧ firstN L ≤ 8 ∧ Rows (firstN L) (rF L) ∧ Rise (firstN L) (rF L) ∧ IsGrp (firstN L) (rF L) ∧ (rF L).length ≤ 800 := by
  unfold isG at h
  simp only [Bool.and_eq_true, decide_eq_true_eq] at h
  obtain ⟨h1, h2, h3⟩ := h
  have hb : listB L = true := by unfold riseB at h1; simp only [Bool.and_eq_true] at h1; exact h1.2
  have hi : incB L = true := by unfold riseB at h1; simp only [Bool.and_eq_true] at h1; exact h1.1
  obtain ⟨q3, q8, _⟩ := first_row hb h2
  exact ⟨h1, hb, h2, q3, q8, rowsB_rows hb, rise_of hb hi, grpB_iff.1 h3, by rw [rF_len]; exact rowsB_len hb⟩

def GroupOut (L : List (List Nat)) (w : World) (e : Ending) (w' : World) : Prop :=
  ∃ v, e = .returned (.tuple #[v, .bool (isG L)]) ∧ NewD w.heap.size w' v (if isG L = true then rF L else []) ∧ Below w.heap.size w w'
set_option maxRecDepth 100000 in
set_option maxHeartbeats 1000000 in
theorem groupRows_any (v : Value) (L : List (List Nat)) (w : World) (h : Txts w v L) (hl : L.length ≤ 2000000) (hs : ∀ l ∈ L, l.length ≤ maxLen) :
    Calls Try.prog 70 #[v] w (GroupOut L w) := by
  have HC := Lib.hid (iIsGroup_any v L w h hl hs)
  have HR := Lib.hid (fun w h => rowListOf_any v L w h hl hs)
  unfold ListOut6 at HR
  unfold GroupOut
  have HT := Lib.hid h
  by_cases hg : isG L = true
  · have hb := (isG_facts hg).2.1
    have hr := (isG_facts hg).1
    simp only [hg, hb, hr, if_true] at HC HR ⊢
    generalize rF L = fs at *
    clear h hl hs hg hb hr
    go_enter Try.func70, Try.ntmps70
    go_wp2_with fail
    refine HC.out.mono ?_
    rintro e w1 ⟨rfl, hb1⟩
    have HB1 := Lib.hid hb1
    have HT1 := Lib.hid (HT.out.kept hb1)
    clear hb1
    go_wp2_with fail
    refine (HR.out _ HT1.out).mono ?_
    rintro e w2 ⟨v2, rfl, hn2, hb2⟩
    have HB2 := Lib.hid (HB1.out.trans (hb2.mono HB1.out.size))
    have HN2 := Lib.hid (hn2.lower HB1.out.size)
    clear hb2 hn2
    go_wp2
    go_ret2
    exact ⟨_, rfl, HN2.out, HB2.out⟩
  · have hg : isG L = false := by simpa using hg
    simp only [hg, Bool.false_eq_true, if_false] at HC ⊢
    generalize riseB L = rb at *
    clear h hl hs hg HT HR
    go_enter Try.func70, Try.ntmps70
    go_wp2_with fail
    refine HC.out.mono ?_
    rintro e w1 ⟨rfl, hb1⟩
    go_wp2
    go_ret2
    exact ⟨_, rfl, NewD.nil _ _, hb1⟩

set_option maxRecDepth 100000 in
set_option maxHeartbeats 1000000 in
theorem coset_any (n : Nat) (v : Value) (fs : List (Nat → Nat)) (f : Nat → Nat) (hf : IsRow n f) (hc : Rows n fs) (hl : fs.length ≤ 1000) (w : World) (h : Digs w v fs) :
    Calls Try.prog 71 #[.agg (dig8 f), v] w (SortedOut w.heap.size (sortF n (fs.map (mulR n f))) w) := by
  have HTM := Lib.hid (fun w h => timesAll_any n v fs f hf hc hl w h)
  unfold RowsOut at HTM
  unfold SortedOut
  have HT := Lib.hid h
  have hrm := rows_map hf hc
  have hlm : (fs.map (mulR n f)).length ≤ 1000 := by rw [List.length_map]; exact hl
  have HSO := Lib.hid (fun B v w (hB : B ≤ w.heap.size) h => sortRows_any n (fs.map (mulR n f)) hrm hlm B v w hB h)
  have HR0 := Lib.hid (RowAt.new w 62 (dig8 f))
  have HB0 := Lib.hid ((Below.refl _ w).alloc (Nat.le_refl _) (.cells (dig8 f) 62))
  have HT0 : Hid (Digs (w.alloc (.cells (dig8 f) 62)) v fs) := Lib.hid (h.kept HB0.out)
  generalize fs.map (mulR n f) = gs at *
  clear h hf hc hl hrm hlm
  go_enter Try.func71, Try.ntmps71
  go_wp2_with (first | (refine wpList_load_row rfl 62 _ rfl _ rfl 62 _ _ _ (HR0.out) Try.underlying62 rfl (by kernel_rfl) ?_) | fail)
  refine (HTM.out _ HT0.out).mono ?_
  rintro e w1 ⟨v1, rfl, hn1, hb1⟩
  have HB1 := Lib.hid (HB0.out.trans (hb1.mono HB0.out.size))
  have HN1 := Lib.hid (hn1.lower HB0.out.size)
  clear hb1 hn1 HB0 HT0 HR0
  go_wp2_with fail
  refine (HSO.out w.heap.size _ _ HB1.out.size HN1.out).mono ?_
  rintro e w2 ⟨rfl, hn2, hb2⟩
  have HB2 := Lib.hid (HB1.out.trans hb2)
  have HN2 := Lib.hid hn2
  obtain ⟨ua, uc, rfl, -⟩ := hn2.view rfl
  clear hb2 hn2
  go_wp2
  go_ret
  exact ⟨_, rfl, HN2.out, HB2.out⟩

/-- a coset's rows -/
noncomputable def csF (L : List (List Nat)) (s : ByteArray) : List (Nat → Nat) := sortF (firstN L) ((rF L).map (mulR (firstN L) (dg s)))
noncomputable def csB (L : List (List Nat)) (s : ByteArray) : Bool := isG L && (goodB s && decide (s.size = firstN L))
noncomputable def csL (L : List (List Nat)) (s : ByteArray) : List (List Nat) := if csB L s = true then rowsL (firstN L) (csF L s) else []
theorem csL_no {L : List (List Nat)} {s : ByteArray} (h : csB L s = false) : csL L s = [] := by unfold csL; simp [h]
theorem csL_yes {L : List (List Nat)} {s : ByteArray} (h : csB L s = true) : csL L s = rowsL (firstN L) (csF L s) := by unfold csL; simp [h]

set_option maxRecDepth 100000 in
set_option maxHeartbeats 1000000 in
theorem iCosetOf_any (v : Value) (L : List (List Nat)) (s : ByteArray) (hsz : s.size ≤ maxLen) (w : World) (h : Txts w v L) (hl : L.length ≤ 2000000) (hs : ∀ l ∈ L, l.length ≤ maxLen) :
    Calls Try.prog 32 #[v, .string s] w (TextsAny (csL L s) (csB L s) w) := by
  have HC := Lib.hid (groupRows_any v L w h hl hs)
  have HD := Lib.hid (digitsOf_any s hsz)
  unfold GroupOut at HC
  unfold TextsAny
  by_cases hg : isG L = true
  · obtain ⟨_, hb, h0, h3, h8, hrows, _, _, hfl⟩ := isG_facts hg
    obtain ⟨m, hm⟩ : ∃ m, L.length = m := ⟨_, rfl⟩
    obtain ⟨a, cap, rfl, hcap, ha⟩ := id h
    obtain ⟨g, off, s0, rfl, hgl, c0, hs0⟩ := txts_first h h0
    have hmp : (0 : Int) < (m : Int) := by omega
    rw [hm] at HC ⊢
    simp only [hg, if_true] at HC
    have HG0 := Lib.hid c0
    by_cases hgs : goodB s = true
    · have hdg := dgF_yes hgs
      have hrow := goodB_row hgs
      rw [hdg, hgs] at HD
      by_cases hz : s.size = firstN L
      · have hB : csB L s = true := by unfold csB; rw [hg, hgs, decide_eq_true hz]; rfl
        rw [csL_yes hB, hB]
        unfold csF
        have hne : ((s.size : Int) != ((firstN L : Nat) : Int)) = false := by rw [hz]; simp
        rw [hz] at hrow hne
        generalize firstN L = n at *
        generalize rF L = fs at *
        generalize dg s = f at *
        have HCO := Lib.hid (fun v w h => coset_any n v fs f hrow hrows (by omega) w h)
        have hrs := rows_sort (rows_map hrow hrows)
        have HRT := Lib.hid (fun v w h => rowTexts_any n v (sortF n (fs.map (mulR n f))) hrs (by rw [sortF_len, List.length_map]; omega) w h)
        unfold SortedOut at HCO
        unfold TextsOut at HRT
        clear h hl hs hg hgs hdg hB hb h0 h3 h8 hrows hfl hm hcap ha hrow hrs c0
        go_enter Try.func32, Try.ntmps32
        go_wp2_with fail
        refine HC.out.mono ?_
        rintro e w1 ⟨v1, rfl, hn1, hb1⟩
        have HB1 := Lib.hid hb1
        have HN1 := Lib.hid hn1
        clear hb1 hn1
        go_wp2_with fail
        refine (HD.out _).mono ?_
        rintro e w2 ⟨rfl, hb2⟩
        have HB2 := Lib.hid (HB1.out.trans (hb2.mono HB1.out.size))
        have HN2 := Lib.hid (HN1.out.kept hb2)
        have HB3 := Lib.hid (HB2.out.alloc HB2.out.size (.cells (dig8 f) 62))
        have HR3 := Lib.hid (RowAt.new w2 62 (dig8 f))
        have HN3 := Lib.hid (HN2.out.kept ((Below.refl _ w2).alloc (Nat.le_refl _) (.cells (dig8 f) 62)))
        have c3 := (HB3.out.cell (p := ⟨g, off, none⟩) hgl).trans HG0.out
        clear hb2 HB1 HN1 HB2 HN2
        go_wp2_with (first | (refine wpList_store_row rfl 62 _ _ rfl _ _ rfl rfl 62 _ (heap_at _ _ _ (by simp)) (by kernel_rfl) rfl (by kernel_rfl) ?_; rw [setRow_at _ _ _ _ _ (by simp)]) | (refine wpList_load_row rfl 62 _ rfl _ rfl 62 _ _ _ (HR3.out) Try.underlying62 rfl (by kernel_rfl) ?_) | fail)
        refine (HCO.out _ _ HN3.out.digs).mono ?_
        rintro e w4 ⟨v4, rfl, hn4, hb4⟩
        have HB4 := Lib.hid (HB3.out.trans (hb4.mono HB3.out.size))
        have HN4 := Lib.hid hn4
        clear hb4 hn4 HB3 HN3 HR3 c3
        go_wp2_with fail
        refine (HRT.out _ _ HN4.out.digs).mono ?_
        rintro e w5 ⟨v5, rfl, hn5, hb5⟩
        have HB5 := Lib.hid (HB4.out.trans (hb5.mono HB4.out.size))
        have HN5 := Lib.hid (hn5.lower HB4.out.size)
        obtain ⟨ua, uc, rfl, -⟩ := hn5.own.view
        clear hb5 hn5
        go_wp2
        go_ret2
        exact ⟨_, rfl, HN5.out, HB5.out⟩
      · have hB : csB L s = false := by unfold csB; rw [decide_eq_false hz]; simp
        rw [csL_no hB, hB]
        have hne : ((s.size : Int) != ((firstN L : Nat) : Int)) = true := by simpa using (by omega : ¬ (s.size : Int) = firstN L)
        generalize firstN L = n at *
        generalize rF L = fs at *
        generalize dg s = f at *
        clear h hl hs hg hgs hdg hB hb h0 h3 h8 hrows hfl hm hcap ha hrow hz c0
        go_enter Try.func32, Try.ntmps32
        go_wp2_with fail
        refine HC.out.mono ?_
        rintro e w1 ⟨v1, rfl, hn1, hb1⟩
        have HB1 := Lib.hid hb1
        clear hb1 hn1
        go_wp2_with fail
        refine (HD.out _).mono ?_
        rintro e w2 ⟨rfl, hb2⟩
        have HB2 := Lib.hid (HB1.out.trans (hb2.mono HB1.out.size))
        have HB3 := Lib.hid (HB2.out.alloc HB2.out.size (.cells (dig8 f) 62))
        have c3 := (HB3.out.cell (p := ⟨g, off, none⟩) hgl).trans HG0.out
        clear hb2 HB1 HB2
        go_wp2_with (first | (refine wpList_store_row rfl 62 _ _ rfl _ _ rfl rfl 62 _ (heap_at _ _ _ (by simp)) (by kernel_rfl) rfl (by kernel_rfl) ?_; rw [setRow_at _ _ _ _ _ (by simp)]) | fail)
        go_ret2
        exact ⟨_, rfl, New.nil _ _ _, HB3.out⟩
    · have hgs : goodB s = false := by simpa using hgs
      have hB : csB L s = false := by unfold csB; rw [hgs]; simp
      rw [csL_no hB, hB]
      rw [hgs] at HD
      generalize dgF s = f at *
      generalize rF L = fs at *
      clear h hl hs hg hgs hB hb h0 h3 h8 hrows hfl hm hcap ha c0
      go_enter Try.func32, Try.ntmps32
      go_wp2_with fail
      refine HC.out.mono ?_
      rintro e w1 ⟨v1, rfl, hn1, hb1⟩
      have HB1 := Lib.hid hb1
      clear hb1 hn1
      go_wp2_with fail
      refine (HD.out _).mono ?_
      rintro e w2 ⟨rfl, hb2⟩
      have HB2 := Lib.hid (HB1.out.trans (hb2.mono HB1.out.size))
      have HB3 := Lib.hid (HB2.out.alloc HB2.out.size (.cells (dig8 f) 62))
      clear hb2 HB1 HB2
      go_wp2_with (first | (refine wpList_store_row rfl 62 _ _ rfl _ _ rfl rfl 62 _ (heap_at _ _ _ (by simp)) (by kernel_rfl) rfl (by kernel_rfl) ?_; rw [setRow_at _ _ _ _ _ (by simp)]) | fail)
      go_ret2
      exact ⟨_, rfl, New.nil _ _ _, HB3.out⟩
  · have hg : isG L = false := by simpa using hg
    have hB : csB L s = false := by unfold csB; rw [hg]; rfl
    rw [csL_no hB, hB]
    simp only [hg, Bool.false_eq_true, if_false] at HC
    generalize dgF s = f at *
    generalize goodB s = gb at *
    clear h hl hs hg hB
    go_enter Try.func32, Try.ntmps32
    go_wp2_with fail
    refine HC.out.mono ?_
    rintro e w1 ⟨v1, rfl, hn1, hb1⟩
    have HB1 := Lib.hid hb1
    clear hb1 hn1
    go_wp2_with fail
    refine (HD.out _).mono ?_
    rintro e w2 ⟨rfl, hb2⟩
    have HB2 := Lib.hid (HB1.out.trans (hb2.mono HB1.out.size))
    have HB3 := Lib.hid (HB2.out.alloc HB2.out.size (.cells (dig8 f) 62))
    clear hb2 HB1 HB2
    go_wp2_with (first | (refine wpList_store_row rfl 62 _ _ rfl _ _ rfl rfl 62 _ (heap_at _ _ _ (by simp)) (by kernel_rfl) rfl (by kernel_rfl) ?_; rw [setRow_at _ _ _ _ _ (by simp)]) | fail)
    go_ret2
    exact ⟨_, rfl, New.nil _ _ _, HB3.out⟩

set_option maxRecDepth 100000 in
set_option maxHeartbeats 1000000 in
theorem sCosetOf_any (v : Value) (L : List (List Nat)) (s : ByteArray) (hsz : s.size ≤ maxLen) (w : World) (h : Txts w v L) (hl : L.length ≤ 2000000) (hs : ∀ l ∈ L, l.length ≤ maxLen) :
    Calls Try.prog 31 #[v, .string s] w (TextsAny (csL L s) (csB L s) w) := by
  have hC := l6Rising_any v L w h hl hs
  have hC : Calls Try.prog 67 #[v] w fun e w' => e = .returned (.bool (riseB L)) ∧ Below w.heap.size w w' := hC
  have HC := Lib.hid hC
  have HD := Lib.hid (l1Row_any s hsz)
  have HT := Lib.hid h
  unfold TextsAny
  clear hC
  by_cases hr : riseB L = true
  · have HG := Lib.hid (fun w h => l6Group_rise v L hr w h)
    rw [hr] at HC
    by_cases hg : isG L = true
    · obtain ⟨_, hb, h0, h3, h8, hrows, _, _, hfl⟩ := isG_facts hg
      rw [hg] at HG
      obtain ⟨m, hm⟩ : ∃ m, L.length = m := ⟨_, rfl⟩
      obtain ⟨a, cap, rfl, hcap, ha⟩ := id h
      obtain ⟨g, off, s0, rfl, hgl, c0, hs0⟩ := txts_first h h0
      have hmp : (0 : Int) < (m : Int) := by omega
      have HT : Hid (Txts w (.slice (some ⟨g, off, none⟩) m cap) L) := by rw [hm] at HT; exact HT
      have HG0 := Lib.hid c0
      by_cases hgs : goodB s = true
      · have hrow := goodB_row hgs
        rw [hgs] at HD
        by_cases hz : s.size = firstN L
        · have hB : csB L s = true := by unfold csB; rw [hg, hgs, decide_eq_true hz]; rfl
          rw [csL_yes hB, hB]
          unfold csF
          have hne : ((s.size : Int) != ((firstN L : Nat) : Int)) = false := by rw [hz]; simp
          have hss : strOf (firstN L) (dg s) = s := by rw [← hz]; exact (strOf_of_isStr (isStr_dg s)).symm
          have HLF := Lib.hid (fun w h => l6Left_any (firstN L) (dg s) (by rw [← hz]; exact hrow) (.slice (some ⟨g, off, none⟩) m cap) (rF L) hrows (by omega) w (Txts.rows h hb))
          rw [hss] at HLF
          rw [hz] at hrow hne
          have hrm := rows_map hrow hrows
          have HSO := Lib.hid (fun v w h => l6Sort_any (firstN L) 1000 ((rF L).map (mulR (firstN L) (dg s))) (by rw [List.length_map]; omega) (by omega) hrm v w h)
          unfold TextsOut at HLF HSO
          rw [hm] at HC HG ⊢
          generalize firstN L = n at *
          generalize rF L = fs at *
          generalize dg s = f at *
          generalize fs.map (mulR n f) = gs at *
          clear h hl hs hg hgs hB hb h0 h3 h8 hrows hfl hm hcap ha hrow hrm c0 hr hss
          go_enter Try.func31, Try.ntmps31
          go_wp2_with fail
          refine HC.out.mono ?_
          rintro e w1 ⟨rfl, hb1⟩
          have HB1 := Lib.hid hb1
          have HT1 := Lib.hid (HT.out.kept hb1)
          clear hb1
          go_wp2_with fail
          refine (HG.out _ HT1.out).mono ?_
          rintro e w2 ⟨rfl, hb2⟩
          have HB2 := Lib.hid (HB1.out.trans (hb2.mono HB1.out.size))
          have HT2 := Lib.hid (HT1.out.kept hb2)
          clear hb2 HB1 HT1
          go_wp2_with fail
          refine (HD.out _).mono ?_
          rintro e w3 ⟨rfl, hb3⟩
          have HB3 := Lib.hid (HB2.out.trans (hb3.mono HB2.out.size))
          have HT3 := Lib.hid (HT2.out.kept hb3)
          have c3 := (HB3.out.cell (p := ⟨g, off, none⟩) hgl).trans HG0.out
          clear hb3 HB2 HT2
          go_wp2_with fail
          refine (HLF.out _ HT3.out).mono ?_
          rintro e w4 ⟨v4, rfl, hn4, hb4⟩
          have HB4 := Lib.hid (HB3.out.trans (hb4.mono HB3.out.size))
          have HN4 := Lib.hid hn4
          clear hb4 hn4 HB3 HT3 c3
          go_wp2_with fail
          refine (HSO.out _ _ HN4.out.own.txts).mono ?_
          rintro e w5 ⟨v5, rfl, hn5, hb5⟩
          have HB5 := Lib.hid (HB4.out.trans (hb5.mono HB4.out.size))
          have HN5 := Lib.hid (hn5.lower HB4.out.size)
          obtain ⟨ua, uc, rfl, -⟩ := hn5.own.view
          clear hb5 hn5
          go_wp2
          go_ret2
          exact ⟨_, rfl, HN5.out, HB5.out⟩
        · have hB : csB L s = false := by unfold csB; rw [decide_eq_false hz]; simp
          rw [csL_no hB, hB]
          have hne : ((s.size : Int) != ((firstN L : Nat) : Int)) = true := by simpa using (by omega : ¬ (s.size : Int) = firstN L)
          rw [hm] at HC HG ⊢
          generalize firstN L = n at *
          clear h hl hs hg hgs hB hb h0 h3 h8 hrows hfl hm hcap ha hrow c0 hr hz
          go_enter Try.func31, Try.ntmps31
          go_wp2_with fail
          refine HC.out.mono ?_
          rintro e w1 ⟨rfl, hb1⟩
          have HB1 := Lib.hid hb1
          have HT1 := Lib.hid (HT.out.kept hb1)
          clear hb1
          go_wp2_with fail
          refine (HG.out _ HT1.out).mono ?_
          rintro e w2 ⟨rfl, hb2⟩
          have HB2 := Lib.hid (HB1.out.trans (hb2.mono HB1.out.size))
          clear hb2 HB1 HT1
          go_wp2_with fail
          refine (HD.out _).mono ?_
          rintro e w3 ⟨rfl, hb3⟩
          have HB3 := Lib.hid (HB2.out.trans (hb3.mono HB2.out.size))
          have c3 := (HB3.out.cell (p := ⟨g, off, none⟩) hgl).trans HG0.out
          clear hb3 HB2
          go_wp2
          go_ret2
          exact ⟨_, rfl, New.nil _ _ _, HB3.out⟩
      · have hgs : goodB s = false := by simpa using hgs
        have hB : csB L s = false := by unfold csB; rw [hgs]; simp
        rw [csL_no hB, hB]
        rw [hgs] at HD
        rw [hm] at HC HG ⊢
        clear h hl hs hg hgs hB hb h0 h3 h8 hrows hfl hm hcap ha c0 hr hs0
        go_enter Try.func31, Try.ntmps31
        go_wp2_with fail
        refine HC.out.mono ?_
        rintro e w1 ⟨rfl, hb1⟩
        have HB1 := Lib.hid hb1
        have HT1 := Lib.hid (HT.out.kept hb1)
        clear hb1
        go_wp2_with fail
        refine (HG.out _ HT1.out).mono ?_
        rintro e w2 ⟨rfl, hb2⟩
        have HB2 := Lib.hid (HB1.out.trans (hb2.mono HB1.out.size))
        clear hb2 HB1 HT1
        go_wp2_with fail
        refine (HD.out _).mono ?_
        rintro e w3 ⟨rfl, hb3⟩
        have HB3 := Lib.hid (HB2.out.trans (hb3.mono HB2.out.size))
        clear hb3 HB2
        go_wp2
        go_ret2
        exact ⟨_, rfl, New.nil _ _ _, HB3.out⟩
    · have hg : isG L = false := by simpa using hg
      have hB : csB L s = false := by unfold csB; rw [hg]; rfl
      rw [csL_no hB, hB]
      rw [hg] at HG
      clear h hl hs hg hB hr
      go_enter Try.func31, Try.ntmps31
      go_wp2_with fail
      refine HC.out.mono ?_
      rintro e w1 ⟨rfl, hb1⟩
      have HB1 := Lib.hid hb1
      have HT1 := Lib.hid (HT.out.kept hb1)
      clear hb1
      go_wp2_with fail
      refine (HG.out _ HT1.out).mono ?_
      rintro e w2 ⟨rfl, hb2⟩
      have HB2 := Lib.hid (HB1.out.trans (hb2.mono HB1.out.size))
      clear hb2 HB1 HT1
      go_wp2
      go_ret2
      exact ⟨_, rfl, New.nil _ _ _, HB2.out⟩
  · have hr : riseB L = false := by simpa using hr
    have hB : csB L s = false := by unfold csB isG; rw [hr]; rfl
    rw [csL_no hB, hB]
    rw [hr] at HC
    clear h hl hs hB hr HT
    go_enter Try.func31, Try.ntmps31
    go_wp2_with fail
    refine HC.out.mono ?_
    rintro e w1 ⟨rfl, hb1⟩
    go_wp2
    go_ret2
    exact ⟨_, rfl, New.nil _ _ _, hb1⟩

theorem bothCosetOf (L : List (List Nat)) (s : ByteArray) (hl : L.length ≤ 2000000) (hsm : ∀ l ∈ L, l.length ≤ maxLen) (hs : s.size ≤ maxLen) :
    ∃ P b, P.length ≤ 1000 ∧ (∀ u w, Txts w u L → Calls Try.prog 32 #[u, .string s] w (TextsAny P b w)) ∧ (∀ u w, Txts w u L → Calls Try.prog 31 #[u, .string s] w (TextsAny P b w)) := by
  refine ⟨csL L s, csB L s, ?_, fun u w h => iCosetOf_any u L s hs w h hl hsm, fun u w h => sCosetOf_any u L s hs w h hl hsm⟩
  cases h : csB L s
  · rw [csL_no h]; simp
  · rw [csL_yes h, rowsL_len]
    unfold csF
    rw [sortF_len, List.length_map]
    have hg : isG L = true := by unfold csB at h; simp only [Bool.and_eq_true] at h; exact h.1
    have := (isG_facts hg).2.2.2.2.2.2.2.2
    omega

set_option maxRecDepth 100000 in
set_option maxHeartbeats 1000000 in
theorem lawCosetOf (v0 : Value) (ss0 : List ByteArray) (s1 : ByteArray) (W : World) (hA0 : Arg W v0 ss0) (hy0 : ss0.length ≤ maxLen ∧ ∀ s ∈ ss0, s.size ≤ maxLen) (hz1 : s1.size ≤ maxLen) :
    Calls Try.prog 9 #[v0, .string s1] W fun e w' => e = .returned (.bool true) ∧ Below W.heap.size W w' := by
  by_cases hbig1 : (1048576 : Int) < s1.size
  · clear hy0
    go_enter Try.func9, Try.ntmps9
    go_wp2
    go_ret
    exact ⟨rfl, Below.refl _ _⟩
  have hsz1 : s1.size ≤ 1048576 := by omega
  have hz0 : ∀ w, Arg w v0 ss0 → (0 : Int) ≤ 1048576 → (1048576 : Int) ≤ 1048576 → Calls _ _ _ w _ := fun w h h0 h1 => szStringS_any v0 ss0 w h hy0.1 hy0.2 (1048576) h0 h1
  have hlen0 := szAll_len (ss := ss0) (left := 1048576)
  have hsm0 := letss_small (ss := ss0) (left := 1048576)
  have hle0 := szAll_left (ss := ss0) (left := 1048576)
  generalize hzz0 : szAll ss0 1048576 = z0 at *
  by_cases hneg0 : z0 < 0
  · clear hlen0 hsm0 hle0
    go_enter Try.func9, Try.ntmps9
    go_wp2_with fail
    refine (hz0 _ hA0 (by omega) (by omega)).mono ?_
    rintro e w0 ⟨rfl, rfl⟩
    go_wp2
    go_ret
    exact ⟨rfl, Below.refl _ _⟩
  have hn0 := hlen0 (by omega)
  have hsm0 := hsm0 (by omega) (by omega)
  have hle0 := hle0 (by omega)
  have hss0 : ss0.length ≤ 1048576 := by omega
  have HS0 : Hid (∀ w, Arg w v0 ss0 → Calls Try.prog 16 #[v0] w _) := Lib.hid (fun w h => toStringS_any v0 ss0 w h (by omega))
  have HZ0 := Lib.hid hz0
  have hll0 := letss_len ss0
  generalize letss ss0 = L0 at *
  have hL0 : L0.length ≤ 1048576 := by omega
  have HA0 := Lib.hid hA0
  have hsm1 : s1.size ≤ maxLen := by unfold maxLen; omega
  obtain ⟨P, b, hPL, hI, hM⟩ := bothCosetOf L0 s1 (by omega) hsm0 hsm1
  have HI := Lib.hid hI
  have HM := Lib.hid hM
  clear hI hM hz0 hlen0 hy0 hll0 hA0 hsm0 hsm1
  obtain ⟨q0, hq0⟩ : ∃ n, L0.length = n := ⟨_, rfl⟩
  rw [hq0] at hL0
  have HQ0 := Lib.hid hq0
  clear hq0
  have hqi0 : (q0 : Int) ≤ 1048576 := by omega
  obtain ⟨m, hm⟩ : ∃ m, P.length = m := ⟨_, rfl⟩
  rw [hm] at hPL
  have HMM := Lib.hid hm
  clear hm
  have hmi : (m : Int) ≤ 1000 := by omega
  cases b
  all_goals
    go_enter Try.func9, Try.ntmps9
    go_wp2_with fail
    refine (HZ0.out _ HA0.out (by omega) (by omega)).mono ?_
    rintro e w0 ⟨rfl, rfl⟩
    clear HZ0
    go_wp2_with fail
    refine (HS0.out _ HA0.out).mono ?_
    rintro e w1 ⟨va0, rfl, hn1, hb1⟩
    have B1 := Lib.hid hb1
    have Ta0_1 := Lib.hid hn1
    clear hn1 hb1
    go_wp2_with fail
    refine (HM.out va0 _ Ta0_1.out.own.txts).mono ?_
    rintro e w2 ⟨v2, rfl, hn2, hb2⟩
    have B2 := Lib.hid (B1.out.trans (hb2.mono B1.out.size))
    have Ta0_2 := Lib.hid (Ta0_1.out.kept hb2)
    have R_2 := Lib.hid hn2.own
    clear hn2 hb2 B1 Ta0_1
    clear Ta0_2
    have BB := B2
    clear B2
    have R0 := R_2
    go_wp2_with fail
    refine (HS0.out _ (HA0.out.kept BB.out)).mono ?_
    rintro e w3 ⟨vx0, rfl, hn3, hb3⟩
    have B3 := Lib.hid hb3
    have R_3 := Lib.hid (R_2.out.kept hb3)
    have Tx0_3 := Lib.hid hn3
    clear hn3 hb3 R_2
    have SZX := Lib.hid B3.out.size
    go_wp2_with fail
    refine (HI.out vx0 _ Tx0_3.out.own.txts).mono ?_
    rintro e w4 ⟨v4, rfl, hn4, hb4⟩
    have AP0 : Hid (∀ g, v4.ownBlock = some g → vx0.ownBlock ≠ some g) := Lib.hid (fun g hg h3 => by
      have h1 := hn4.base g hg
      have h2 := Tx0_3.out.own.lt g h3
      omega)
    have SZ4 := Lib.hid hb4.size
    have B4 := Lib.hid (B3.out.trans (hb4.mono B3.out.size))
    have R_4 := Lib.hid (R_3.out.kept hb4)
    have Tx0_4 := Lib.hid (Tx0_3.out.kept hb4)
    have G_4 := Lib.hid hn4
    clear hn4 hb4 B3 R_3 Tx0_3
    go_wp2_with fail
    refine (eqStringS_same v4 v2 P _ G_4.out.own R_4.out (by rw [HMM.out]; omega)).mono ?_
    rintro e w5 ⟨rfl, d5, hd5⟩
    have B5 : Hid (Below w2.heap.size w2 w5) := by rw [hd5]; exact below_drewN B4.out _
    have R_5 := Lib.hid (R_4.out.drewN d5)
    rw [← hd5] at R_5
    have Tx0_5 := Lib.hid (Tx0_4.out.drewN d5)
    rw [← hd5] at Tx0_5
    have G_5 := Lib.hid (G_4.out.drewN d5)
    rw [← hd5] at G_5
    have SZ5 : Hid (w3.heap.size ≤ w5.heap.size) := by rw [hd5]; exact SZ4.out
    clear hd5 SZ4 B4 R_4 Tx0_4 G_4
    go_wp2_with fail
    refine (HS0.out _ (HA0.out.kept (BB.out.trans (B5.out.mono BB.out.size)))).mono ?_
    rintro e w6 ⟨vy0, rfl, hn6, hb6⟩
    have B6 := Lib.hid (B5.out.trans (hb6.mono B5.out.size))
    have R_6 := Lib.hid (R_5.out.kept hb6)
    have Tx0_6 := Lib.hid (Tx0_5.out.kept hb6)
    have G_6 := Lib.hid (G_5.out.kept hb6)
    have Ty_6 := Lib.hid hn6.own
    have SZ6 := Lib.hid (Nat.le_trans SZ5.out hb6.size)
    clear hn6 hb6 B5 SZ5 R_5 Tx0_5 G_5
    go_wp2_with fail
    refine (eqStringS_same vx0 vy0 L0 _ Tx0_6.out.own Ty_6.out (by rw [HQ0.out]; omega)).mono ?_
    rintro e w7 ⟨rfl, d7, hd7⟩
    have B7 : Hid (Below w2.heap.size w2 w7) := by rw [hd7]; exact below_drewN B6.out _
    have R_7 := Lib.hid (R_6.out.drewN d7)
    rw [← hd7] at R_7
    have Tx0_7 := Lib.hid (Tx0_6.out.drewN d7)
    rw [← hd7] at Tx0_7
    have G_7 := Lib.hid (G_6.out.drewN d7)
    rw [← hd7] at G_7
    have Ty_7 := Lib.hid (Ty_6.out.drewN d7)
    rw [← hd7] at Ty_7
    have SZ7 : Hid (w3.heap.size ≤ w7.heap.size) := by rw [hd7]; exact SZ6.out
    clear hd7 SZ6 B6 R_6 Tx0_6 G_6 Ty_6
    clear Ty_7
    go_wp2_with fail
    refine (markStringS_full w2.heap.size vx0 L0 1 _ Tx0_7.out B7.out.size (by rw [HQ0.out]; omega) (by omega) (by omega)).mono ?_
    rintro e w8 ⟨rfl, _, hb8, hk8⟩
    have B8 := Lib.hid (B7.out.trans hb8)
    have R_8 := Lib.hid (R_7.out.under R0.out.lt hb8)
    have G_8 : Hid (New w3.heap.size w8 9 v4 (strs P)) := Lib.hid ⟨G_7.out.own.besides hk8 AP0.out, G_7.out.base⟩
    have SZ8 := Lib.hid (Nat.le_trans SZ7.out hb8.size)
    rw [HQ0.out]
    clear hb8 hk8 B7 SZ7 R_7 G_7 Tx0_7
    have hnn : ¬ ((1 : Int) + (q0 : Nat) < 0) := by omega
    go_wp2_with fail
    refine (eqStringS_same v4 v2 P _ G_8.out.own R_8.out (by rw [HMM.out]; omega)).mono ?_
    rintro e w9 ⟨rfl, d9, hd9⟩
    have B9 : Hid (Below w2.heap.size w2 w9) := by rw [hd9]; exact below_drewN B8.out _
    have R_9 := Lib.hid (R_8.out.drewN d9)
    rw [← hd9] at R_9
    have G_9 := Lib.hid (G_8.out.drewN d9)
    rw [← hd9] at G_9
    have SZ9 : Hid (w3.heap.size ≤ w9.heap.size) := by rw [hd9]; exact SZ8.out
    clear hd9 SZ8 B8 R_8 G_8
    go_wp2_with fail
    refine (markStringS_full w3.heap.size v4 P 1 _ G_9.out SZ9.out (by rw [HMM.out]; omega) (by omega) (by omega)).mono ?_
    rintro e w10 ⟨rfl, hn10, hb10, _⟩
    rw [HMM.out] at hn10
    have B10 := Lib.hid (B9.out.trans (hb10.mono SZX.out))
    have R_10 := Lib.hid (R_9.out.under (fun g hg => Nat.lt_of_lt_of_le (R0.out.lt g hg) SZX.out) hb10)
    have G_10 := Lib.hid hn10
    rw [HMM.out]
    clear hn10 hb10 B9 R_9 G_9
    go_wp2_with fail
    refine (heldStringS_any v4 m 1 _ G_10.out.own (by omega) (by omega) (by omega)).mono ?_
    rintro e w11 ⟨rfl, hb11⟩
    have B11 := Lib.hid (B10.out.trans (hb11.mono B10.out.size))
    have R_11 := Lib.hid (R_10.out.kept hb11)
    have G_11 := Lib.hid (G_10.out.kept hb11)
    clear hb11 B10 R_10 G_10
    have hmm : ¬ ((1 : Int) + (m : Nat) < 0) := by omega
    go_wp2_with fail
    refine (HS0.out _ (HA0.out.kept (BB.out.trans (B11.out.mono BB.out.size)))).mono ?_
    rintro e w12 ⟨vh0, rfl, hn12, hb12⟩
    have B12 := Lib.hid (B11.out.trans (hb12.mono B11.out.size))
    have R_12 := Lib.hid (R_11.out.kept hb12)
    have G_12 := Lib.hid (G_11.out.kept hb12)
    have Th0_12 := Lib.hid hn12
    clear hn12 hb12 B11 R_11 G_11
    go_wp2_with fail
    refine (HI.out vh0 _ Th0_12.out.own.txts).mono ?_
    rintro e w13 ⟨v13, rfl, hn13, hb13⟩
    have B13 := Lib.hid (B12.out.trans (hb13.mono B12.out.size))
    have R_13 := Lib.hid (R_12.out.kept hb13)
    have G_13 := Lib.hid (G_12.out.kept hb13)
    have Th0_13 := Lib.hid (Th0_12.out.kept hb13)
    have H_13 := Lib.hid hn13.own
    clear hn13 hb13 B12 R_12 G_12 Th0_12
    clear Th0_13
    go_wp2_with fail
    refine (eqStringS_same v13 v2 P _ H_13.out R_13.out (by rw [HMM.out]; omega)).mono ?_
    rintro e w14 ⟨rfl, d14, hd14⟩
    have B14 : Hid (Below w2.heap.size w2 w14) := by rw [hd14]; exact below_drewN B13.out _
    have G_14 : Hid (New w3.heap.size w14 9 v4 (strs (smarks 1 m))) := by rw [hd14]; exact G_13.out.drewN _
    clear hd14 B13 R_13 G_13 H_13
    go_wp2_with fail
    refine (heldStringS_any v4 m 1 _ G_14.out.own (by omega) (by omega) (by omega)).mono ?_
    rintro e w15 ⟨rfl, hb15⟩
    have B15 := Lib.hid (B14.out.trans (hb15.mono B14.out.size))
    have G_15 := Lib.hid (G_14.out.kept hb15)
    clear hb15 B14 G_14
    go_wp2
    go_ret
    exact ⟨rfl, BB.out.trans (B15.out.mono BB.out.size)⟩
end Go.Proofs.Ytapcfojnljnoaaa
