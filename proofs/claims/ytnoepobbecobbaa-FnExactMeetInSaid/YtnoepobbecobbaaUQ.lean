/- Rows that two lists share, in the program and in the model. -/
import Derived.Test.YtnoepobbecobbaaUP
import Derived.Test.YtnoepobbecobbaaSVY
namespace Go.Proofs.Ytnoepobbecobbaa
open Go.RowKit
set_option linter.unusedSimpArgs false
set_option linter.unusedVariables false

/-- two lists of one stage -/
def clashB (L M : List (List Nat)) : Bool := (decide (0 < L.length) && decide (0 < M.length)) && !decide (firstN L = firstN M)
noncomputable def meetB (L M : List (List Nat)) : Bool := (listB L && listB M) && !clashB L M
def meetN (L M : List (List Nat)) : Nat := if 0 < L.length then firstN L else firstN M
noncomputable def meetL (L M : List (List Nat)) : List (List Nat) := if meetB L M = true then rowsL (meetN L M) (stayF (rF M) (rF L)) else []
theorem meetL_no {L M : List (List Nat)} (h : meetB L M = false) : meetL L M = [] := by
  unfold meetL
  rw [h]
  rfl
theorem meetL_yes {L M : List (List Nat)} (h : meetB L M = true) : meetL L M = rowsL (meetN L M) (stayF (rF M) (rF L)) := by
  unfold meetL
  rw [if_pos h]
theorem stay_rowsIn (gs fs : List (Nat → Nat)) : stayF (rowsIn gs) fs = stayF gs fs := by
  unfold stayF
  congr 1
  funext x
  exact inB_rowsIn x gs
theorem stay_rows {n : Nat} {S fs : List (Nat → Nat)} (hr : Rows n fs) : Rows n (stayF S fs) := fun x hx => hr x ((List.mem_filter.1 hx).1)
theorem stay_len (S fs : List (Nat → Nat)) : (stayF S fs).length ≤ fs.length := List.length_filter_le _ _
/-- what both lists' rows are -/
theorem meet_rows {L M : List (List Nat)} (h1 : listB L = true) (h2 : listB M = true) (h3 : clashB L M = false) :
    rowsB (meetN L M) L = true ∧ rowsB (meetN L M) M = true := by
  unfold meetN
  by_cases hL : 0 < L.length
  · rw [if_pos hL]
    refine ⟨h1, ?_⟩
    by_cases hM : 0 < M.length
    · have : firstN L = firstN M := by
        unfold clashB at h3
        rw [decide_eq_true hL, decide_eq_true hM] at h3
        simpa using h3
      rw [this]
      exact h2
    · have : M = [] := List.eq_nil_of_length_eq_zero (by omega)
      subst this
      simp [rowsB]
  · rw [if_neg hL]
    have : L = [] := List.eq_nil_of_length_eq_zero (by omega)
    subst this
    exact ⟨by simp [rowsB], h2⟩

set_option maxRecDepth 100000 in
set_option maxHeartbeats 1000000 in
theorem l1HasS_any (n : Nat) (v : Value) (gs : List (Nat → Nat)) (hr : Rows n gs) (hl : gs.length ≤ 1000) (x : Nat → Nat) (hx : IsRow n x) (w : World) (h : Txts w v (rowsL n gs)) :
    Calls Try.prog 83 #[v, .string (strOf n x)] w fun e w' => e = .returned (.bool (inB x gs)) ∧ Below w.heap.size w w' := by
  obtain ⟨m, hm⟩ : ∃ m, gs.length = m := ⟨_, rfl⟩
  obtain ⟨a, cap, rfl, hcap, ha⟩ := h
  have HA : Hid (0 < m → ∃ g off, a = some ⟨g, off, none⟩ ∧ g < w.heap.size ∧ ∀ j (hj : j < gs.length), w.cell? ⟨g, off + j, none⟩ = some (.string (strOf n gs[j]))) := Lib.hid (fun h0 => by
    obtain ⟨g', o', e', hg', hc'⟩ := ha (by rw [rowsL_len, hm]; exact h0)
    refine ⟨g', o', e', hg', fun j hj => ?_⟩
    rw [hc' j (by rw [rowsL_len]; exact hj), rowsL, List.getD_eq_getElem?_getD, List.getElem?_map, List.getElem?_eq_getElem hj, Option.map_some, Option.getD_some, txt_rowL])
  rw [rowsL_len, hm]
  have hmi : (m : Int) ≤ 1000 := by omega
  have HR := Lib.hid hr
  have HM := Lib.hid hm
  have HX := Lib.hid hx
  generalize hres : inB x gs = res
  have HRES := Lib.hid hres
  clear ha hm hcap hr hl hx hres
  go_enter Try.func83, Try.ntmps83
  go_wp2
  go_loopg [9] m (fun q i wr => ∃ j : Nat, q + j = m ∧ i = .int .i64 j ∧ (∀ t (h : t < gs.length), t < j → gs[t] ≠ x) ∧ Below w.heap.size w wr)
  case atStart => exact ⟨0, by omega, rfl, fun t h ht => by omega, Below.refl _ _⟩
  case round =>
    obtain ⟨j, hq, rfl, hno, hb⟩ := hrel
    have HQ := Lib.hid hq
    have HNO := Lib.hid hno
    have HB := Lib.hid hb
    clear hq hno hb
    by_cases hlt : j < m
    · obtain ⟨g, off, rfl, hg, hc⟩ := HA.out (by omega)
      have hjx : j < gs.length := by rw [HM.out]; exact hlt
      have c1 := (HB.out.cell (p := ⟨g, off + j, none⟩) hg).trans (hc j hjx)
      have hr1 := HR.out _ (List.getElem_mem hjx)
      have hji : (j : Int) < (m : Int) := by omega
      by_cases he : gs[j] = x
      · have HT : Hid (res = true) := Lib.hid (by
          rw [← HRES.out, inB_iff, ← he]
          exact List.getElem_mem hjx)
        rw [he] at c1
        have hss : ((strOf n x).toList == (strOf n x).toList) = true := by simp
        generalize strOf n x = sx at *
        clear hc hr1 he
        go_wp2
        go_ret
        exact ⟨by rw [HT.out]; rfl, HB.out⟩
      · have hss := str_other hr1 HX.out he
        have HNO2 : Hid (∀ t (h : t < gs.length), t < j + 1 → gs[t] ≠ x) := Lib.hid (fun t h ht => by
          by_cases e : t = j
          · subst e; exact he
          · exact HNO.out t h (by omega))
        generalize strOf n x = sx at *
        generalize strOf n gs[j] = sj at *
        clear hc hr1 he
        go_wp2
        go_roundg (m - (j + 1))
        case measure => have := HQ.out; omega
        case rel => exact ⟨j + 1, by have := HQ.out; omega, by go_num, HNO2.out, HB.out⟩
    · obtain rfl : j = m := by have := HQ.out; omega
      have HF : Hid (res = false) := Lib.hid (by
        rw [← HRES.out, inB_no]
        intro hmem
        obtain ⟨t, ht, e⟩ := List.getElem_of_mem hmem
        exact HNO.out t ht (by rw [HM.out] at ht; exact ht) e)
      go_wp2
      go_ret
      exact ⟨by rw [HF.out]; rfl, HB.out⟩

set_option maxRecDepth 100000 in
set_option maxHeartbeats 1000000 in
theorem iMeetIn_any (v0 v1 : Value) (L M : List (List Nat)) (w : World) (h0 : Txts w v0 L) (h1 : Txts w v1 M) (hl0 : L.length ≤ 2000000) (hl1 : M.length ≤ 2000000) (hs0 : ∀ l ∈ L, l.length ≤ maxLen) (hs1 : ∀ l ∈ M, l.length ≤ maxLen) :
    Calls Try.prog 41 #[v0, v1] w (TextsAny (meetL L M) (meetB L M) w) := by
  have HC0 := Lib.hid (rowListOf_any v0 L w h0 hl0 hs0)
  have HC1 := Lib.hid (fun w' h' => rowListOf_any v1 M w' h' hl1 hs1)
  have HT1 := Lib.hid h1
  unfold ListOut6 at HC0 HC1
  unfold TextsAny
  by_cases hb0 : listB L = true
  · by_cases hb1 : listB M = true
    · by_cases hcl : clashB L M = true
      · have hB : meetB L M = false := by unfold meetB; rw [hcl]; simp
        rw [meetL_no hB, hB]
        rw [hb0, if_pos rfl] at HC0
        rw [hb1, if_pos rfl] at HC1
        unfold clashB at hcl
        simp only [Bool.and_eq_true, decide_eq_true_eq, Bool.not_eq_true', decide_eq_false_iff_not] at hcl
        obtain ⟨⟨hp0, hp1⟩, hne⟩ := hcl
        obtain ⟨a0, k0, rfl, hk0, -⟩ := id h0
        obtain ⟨a1, k1, rfl, hk1, -⟩ := id h1
        obtain ⟨g0, o0, s0, rfl, hg0, c0, hz0⟩ := txts_first h0 hp0
        obtain ⟨g1, o1, s1, rfl, hg1, c1, hz1⟩ := txts_first h1 hp1
        have hnz : ((s0.size : Int) != (s1.size : Int)) = true := by rw [hz0, hz1, bne_iff_ne]; omega
        have hp0i : (0 : Int) < (L.length : Int) := by omega
        have hp1i : (0 : Int) < (M.length : Int) := by omega
        have K0 := Lib.hid c0
        have K1 := Lib.hid c1
        generalize L.length = m0 at *
        generalize M.length = m1 at *
        clear h0 h1 hl0 hl1 hs0 hs1 hb0 hb1 hk0 hk1 c0 c1 hz0 hz1 hne hB
        go_enter Try.func41, Try.ntmps41
        go_wp2_with fail
        refine HC0.out.mono ?_
        rintro e w1 ⟨va, rfl, hna, hba⟩
        have HB1 := Lib.hid hba
        have HT2 := Lib.hid (HT1.out.kept hba)
        clear hba hna
        go_wp2_with fail
        refine (HC1.out _ HT2.out).mono ?_
        rintro e w2 ⟨vb, rfl, hnb, hbb⟩
        have HB2 := Lib.hid (HB1.out.trans (hbb.mono HB1.out.size))
        clear hbb hnb
        have c0 := (HB2.out.cell (p := ⟨g0, o0, none⟩) hg0).trans K0.out
        have c1 := (HB2.out.cell (p := ⟨g1, o1, none⟩) hg1).trans K1.out
        go_wp2
        go_quiet (fail)
        go_wp2
        go_ret2
        exact ⟨_, rfl, New.nil _ _ _, below_drewN HB2.out _⟩
      · have hcl : clashB L M = false := by simpa using hcl
        have hB : meetB L M = true := by unfold meetB; rw [hcl, hb0, hb1]; rfl
        rw [meetL_yes hB, hB]
        rw [hb0, if_pos rfl] at HC0
        rw [hb1, if_pos rfl] at HC1
        obtain ⟨hq0, hq1⟩ := meet_rows hb0 hb1 hcl
        have hr0 := rowsB_rows hq0
        have hr1 := rowsB_rows hq1
        have hl8 : (rF L).length ≤ 1000 := by have := rowsB_len hq0; rw [rF_len]; omega
        have hm8 : (rF M).length ≤ 1000 := by have := rowsB_len hq1; rw [rF_len]; omega
        rw [← stay_rowsIn]
        have hsl := stay_len (rowsIn (rF M)) (rF L)
        generalize meetN L M = n at *
        have HSET := Lib.hid (fun v w h => rowSetOf_any n v (rF M) hr1 hm8 w h)
        have HDEL := Lib.hid (fun cb mb B v W hB hr hs hv => deleteFuncM_any n (rowsIn (rF M)) cb mb B v (rF L) hr0 hl8 W hB hr hs hv)
        have HTXT := Lib.hid (fun v w h => rowTexts_any n v (stayF (rowsIn (rF M)) (rF L)) (stay_rows hr0) (by omega) w h)
        unfold SetOut at HSET
        unfold TextsOut at HTXT
        generalize stayF (rowsIn (rF M)) (rF L) = out at *
        generalize rowsIn (rF M) = S at *
        generalize rF L = fs at *
        generalize rF M = gs at *
        have hcase : (L.length = 0) ∨ (0 < L.length ∧ M.length = 0) ∨ (0 < L.length ∧ 0 < M.length ∧ firstN L = firstN M) := by
          unfold clashB at hcl
          by_cases p0 : 0 < L.length
          · by_cases p1 : 0 < M.length
            · rw [decide_eq_true p0, decide_eq_true p1] at hcl
              exact .inr (.inr ⟨p0, p1, by simpa using hcl⟩)
            · exact .inr (.inl ⟨p0, by omega⟩)
          · exact .inl (by omega)
        have HFACT : Hid (∃ (a0 a1 : Option Addr) (k0 k1 m0 m1 : Nat), v0 = .slice a0 m0 k0 ∧ v1 = .slice a1 m1 k1 ∧ (m0 = 0 ∨ (0 < m0 ∧ m1 = 0) ∨ (0 < m0 ∧ 0 < m1 ∧ ∃ g0 o0 s0 g1 o1 s1, a0 = some ⟨g0, o0, none⟩ ∧ a1 = some ⟨g1, o1, none⟩ ∧ g0 < w.heap.size ∧ g1 < w.heap.size ∧ w.cell? ⟨g0, o0, none⟩ = some (.string s0) ∧ w.cell? ⟨g1, o1, none⟩ = some (.string s1) ∧ ((s0.size : Int) != (s1.size : Int)) = false))) := Lib.hid (by
          obtain ⟨a0, k0, rfl, hk0, -⟩ := id h0
          obtain ⟨a1, k1, rfl, hk1, -⟩ := id h1
          refine ⟨a0, a1, k0, k1, L.length, M.length, rfl, rfl, ?_⟩
          rcases hcase with h | h | ⟨p0, p1, hz⟩
          · exact .inl h
          · exact .inr (.inl h)
          · obtain ⟨g0, o0, s0, e0, hg0, c0, hz0⟩ := txts_first h0 p0
            obtain ⟨g1, o1, s1, e1, hg1, c1, hz1⟩ := txts_first h1 p1
            exact .inr (.inr ⟨p0, p1, g0, o0, s0, g1, o1, s1, e0, e1, hg0, hg1, c0, c1, by rw [hz0, hz1, hz]; simp⟩))
        clear h0 h1 hl0 hl1 hs0 hs1 hb0 hb1 hB hcl hq0 hq1 hr0 hr1 hl8 hm8 hsl hcase
        obtain ⟨a0, a1, k0, k1, m0, m1, rfl, rfl, hc⟩ := HFACT.out
        clear HFACT
        rcases hc with rfl | ⟨hp0, rfl⟩ | ⟨hp0, hp1, g0, o0, s0, g1, o1, s1, rfl, rfl, hg0, hg1, c0, c1, hnz⟩
        all_goals
          try have hp0i : (0 : Int) < (m0 : Int) := by omega
          try have hp1i : (0 : Int) < (m1 : Int) := by omega
          try have K0 := Lib.hid c0
          try have K1 := Lib.hid c1
          try clear c0 c1
          go_enter Try.func41, Try.ntmps41
          go_wp2_with fail
          refine HC0.out.mono ?_
          rintro e w1 ⟨va, rfl, hna, hba⟩
          have HB1 := Lib.hid hba
          have HT2 := Lib.hid (HT1.out.kept hba)
          have HA1 := Lib.hid hna
          clear hba hna
          go_wp2_with fail
          refine (HC1.out _ HT2.out).mono ?_
          rintro e w2 ⟨vb, rfl, hnb, hbb⟩
          have HB2 := Lib.hid (HB1.out.trans (hbb.mono HB1.out.size))
          have HA2 := Lib.hid (HA1.out.kept hbb)
          have HD2 := Lib.hid hnb.digs
          clear hbb hnb HA1 HB1
          try have c0 := (HB2.out.cell (p := ⟨g0, o0, none⟩) hg0).trans K0.out
          try have c1 := (HB2.out.cell (p := ⟨g1, o1, none⟩) hg1).trans K1.out
          go_wp2
          go_quiet (fail)
          have HBD := Lib.hid (below_drewN HB2.out nq)
          have HAD : Hid (NewD w.heap.size (w2.drewN nq) va fs) := Lib.hid (HA2.out.kept (below_drewN (Below.refl _ _) nq))
          have HDD : Hid (Digs (w2.drewN nq) vb gs) := Lib.hid (HD2.out.kept (below_drewN (Below.refl _ _) nq))
          clear HB2 HA2 HD2
          generalize w2.drewN nq = w2 at *
          go_wp2_with fail
          refine (HSET.out _ _ HDD.out).mono ?_
          rintro e w3 ⟨mb, rfl, hmb, hs3, hb3⟩
          have HB3 := Lib.hid (HBD.out.trans (hb3.mono HBD.out.size))
          have HA3 := Lib.hid (HAD.out.kept hb3)
          have HS3 := Lib.hid hs3
          clear hs3 hb3 HAD HDD HBD
          go_wp2_with fail
          have hal := (Below.refl w3.heap.size w3).alloc (Nat.le_refl _) (.cells #[Value.map (some mb)] 86)
          have HR4 := Lib.hid (RowAt.new w3 86 #[Value.map (some mb)])
          have HS4 := Lib.hid (HS3.out.kept hal)
          have HA4 := Lib.hid (HA3.out.kept hal)
          have HB4 := Lib.hid (HB3.out.trans (hal.mono HB3.out.size))
          clear hal
          refine (HDEL.out w3.heap.size mb w.heap.size va _ HB4.out.size HR4.out HS4.out HA4.out).mono ?_
          rintro e w5 ⟨⟨v5, rfl, hn5⟩, hb5⟩
          have HB5 := Lib.hid (HB4.out.trans hb5)
          have HD5 := Lib.hid hn5.digs
          clear hn5 hb5 HR4 HS4 HA4 HS3 HA3
          go_wp2_with fail
          refine (HTXT.out _ _ HD5.out).mono ?_
          rintro e w6 ⟨v6, rfl, hn6, hb6⟩
          have HB6 := Lib.hid (HB5.out.trans (hb6.mono HB5.out.size))
          have HN6 := Lib.hid (hn6.lower HB5.out.size)
          obtain ⟨a6, c6, rfl, -⟩ := hn6.own.view
          clear hb6 hn6
          go_wp2
          go_ret2
          exact ⟨_, rfl, HN6.out, HB6.out⟩
    · have hb1 : listB M = false := by simpa using hb1
      have hB : meetB L M = false := by unfold meetB; rw [hb1]; simp
      rw [meetL_no hB, hB]
      rw [hb0, if_pos rfl] at HC0
      rw [hb1] at HC1
      obtain ⟨a0, k0, rfl, hk0, -⟩ := id h0
      obtain ⟨a1, k1, rfl, hk1, -⟩ := id h1
      clear h0 h1 hl0 hl1 hs0 hs1 hb0 hb1 hk0 hk1 hB
      go_enter Try.func41, Try.ntmps41
      go_wp2_with fail
      refine HC0.out.mono ?_
      rintro e w1 ⟨va, rfl, hna, hba⟩
      have HB1 := Lib.hid hba
      have HT2 := Lib.hid (HT1.out.kept hba)
      clear hba hna
      go_wp2_with fail
      refine (HC1.out _ HT2.out).mono ?_
      rintro e w2 ⟨vb, rfl, hnb, hbb⟩
      have HB2 := Lib.hid (HB1.out.trans (hbb.mono HB1.out.size))
      clear hbb hnb
      go_wp2
      go_quiet (fail)
      go_wp2
      go_ret2
      exact ⟨_, rfl, New.nil _ _ _, below_drewN HB2.out _⟩
  · have hb0 : listB L = false := by simpa using hb0
    have hB : meetB L M = false := by unfold meetB; rw [hb0]; simp
    rw [meetL_no hB, hB]
    rw [hb0] at HC0
    obtain ⟨a0, k0, rfl, hk0, -⟩ := id h0
    obtain ⟨a1, k1, rfl, hk1, -⟩ := id h1
    generalize listB M = bm at *
    clear h0 h1 hl0 hl1 hs0 hs1 hb0 hk0 hk1 hB
    go_enter Try.func41, Try.ntmps41
    go_wp2_with fail
    refine HC0.out.mono ?_
    rintro e w1 ⟨va, rfl, hna, hba⟩
    have HB1 := Lib.hid hba
    have HT2 := Lib.hid (HT1.out.kept hba)
    clear hba hna
    go_wp2_with fail
    refine (HC1.out _ HT2.out).mono ?_
    rintro e w2 ⟨vb, rfl, hnb, hbb⟩
    have HB2 := Lib.hid (HB1.out.trans (hbb.mono HB1.out.size))
    clear hbb hnb
    go_wp2
    go_quiet (fail)
    go_wp2
    go_ret2
    exact ⟨_, rfl, New.nil _ _ _, below_drewN HB2.out _⟩

end Go.Proofs.Ytnoepobbecobbaa
