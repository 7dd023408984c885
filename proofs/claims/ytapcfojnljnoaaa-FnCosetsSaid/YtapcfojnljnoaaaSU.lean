/- CloseRows. -/
import Derived.Test.YtapcfojnljnoaaaST
import Derived.Test.YtapcfojnljnoaaaSI
namespace Go.Proofs.Ytapcfojnljnoaaa
open Go.RowKit
set_option linter.unusedSimpArgs false
set_option linter.unusedVariables false

noncomputable def clR (L : List (List Nat)) : Option (List (Nat → Nat)) := bfsR (firstN L) (rF L)
noncomputable def clB (L : List (List Nat)) : Bool := (listB L && decide (0 < L.length)) && (clR L).isSome
noncomputable def clL (L : List (List Nat)) : List (List Nat) := if clB L = true then closeT (firstN L) (clR L) else []
theorem first_row {L : List (List Nat)} (hb : listB L = true) (h0 : 0 < L.length) : 3 ≤ firstN L ∧ firstN L ≤ 8 ∧ 0 < (rF L).length := by
  have hr := rowsB_rows hb
  have h1 : 0 < (rF L).length := by rw [rF_len]; exact h0
  have := hr _ (List.getElem_mem h1)
  exact ⟨this.three, this.eight, h1⟩
theorem txts_first {W : World} {a : Option Addr} {m cap : Nat} {L : List (List Nat)} (h : Txts W (.slice a m cap) L) (h0 : 0 < L.length) : ∃ g off s, a = some ⟨g, off, none⟩ ∧ g < W.heap.size ∧ W.cell? ⟨g, off, none⟩ = some (.string s) ∧ s.size = firstN L := by
  obtain ⟨a', cap', e, _, ha⟩ := h
  injection e with e1 e2 e3
  subst e1
  obtain ⟨g, off, e, hg, hc⟩ := ha h0
  have := hc 0 h0
  rw [Nat.add_zero] at this
  exact ⟨g, off, _, e, hg, this, txt_size _⟩
theorem sortF_rows_len {n : Nat} {gens G : List (Nat → Nat)} (hg : Rows n gens) (h3 : 3 ≤ n) (h8 : n ≤ 8) (e : bfsR n gens = some G) : Rows n (sortF n G) ∧ (sortF n G).length ≤ 800 := by
  have := bfsR_spec hg
  rw [e] at this
  exact ⟨rows_sort (this.rows h3 h8 hg), by rw [sortF_len]; exact this.len⟩

set_option maxRecDepth 100000 in
set_option maxHeartbeats 1000000 in
theorem iCloseRows_any (v : Value) (L : List (List Nat)) (w : World) (h : Txts w v L) (hl : L.length ≤ 2000000) (hs : ∀ l ∈ L, l.length ≤ maxLen) :
    Calls Try.prog 28 #[v] w (TextsAny (clL L) (clB L) w) := by
  have HC := Lib.hid (rowListOf_any v L w h hl hs)
  have HT := Lib.hid h
  unfold ListOut6 at HC
  unfold TextsAny
  obtain ⟨m, hm⟩ : ∃ m, L.length = m := ⟨_, rfl⟩
  obtain ⟨a, cap, rfl, hcap, ha⟩ := id h
  clear ha hcap
  by_cases hb : listB L = true
  · by_cases h0 : 0 < L.length
    · obtain ⟨h3, h8, hf0⟩ := first_row hb h0
      have hrows := rowsB_rows hb
      have hfl : (rF L).length ≤ 1000 := by have := rowsB_len hb; rw [rF_len]; omega
      have hsame := grp_same h3 h8 hrows
      have hB : clB L = (clR L).isSome := by unfold clB; rw [hb, decide_eq_true h0]; simp
      have hL : clL L = closeT (firstN L) (clR L) := by
        unfold clL
        rw [hB]
        cases hq : clR L <;> simp [closeT]
      rw [hB, hL]
      unfold clR
      obtain ⟨g, off, s0, rfl, hgl, c0, hs0⟩ := txts_first h h0
      have hmi : ((m : Int) == 0) = false := by rw [beq_eq_false_iff_ne]; omega
      have hmp : (0 : Int) < m := by omega
      simp only [hb, if_true] at HC
      rw [hm] at HC HT ⊢
      have HGF := Lib.hid (fun v w h => groupFrom_any (firstN L) h3 h8 v (rF L) hrows hfl w h)
      have hlen : ∀ G, bfsR (firstN L) (rF L) = some G → Rows (firstN L) (sortF (firstN L) G) ∧ (sortF (firstN L) G).length ≤ 800 := fun G e => sortF_rows_len hrows h3 h8 e
      generalize firstN L = n at *
      generalize rF L = fs at *
      generalize grpR n fs = gr at *
      generalize bfsR n fs = br at *
      have hP0 : br = none → closeT n br = [] := fun e => by rw [e]; rfl
      have hP1 : ∀ G', br = some G' → closeT n br = rowsL n (sortF n G') := fun G' e => by rw [e]; rfl
      generalize closeT n br = P at *
      have HP0 := Lib.hid hP0
      have HP1 := Lib.hid hP1
      generalize hpb : br.isSome = pb at *
      have HPB := Lib.hid hpb
      have HLEN := Lib.hid hlen
      have HSAME := Lib.hid hsame
      clear h hl hs hb h0 hm hrows hfl hsame hB hL hf0 hlen hP0 hP1 hpb
      go_enter Try.func28, Try.ntmps28
      go_wp2_with fail
      refine HC.out.mono ?_
      rintro e w1 ⟨v1, rfl, hn1, hb1⟩
      have HB1 := Lib.hid hb1
      have HN1 := Lib.hid hn1
      have c1 := (hb1.cell (p := ⟨g, off, none⟩) hgl).trans c0
      clear hb1 hn1 c0
      go_wp2_with fail
      refine (HGF.out _ _ HN1.out.digs).mono ?_
      intro e w2 hset
      unfold SetAny at hset
      cases gr with
      | none =>
        obtain ⟨rfl, hb2⟩ := hset
        have hbr : br = none := by
          have := HSAME.out
          cases br with
          | none => rfl
          | some G => cases this
        subst hbr
        obtain rfl : P = [] := HP0.out rfl
        obtain rfl : false = pb := HPB.out
        have HB2 := Lib.hid (HB1.out.trans (hb2.mono HB1.out.size))
        clear hb2 HSAME HLEN HP0 HP1
        go_wp2
        go_ret2
        exact ⟨_, rfl, New.nil _ _ _, HB2.out⟩
      | some G =>
        obtain ⟨b, rfl, hbs, hs2, hb2⟩ := hset
        obtain ⟨G', rfl, hss⟩ : ∃ G', br = some G' ∧ sortF n G = sortF n G' := by
          have := HSAME.out
          cases br with
          | none => cases this
          | some G' => exact ⟨G', rfl, Option.some.inj this⟩
        have hsl := HLEN.out G' rfl
        rw [← hss] at hsl
        have hGl : G.length ≤ 1000 := by have := hsl.2; rw [sortF_len] at this; omega
        have hP := HP1.out G' rfl
        rw [← hss] at hP
        subst hP
        obtain rfl : true = pb := HPB.out
        have HSD := Lib.hid (sorted_any n b G hGl w2 hs2)
        have HB2 := Lib.hid (HB1.out.trans (hb2.mono HB1.out.size))
        clear hb2 HSAME HLEN hss hs2 hbs HP0 HP1 HPB
        have HRL := Lib.hid hsl
        unfold SortedOut at HSD
        clear hsl
        go_wp2_with fail
        refine HSD.out.mono ?_
        rintro e w3 ⟨v3, rfl, hn3, hb3⟩
        have HB3 := Lib.hid (HB2.out.trans (hb3.mono HB2.out.size))
        have HRT := Lib.hid (rowTexts_any n v3 (sortF n G) HRL.out.1 (by have := HRL.out.2; omega) w3 hn3.digs)
        unfold TextsOut at HRT
        clear hb3 hn3
        go_wp2_with fail
        refine HRT.out.mono ?_
        rintro e w4 ⟨v4, rfl, hn4, hb4⟩
        have HB4 := Lib.hid (HB3.out.trans (hb4.mono HB3.out.size))
        have HN4 := Lib.hid (hn4.lower HB3.out.size)
        obtain ⟨ua, uc, rfl, -⟩ := hn4.own.view
        clear hb4 hn4
        go_wp2
        go_ret2
        exact ⟨_, rfl, HN4.out, HB4.out⟩
    · have hB : clB L = false := by unfold clB; simp [h0]
      have hL : clL L = [] := by unfold clL; simp [hB]
      rw [hB, hL]
      have hmi : ((m : Int) == 0) = true := by rw [beq_iff_eq]; omega
      simp only [hb, if_true] at HC
      rw [hm] at HC ⊢
      generalize rF L = fs at *
      clear h hl hs hb h0 hm hB hL HT
      go_enter Try.func28, Try.ntmps28
      go_wp2_with fail
      refine HC.out.mono ?_
      rintro e w1 ⟨v1, rfl, hn1, hb1⟩
      go_wp2
      go_ret2
      exact ⟨_, rfl, New.nil _ _ _, hb1⟩
  · have hb : listB L = false := by simpa using hb
    have hB : clB L = false := by unfold clB; rw [hb]; rfl
    have hL : clL L = [] := by unfold clL; simp [hB]
    rw [hB, hL]
    simp only [hb, Bool.false_eq_true, if_false] at HC
    clear h hl hs hb hB hL HT hm
    go_enter Try.func28, Try.ntmps28
    go_wp2_with fail
    refine HC.out.mono ?_
    rintro e w1 ⟨v1, rfl, hn1, hb1⟩
    go_wp2
    go_ret2
    exact ⟨_, rfl, New.nil _ _ _, hb1⟩

set_option maxRecDepth 100000 in
set_option maxHeartbeats 1000000 in
theorem sCloseRows_any (v : Value) (L : List (List Nat)) (w : World) (h : Txts w v L) (hl : L.length ≤ 2000000) (hs : ∀ l ∈ L, l.length ≤ maxLen) :
    Calls Try.prog 27 #[v] w (TextsAny (clL L) (clB L) w) := by
  have HC := Lib.hid (l6Rows_any v L w h hl hs)
  have HT := Lib.hid h
  unfold TextsAny
  obtain ⟨m, hm⟩ : ∃ m, L.length = m := ⟨_, rfl⟩
  by_cases hb : listB L = true
  · by_cases h0 : 0 < L.length
    · obtain ⟨h3, h8, hf0⟩ := first_row hb h0
      have hrows := rowsB_rows hb
      have hfl : (rF L).length ≤ 1000 := by have := rowsB_len hb; rw [rF_len]; omega
      have hB : clB L = (clR L).isSome := by unfold clB; rw [hb, decide_eq_true h0]; simp
      have hL : clL L = closeT (firstN L) (clR L) := by
        unfold clL
        rw [hB]
        cases hq : clR L <;> simp [closeT]
      rw [hB, hL]
      unfold clR
      have HCL := Lib.hid (fun w h => l6Close_any (firstN L) v (rF L) hrows hf0 hfl w (Txts.rows h hb))
      unfold TextsAny at HCL
      obtain ⟨a, cap, rfl, hcap, ha⟩ := h
      have hmi : ((m : Int) == 0) = false := by rw [beq_eq_false_iff_ne]; omega
      simp only [hb] at HC
      rw [hm] at HC HCL ⊢
      generalize closeT (firstN L) (bfsR (firstN L) (rF L)) = P at *
      generalize (bfsR (firstN L) (rF L)).isSome = pb at *
      have HT : Hid (Txts w (.slice a m cap) L) := by rw [hm] at HT; exact HT
      clear hl hs hb h0 hm hrows hfl hB hL hf0 hcap ha
      go_enter Try.func27, Try.ntmps27
      go_wp2_with fail
      refine HC.out.mono ?_
      rintro e w1 ⟨rfl, hb1⟩
      have HB1 := Lib.hid hb1
      have HT1 := Lib.hid (HT.out.kept hb1)
      clear hb1
      go_wp2_with fail
      refine (HCL.out _ HT1.out).mono ?_
      rintro e w2 ⟨v2, rfl, hn2, hb2⟩
      have HB2 := Lib.hid (HB1.out.trans (hb2.mono HB1.out.size))
      have HN2 := Lib.hid (hn2.lower HB1.out.size)
      clear hb2 hn2
      go_wp2
      go_ret2
      exact ⟨_, rfl, HN2.out, HB2.out⟩
    · have hB : clB L = false := by unfold clB; simp [h0]
      have hL : clL L = [] := by unfold clL; simp [hB]
      rw [hB, hL]
      obtain ⟨a, cap, rfl, hcap, ha⟩ := h
      have hmi : ((m : Int) == 0) = true := by rw [beq_iff_eq]; omega
      simp only [hb] at HC
      rw [hm] at HC ⊢
      clear hl hs hb h0 hm hB hL HT hcap ha
      go_enter Try.func27, Try.ntmps27
      go_wp2_with fail
      refine HC.out.mono ?_
      rintro e w1 ⟨rfl, hb1⟩
      go_wp2
      go_ret2
      exact ⟨_, rfl, New.nil _ _ _, hb1⟩
  · have hb : listB L = false := by simpa using hb
    have hB : clB L = false := by unfold clB; rw [hb]; rfl
    have hL : clL L = [] := by unfold clL; simp [hB]
    rw [hB, hL]
    obtain ⟨a, cap, rfl, hcap, ha⟩ := h
    simp only [hb] at HC
    clear hl hs hb hB hL HT hcap ha hm
    go_enter Try.func27, Try.ntmps27
    go_wp2_with fail
    refine HC.out.mono ?_
    rintro e w1 ⟨rfl, hb1⟩
    go_wp2
    go_ret2
    exact ⟨_, rfl, New.nil _ _ _, hb1⟩

theorem clL_len (L : List (List Nat)) : (clL L).length ≤ 1000 := by
  unfold clL
  split
  · rename_i h
    have hb : listB L = true := by unfold clB at h; simp only [Bool.and_eq_true] at h; exact h.1.1
    have h0 : 0 < L.length := by unfold clB at h; simp only [Bool.and_eq_true, decide_eq_true_eq] at h; exact h.1.2
    obtain ⟨h3, h8, hf0⟩ := first_row hb h0
    cases hq : clR L with
    | none => simp [closeT]
    | some G =>
      have := (sortF_rows_len (rowsB_rows hb) h3 h8 hq).2
      rw [closeT_some, rowsL_len]
      omega
  · simp
theorem bothCloseRows (L : List (List Nat)) (hl : L.length ≤ 2000000) (hsm : ∀ l ∈ L, l.length ≤ maxLen) :
    ∃ P b, P.length ≤ 1000 ∧ (∀ u w, Txts w u L → Calls Try.prog 28 #[u] w (TextsAny P b w)) ∧ (∀ u w, Txts w u L → Calls Try.prog 27 #[u] w (TextsAny P b w)) :=
  ⟨clL L, clB L, clL_len L, fun u w h => iCloseRows_any u L w h hl hsm, fun u w h => sCloseRows_any u L w h hl hsm⟩

set_option maxRecDepth 100000 in
set_option maxHeartbeats 1000000 in
theorem lawCloseRows (v0 : Value) (ss0 : List ByteArray) (W : World) (hA0 : Arg W v0 ss0) (hy0 : ss0.length ≤ maxLen ∧ ∀ s ∈ ss0, s.size ≤ maxLen) :
    Calls Try.prog 7 #[v0] W fun e w' => e = .returned (.bool true) ∧ Below W.heap.size W w' := by
  have hz0 : ∀ w, Arg w v0 ss0 → (0 : Int) ≤ 1048576 → (1048576 : Int) ≤ 1048576 → Calls _ _ _ w _ := fun w h h0 h1 => szStringS_any v0 ss0 w h hy0.1 hy0.2 (1048576) h0 h1
  have hlen0 := szAll_len (ss := ss0) (left := 1048576)
  have hsm0 := letss_small (ss := ss0) (left := 1048576)
  have hle0 := szAll_left (ss := ss0) (left := 1048576)
  generalize hzz0 : szAll ss0 1048576 = z0 at *
  by_cases hneg0 : z0 < 0
  · clear hlen0 hsm0 hle0
    go_enter Try.func7, Try.ntmps7
    go_wp2_with fail
    refine (hz0 _ hA0 (by omega) (by omega)).mono ?_
    rintro e w0 ⟨rfl, rfl⟩
    go_wp2
    go_ret
    exact ⟨rfl, Below.refl _ _⟩
  have hn0 := hlen0 (by omega)
  have hsm0 := hsm0 (by omega) (by omega)
  have hle0 := hle0 (by omega)
  have hss0 : ss0.length ≤ 1048576 := by omega
  have HS0 : Hid (∀ w, Arg w v0 ss0 → Calls Try.prog 16 #[v0] w _) := Lib.hid (fun w h => toStringS_any v0 ss0 w h (by omega))
  have HZ0 := Lib.hid hz0
  have hll0 := letss_len ss0
  generalize letss ss0 = L0 at *
  have hL0 : L0.length ≤ 1048576 := by omega
  have HA0 := Lib.hid hA0
  obtain ⟨P, b, hPL, hI, hM⟩ := bothCloseRows L0 (by omega) hsm0
  have HI := Lib.hid hI
  have HM := Lib.hid hM
  clear hI hM hz0 hlen0 hy0 hll0 hA0 hsm0 
  obtain ⟨q0, hq0⟩ : ∃ n, L0.length = n := ⟨_, rfl⟩
  rw [hq0] at hL0
  have HQ0 := Lib.hid hq0
  clear hq0
  have hqi0 : (q0 : Int) ≤ 1048576 := by omega
  obtain ⟨m, hm⟩ : ∃ m, P.length = m := ⟨_, rfl⟩
  rw [hm] at hPL
  have HMM := Lib.hid hm
  clear hm
  have hmi : (m : Int) ≤ 1000 := by omega
  cases b
  all_goals
    go_enter Try.func7, Try.ntmps7
    go_wp2_with fail
    refine (HZ0.out _ HA0.out (by omega) (by omega)).mono ?_
    rintro e w0 ⟨rfl, rfl⟩
    clear HZ0
    go_wp2_with fail
    refine (HS0.out _ HA0.out).mono ?_
    rintro e w1 ⟨va0, rfl, hn1, hb1⟩
    have B1 := Lib.hid hb1
    have Ta0_1 := Lib.hid hn1
    clear hn1 hb1
    go_wp2_with fail
    refine (HM.out va0 _ Ta0_1.out.own.txts).mono ?_
    rintro e w2 ⟨v2, rfl, hn2, hb2⟩
    have B2 := Lib.hid (B1.out.trans (hb2.mono B1.out.size))
    have Ta0_2 := Lib.hid (Ta0_1.out.kept hb2)
    have R_2 := Lib.hid hn2.own
    clear hn2 hb2 B1 Ta0_1
    clear Ta0_2
    have BB := B2
    clear B2
    have R0 := R_2
    go_wp2_with fail
    refine (HS0.out _ (HA0.out.kept BB.out)).mono ?_
    rintro e w3 ⟨vx0, rfl, hn3, hb3⟩
    have B3 := Lib.hid hb3
    have R_3 := Lib.hid (R_2.out.kept hb3)
    have Tx0_3 := Lib.hid hn3
    clear hn3 hb3 R_2
    have SZX := Lib.hid B3.out.size
    go_wp2_with fail
    refine (HI.out vx0 _ Tx0_3.out.own.txts).mono ?_
    rintro e w4 ⟨v4, rfl, hn4, hb4⟩
    have AP0 : Hid (∀ g, v4.ownBlock = some g → vx0.ownBlock ≠ some g) := Lib.hid (fun g hg h3 => by
      have h1 := hn4.base g hg
      have h2 := Tx0_3.out.own.lt g h3
      omega)
    have SZ4 := Lib.hid hb4.size
    have B4 := Lib.hid (B3.out.trans (hb4.mono B3.out.size))
    have R_4 := Lib.hid (R_3.out.kept hb4)
    have Tx0_4 := Lib.hid (Tx0_3.out.kept hb4)
    have G_4 := Lib.hid hn4
    clear hn4 hb4 B3 R_3 Tx0_3
    go_wp2_with fail
    refine (eqStringS_same v4 v2 P _ G_4.out.own R_4.out (by rw [HMM.out]; omega)).mono ?_
    rintro e w5 ⟨rfl, d5, hd5⟩
    have B5 : Hid (Below w2.heap.size w2 w5) := by rw [hd5]; exact below_drewN B4.out _
    have R_5 := Lib.hid (R_4.out.drewN d5)
    rw [← hd5] at R_5
    have Tx0_5 := Lib.hid (Tx0_4.out.drewN d5)
    rw [← hd5] at Tx0_5
    have G_5 := Lib.hid (G_4.out.drewN d5)
    rw [← hd5] at G_5
    have SZ5 : Hid (w3.heap.size ≤ w5.heap.size) := by rw [hd5]; exact SZ4.out
    clear hd5 SZ4 B4 R_4 Tx0_4 G_4
    go_wp2_with fail
    refine (HS0.out _ (HA0.out.kept (BB.out.trans (B5.out.mono BB.out.size)))).mono ?_
    rintro e w6 ⟨vy0, rfl, hn6, hb6⟩
    have B6 := Lib.hid (B5.out.trans (hb6.mono B5.out.size))
    have R_6 := Lib.hid (R_5.out.kept hb6)
    have Tx0_6 := Lib.hid (Tx0_5.out.kept hb6)
    have G_6 := Lib.hid (G_5.out.kept hb6)
    have Ty_6 := Lib.hid hn6.own
    have SZ6 := Lib.hid (Nat.le_trans SZ5.out hb6.size)
    clear hn6 hb6 B5 SZ5 R_5 Tx0_5 G_5
    go_wp2_with fail
    refine (eqStringS_same vx0 vy0 L0 _ Tx0_6.out.own Ty_6.out (by rw [HQ0.out]; omega)).mono ?_
    rintro e w7 ⟨rfl, d7, hd7⟩
    have B7 : Hid (Below w2.heap.size w2 w7) := by rw [hd7]; exact below_drewN B6.out _
    have R_7 := Lib.hid (R_6.out.drewN d7)
    rw [← hd7] at R_7
    have Tx0_7 := Lib.hid (Tx0_6.out.drewN d7)
    rw [← hd7] at Tx0_7
    have G_7 := Lib.hid (G_6.out.drewN d7)
    rw [← hd7] at G_7
    have Ty_7 := Lib.hid (Ty_6.out.drewN d7)
    rw [← hd7] at Ty_7
    have SZ7 : Hid (w3.heap.size ≤ w7.heap.size) := by rw [hd7]; exact SZ6.out
    clear hd7 SZ6 B6 R_6 Tx0_6 G_6 Ty_6
    clear Ty_7
    go_wp2_with fail
    refine (markStringS_full w2.heap.size vx0 L0 1 _ Tx0_7.out B7.out.size (by rw [HQ0.out]; omega) (by omega) (by omega)).mono ?_
    rintro e w8 ⟨rfl, _, hb8, hk8⟩
    have B8 := Lib.hid (B7.out.trans hb8)
    have R_8 := Lib.hid (R_7.out.under R0.out.lt hb8)
    have G_8 : Hid (New w3.heap.size w8 9 v4 (strs P)) := Lib.hid ⟨G_7.out.own.besides hk8 AP0.out, G_7.out.base⟩
    have SZ8 := Lib.hid (Nat.le_trans SZ7.out hb8.size)
    rw [HQ0.out]
    clear hb8 hk8 B7 SZ7 R_7 G_7 Tx0_7
    have hnn : ¬ ((1 : Int) + (q0 : Nat) < 0) := by omega
    go_wp2_with fail
    refine (eqStringS_same v4 v2 P _ G_8.out.own R_8.out (by rw [HMM.out]; omega)).mono ?_
    rintro e w9 ⟨rfl, d9, hd9⟩
    have B9 : Hid (Below w2.heap.size w2 w9) := by rw [hd9]; exact below_drewN B8.out _
    have R_9 := Lib.hid (R_8.out.drewN d9)
    rw [← hd9] at R_9
    have G_9 := Lib.hid (G_8.out.drewN d9)
    rw [← hd9] at G_9
    have SZ9 : Hid (w3.heap.size ≤ w9.heap.size) := by rw [hd9]; exact SZ8.out
    clear hd9 SZ8 B8 R_8 G_8
    go_wp2_with fail
    refine (markStringS_full w3.heap.size v4 P 1 _ G_9.out SZ9.out (by rw [HMM.out]; omega) (by omega) (by omega)).mono ?_
    rintro e w10 ⟨rfl, hn10, hb10, _⟩
    rw [HMM.out] at hn10
    have B10 := Lib.hid (B9.out.trans (hb10.mono SZX.out))
    have R_10 := Lib.hid (R_9.out.under (fun g hg => Nat.lt_of_lt_of_le (R0.out.lt g hg) SZX.out) hb10)
    have G_10 := Lib.hid hn10
    rw [HMM.out]
    clear hn10 hb10 B9 R_9 G_9
    go_wp2_with fail
    refine (heldStringS_any v4 m 1 _ G_10.out.own (by omega) (by omega) (by omega)).mono ?_
    rintro e w11 ⟨rfl, hb11⟩
    have B11 := Lib.hid (B10.out.trans (hb11.mono B10.out.size))
    have R_11 := Lib.hid (R_10.out.kept hb11)
    have G_11 := Lib.hid (G_10.out.kept hb11)
    clear hb11 B10 R_10 G_10
    have hmm : ¬ ((1 : Int) + (m : Nat) < 0) := by omega
    go_wp2_with fail
    refine (HS0.out _ (HA0.out.kept (BB.out.trans (B11.out.mono BB.out.size)))).mono ?_
    rintro e w12 ⟨vh0, rfl, hn12, hb12⟩
    have B12 := Lib.hid (B11.out.trans (hb12.mono B11.out.size))
    have R_12 := Lib.hid (R_11.out.kept hb12)
    have G_12 := Lib.hid (G_11.out.kept hb12)
    have Th0_12 := Lib.hid hn12
    clear hn12 hb12 B11 R_11 G_11
    go_wp2_with fail
    refine (HI.out vh0 _ Th0_12.out.own.txts).mono ?_
    rintro e w13 ⟨v13, rfl, hn13, hb13⟩
    have B13 := Lib.hid (B12.out.trans (hb13.mono B12.out.size))
    have R_13 := Lib.hid (R_12.out.kept hb13)
    have G_13 := Lib.hid (G_12.out.kept hb13)
    have Th0_13 := Lib.hid (Th0_12.out.kept hb13)
    have H_13 := Lib.hid hn13.own
    clear hn13 hb13 B12 R_12 G_12 Th0_12
    clear Th0_13
    go_wp2_with fail
    refine (eqStringS_same v13 v2 P _ H_13.out R_13.out (by rw [HMM.out]; omega)).mono ?_
    rintro e w14 ⟨rfl, d14, hd14⟩
    have B14 : Hid (Below w2.heap.size w2 w14) := by rw [hd14]; exact below_drewN B13.out _
    have G_14 : Hid (New w3.heap.size w14 9 v4 (strs (smarks 1 m))) := by rw [hd14]; exact G_13.out.drewN _
    clear hd14 B13 R_13 G_13 H_13
    go_wp2_with fail
    refine (heldStringS_any v4 m 1 _ G_14.out.own (by omega) (by omega) (by omega)).mono ?_
    rintro e w15 ⟨rfl, hb15⟩
    have B15 := Lib.hid (B14.out.trans (hb15.mono B14.out.size))
    have G_15 := Lib.hid (G_14.out.kept hb15)
    clear hb15 B14 G_14
    go_wp2
    go_ret
    exact ⟨rfl, BB.out.trans (B15.out.mono BB.out.size)⟩
end Go.Proofs.Ytapcfojnljnoaaa
