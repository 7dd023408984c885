/- CloseRows. -/
import Derived.Test.YtapcfojnljnoaaaGreatST
import Derived.Test.YtapcfojnljnoaaaGreatSI
namespace Go.Proofs.YtapcfojnljnoaaaGreat
open Go.RowKit
set_option linter.unusedSimpArgs false
set_option linter.unusedVariables false

noncomputable def clR (L : List (List Nat)) : Option (List (Nat → Nat)) := bfsR (firstN L) (rF L)
noncomputable def clB (L : List (List Nat)) : Bool := (listB L && decide (0 < L.length)) && (clR L).isSome
noncomputable def clL (L : List (List Nat)) : List (List Nat) := if clB L = true then closeT (firstN L) (clR L) else []
theorem first_row {L : List (List Nat)} (hb : listB L = true) (h0 : 0 < L.length) : 3 ≤ firstN L ∧ firstN L ≤ 8 ∧ 0 < (rF L).length := by
  have hr := rowsB_rows hb
  have h1 : 0 < (rF L).length := by rw [rF_len]; exact h0
  have := hr _ (List.getElem_mem h1)
  exact ⟨this.three, this.eight, h1⟩
theorem txts_first {W : World} {a : Option Addr} {m cap : Nat} {L : List (List Nat)} (h : Txts W (.slice a m cap) L) (h0 : 0 < L.length) : ∃ g off s, a = some ⟨g, off, none⟩ ∧ g < W.heap.size ∧ W.cell? ⟨g, off, none⟩ = some (.string s) ∧ s.size = firstN L := by
  obtain ⟨a', cap', e, _, ha⟩ := h
  injection e with e1 e2 e3
  subst e1
  obtain ⟨g, off, e, hg, hc⟩ := ha h0
  have := hc 0 h0
  rw [Nat.add_zero] at this
  exact ⟨g, off, _, e, hg, this, txt_size _⟩
theorem sortF_rows_len {n : Nat} {gens G : List (Nat → Nat)} (hg : Rows n gens) (h3 : 3 ≤ n) (h8 : n ≤ 8) (e : bfsR n gens = some G) : Rows n (sortF n G) ∧ (sortF n G).length ≤ 800 := by
  have := bfsR_spec hg
  rw [e] at this
  exact ⟨rows_sort (this.rows h3 h8 hg), by rw [sortF_len]; exact this.len⟩

set_option maxRecDepth 100000 in
set_option maxHeartbeats 1000000 in
theorem iCloseRows_any (v : Value) (L : List (List Nat)) (w : World) (h : Txts w v L) (hl : L.length ≤ 2000000) (hs : ∀ l ∈ L, l.length ≤ maxLen) :
    Calls Tryz.prog 10 #[v] w (TextsAny (clL L) (clB L) w) := by
  have HC := Lib.hid (rowListOf_any v L w h hl hs)
  have HT := Lib.hid h
  unfold ListOut6 at HC
  unfold TextsAny
  obtain ⟨m, hm⟩ : ∃ m, L.length = m := ⟨_, rfl⟩
  obtain ⟨a, cap, rfl, hcap, ha⟩ := id h
  clear ha hcap
  by_cases hb : listB L = true
  · by_cases h0 : 0 < L.length
    · obtain ⟨h3, h8, hf0⟩ := first_row hb h0
      have hrows := rowsB_rows hb
      have hfl : (rF L).length ≤ 1000 := by have := rowsB_len hb; rw [rF_len]; omega
      have hsame := grp_same h3 h8 hrows
      have hB : clB L = (clR L).isSome := by unfold clB; rw [hb, decide_eq_true h0]; simp
      have hL : clL L = closeT (firstN L) (clR L) := by
        unfold clL
        rw [hB]
        cases hq : clR L <;> simp [closeT]
      rw [hB, hL]
      unfold clR
      obtain ⟨g, off, s0, rfl, hgl, c0, hs0⟩ := txts_first h h0
      have hmi : ((m : Int) == 0) = false := by rw [beq_eq_false_iff_ne]; omega
      have hmp : (0 : Int) < m := by omega
      simp only [hb, if_true] at HC
      rw [hm] at HC HT ⊢
      have HGF := Lib.hid (fun v w h => groupFrom_any (firstN L) h3 h8 v (rF L) hrows hfl w h)
      have hlen : ∀ G, bfsR (firstN L) (rF L) = some G → Rows (firstN L) (sortF (firstN L) G) ∧ (sortF (firstN L) G).length ≤ 800 := fun G e => sortF_rows_len hrows h3 h8 e
      generalize firstN L = n at *
      generalize rF L = fs at *
      generalize grpR n fs = gr at *
      generalize bfsR n fs = br at *
      have hP0 : br = none → closeT n br = [] := fun e => by rw [e]; rfl
      have hP1 : ∀ G', br = some G' → closeT n br = rowsL n (sortF n G') := fun G' e => by rw [e]; rfl
      generalize closeT n br = P at *
      have HP0 := Lib.hid hP0
      have HP1 := Lib.hid hP1
      generalize hpb : br.isSome = pb at *
      have HPB := Lib.hid hpb
      have HLEN := Lib.hid hlen
      have HSAME := Lib.hid hsame
      clear h hl hs hb h0 hm hrows hfl hsame hB hL hf0 hlen hP0 hP1 hpb
      go_enter Tryz.func10, Tryz.ntmps10
      go_wp2_with fail
      refine HC.out.mono ?_
      rintro e w1 ⟨v1, rfl, hn1, hb1⟩
      have HB1 := Lib.hid hb1
      have HN1 := Lib.hid hn1
      have c1 := (hb1.cell (p := ⟨g, off, none⟩) hgl).trans c0
      clear hb1 hn1 c0
      go_wp2_with fail
      refine (HGF.out _ _ HN1.out.digs).mono ?_
      intro e w2 hset
      unfold SetAny at hset
      cases gr with
      | none =>
        obtain ⟨rfl, hb2⟩ := hset
        have hbr : br = none := by
          have := HSAME.out
          cases br with
          | none => rfl
          | some G => cases this
        subst hbr
        obtain rfl : P = [] := HP0.out rfl
        obtain rfl : false = pb := HPB.out
        have HB2 := Lib.hid (HB1.out.trans (hb2.mono HB1.out.size))
        clear hb2 HSAME HLEN HP0 HP1
        go_wp2
        go_ret2
        exact ⟨_, rfl, New.nil _ _ _, HB2.out⟩
      | some G =>
        obtain ⟨b, rfl, hbs, hs2, hb2⟩ := hset
        obtain ⟨G', rfl, hss⟩ : ∃ G', br = some G' ∧ sortF n G = sortF n G' := by
          have := HSAME.out
          cases br with
          | none => cases this
          | some G' => exact ⟨G', rfl, Option.some.inj this⟩
        have hsl := HLEN.out G' rfl
        rw [← hss] at hsl
        have hGl : G.length ≤ 1000 := by have := hsl.2; rw [sortF_len] at this; omega
        have hP := HP1.out G' rfl
        rw [← hss] at hP
        subst hP
        obtain rfl : true = pb := HPB.out
        have HSD := Lib.hid (sorted_any n b G hGl w2 hs2)
        have HB2 := Lib.hid (HB1.out.trans (hb2.mono HB1.out.size))
        clear hb2 HSAME HLEN hss hs2 hbs HP0 HP1 HPB
        have HRL := Lib.hid hsl
        unfold SortedOut at HSD
        clear hsl
        go_wp2_with fail
        refine HSD.out.mono ?_
        rintro e w3 ⟨v3, rfl, hn3, hb3⟩
        have HB3 := Lib.hid (HB2.out.trans (hb3.mono HB2.out.size))
        have HRT := Lib.hid (rowTexts_any n v3 (sortF n G) HRL.out.1 (by have := HRL.out.2; omega) w3 hn3.digs)
        unfold TextsOut at HRT
        clear hb3 hn3
        go_wp2_with fail
        refine HRT.out.mono ?_
        rintro e w4 ⟨v4, rfl, hn4, hb4⟩
        have HB4 := Lib.hid (HB3.out.trans (hb4.mono HB3.out.size))
        have HN4 := Lib.hid (hn4.lower HB3.out.size)
        obtain ⟨ua, uc, rfl, -⟩ := hn4.own.view
        clear hb4 hn4
        go_wp2
        go_ret2
        exact ⟨_, rfl, HN4.out, HB4.out⟩
    · have hB : clB L = false := by unfold clB; simp [h0]
      have hL : clL L = [] := by unfold clL; simp [hB]
      rw [hB, hL]
      have hmi : ((m : Int) == 0) = true := by rw [beq_iff_eq]; omega
      simp only [hb, if_true] at HC
      rw [hm] at HC ⊢
      generalize rF L = fs at *
      clear h hl hs hb h0 hm hB hL HT
      go_enter Tryz.func10, Tryz.ntmps10
      go_wp2_with fail
      refine HC.out.mono ?_
      rintro e w1 ⟨v1, rfl, hn1, hb1⟩
      go_wp2
      go_ret2
      exact ⟨_, rfl, New.nil _ _ _, hb1⟩
  · have hb : listB L = false := by simpa using hb
    have hB : clB L = false := by unfold clB; rw [hb]; rfl
    have hL : clL L = [] := by unfold clL; simp [hB]
    rw [hB, hL]
    simp only [hb, Bool.false_eq_true, if_false] at HC
    clear h hl hs hb hB hL HT hm
    go_enter Tryz.func10, Tryz.ntmps10
    go_wp2_with fail
    refine HC.out.mono ?_
    rintro e w1 ⟨v1, rfl, hn1, hb1⟩
    go_wp2
    go_ret2
    exact ⟨_, rfl, New.nil _ _ _, hb1⟩

theorem clL_len (L : List (List Nat)) : (clL L).length ≤ 1000 := by
  unfold clL
  split
  · rename_i h
    have hb : listB L = true := by unfold clB at h; simp only [Bool.and_eq_true] at h; exact h.1.1
    have h0 : 0 < L.length := by unfold clB at h; simp only [Bool.and_eq_true, decide_eq_true_eq] at h; exact h.1.2
    obtain ⟨h3, h8, hf0⟩ := first_row hb h0
    cases hq : clR L with
    | none => simp [closeT]
    | some G =>
      have := (sortF_rows_len (rowsB_rows hb) h3 h8 hq).2
      rw [closeT_some, rowsL_len]
      omega
  · simp
end Go.Proofs.YtapcfojnljnoaaaGreat
