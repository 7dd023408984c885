/- IsGroup. -/
import Derived.Test.YtapcfojnljnoaaaSX
namespace Go.Proofs.Ytapcfojnljnoaaa
open Go.RowKit
set_option linter.unusedSimpArgs false
set_option linter.unusedVariables false

/-- an operation whose guard lets it run is walked as if it had none -/
theorem wpList_unguard6 {P : Program} {ops : Array Oper} {Q : Exit → Act → World → Prop} {a : Act} {w : World} {rest : List Oper} {o : Oper} (hw : Region.wanted o (yielded ops a.tmps) = true)
    (h : wpList P ops Q ({o with guard := none} :: rest) a w) : wpList P ops Q (o :: rest) a w := by
  unfold wpList at h ⊢
  rw [if_pos hw]
  rw [if_pos (show Region.wanted {o with guard := none} (yielded ops a.tmps) = true by simp [Region.wanted])] at h
  exact h
noncomputable def riseB (L : List (List Nat)) : Bool := incB L && listB L
noncomputable def isG (L : List (List Nat)) : Bool := riseB L && (decide (0 < L.length) && grpB (firstN L) (rF L))
theorem allA_iff {n : Nat} {fs : List (Nat → Nat)} : allA n fs = true ↔ ∀ a ∈ fs, ∀ b ∈ fs, mulR n a b ∈ fs := by
  unfold allA rowA
  simp only [List.all_eq_true, inB_iff]
theorem grpB_iff {n : Nat} {fs : List (Nat → Nat)} : grpB n fs = true ↔ IsGrp n fs := by simp [grpB]
/-- the model's test -/
theorem grpB_model {n : Nat} {fs : List (Nat → Nat)} (hr : Rows n fs) (hi : Rise n fs) (h0 : 0 < fs.length) : (fs[0] = rdf n → grpB n fs = allA n fs) ∧ (fs[0] ≠ rdf n → grpB n fs = false) := by
  constructor
  · intro e
    have hm := (first_rounds hr hi h0).1 e
    rw [Bool.eq_iff_iff, grpB_iff, allA_iff]
    exact ⟨fun h => h.2, fun h => ⟨hm, h⟩⟩
  · intro e
    cases hb : grpB n fs with
    | false => rfl
    | true => exact absurd ((first_rounds hr hi h0).2 (grpB_iff.1 hb).1) e
/-- the program's -/
theorem grpB_prog {n : Nat} (h3 : 3 ≤ n) (h8 : n ≤ 8) {fs : List (Nat → Nat)} (hr : Rows n fs) (hi : Rise n fs) (hl : fs.length ≤ 800) :
    (grpR n fs = none → grpB n fs = false) ∧ ∀ G, grpR n fs = some G → grpB n fs = ((G.length : Int) == (fs.length : Int)) ∧ G.length ≤ 800 := by
  have hiff := grp_iff h3 h8 hr hi.nodup hl
  constructor
  · intro e
    cases hb : grpB n fs with
    | false => rfl
    | true =>
      obtain ⟨G, hG, _⟩ := hiff.1 (grpB_iff.1 hb)
      rw [e] at hG
      cases hG
  · intro G e
    have hs := grpR_spec h3 h8 hr
    rw [e] at hs
    refine ⟨?_, hs.len⟩
    rw [Bool.eq_iff_iff, grpB_iff, hiff, e]
    simp only [Option.some.injEq, exists_eq_left', beq_iff_eq]
    omega

set_option maxRecDepth 100000 in
set_option maxHeartbeats 1000000 in
theorem iIsGroup_any (v : Value) (L : List (List Nat)) (w : World) (h : Txts w v L) (hl : L.length ≤ 2000000) (hs : ∀ l ∈ L, l.length ≤ maxLen) :
    Calls Try.prog 30 #[v] w fun e w' => e = .returned (.tuple #[.bool (isG L), .bool (riseB L)]) ∧ Below w.heap.size w w' := by
  have HC := Lib.hid (rowListOf_any v L w h hl hs)
  have HI := Lib.hid (fun w h => isIncreasing_any v L w h hl)
  have HT := Lib.hid h
  unfold ListOut6 at HC
  obtain ⟨m, hm⟩ : ∃ m, L.length = m := ⟨_, rfl⟩
  obtain ⟨a, cap, rfl, hcap, ha⟩ := id h
  clear ha hcap
  by_cases hb : listB L = true
  · by_cases hi : incB L = true
    · have hR : riseB L = true := by unfold riseB; rw [hb, hi]; rfl
      by_cases h0 : 0 < L.length
      · obtain ⟨h3, h8, hf0⟩ := first_row hb h0
        have hrows := rowsB_rows hb
        have hrise := rise_of hb hi
        have hf8 : (rF L).length ≤ 800 := by have := rowsB_len hb; rw [rF_len]; omega
        have hpr := grpB_prog h3 h8 hrows hrise hf8
        have hG : isG L = grpB (firstN L) (rF L) := by unfold isG; rw [hR, decide_eq_true h0]; simp
        rw [hG, hR]
        obtain ⟨g, off, s0, rfl, hgl, c0, hs0⟩ := txts_first h h0
        have hmi : ((m : Int) == 0) = false := by rw [beq_eq_false_iff_ne]; omega
        have hmp : (0 : Int) < m := by omega
        simp only [hb, hi, if_true] at HC HI
        have hfm : (rF L).length = m := by rw [rF_len]; exact hm
        rw [hm] at HC HT HI ⊢
        have HGF := Lib.hid (fun v w h => groupFrom_any (firstN L) h3 h8 v (rF L) hrows (by omega) w h)
        rw [hfm] at hpr
        generalize firstN L = n at *
        generalize rF L = fs at *
        generalize grpR n fs = gr at *
        generalize grpB n fs = gb at *
        have HPR := Lib.hid hpr
        clear h hl hs hb h0 hm hrows hG hR hf0 hpr hrise hf8 hfm hi
        go_enter Try.func30, Try.ntmps30
        go_wp2_with fail
        refine HC.out.mono ?_
        rintro e w1 ⟨v1, rfl, hn1, hb1⟩
        have HB1 := Lib.hid hb1
        have HN1 := Lib.hid hn1
        have HT1 := Lib.hid (HT.out.kept hb1)
        have c1 := (hb1.cell (p := ⟨g, off, none⟩) hgl).trans c0
        clear hb1 hn1 c0
        go_wp2_with fail
        refine (HI.out _ HT1.out).mono ?_
        rintro e w2 ⟨rfl, hb2⟩
        have HB2 := Lib.hid (HB1.out.trans (hb2.mono HB1.out.size))
        have HN2 := Lib.hid (HN1.out.kept hb2)
        have c2 := (hb2.cell (p := ⟨g, off, none⟩) (Nat.lt_of_lt_of_le hgl HB1.out.size)).trans c1
        clear hb2 c1 HN1 HT1 HB1
        go_wp2_with fail
        refine (HGF.out _ _ HN2.out.digs).mono ?_
        intro e w3 hset
        unfold SetAny at hset
        cases gr with
        | none =>
          obtain ⟨rfl, hb3⟩ := hset
          obtain rfl : gb = false := HPR.out.1 rfl
          have HB3 := Lib.hid (HB2.out.trans (hb3.mono HB2.out.size))
          clear hb3 HPR
          go_wp2
          go_ret2
          exact ⟨rfl, HB3.out⟩
        | some G =>
          obtain ⟨b, rfl, hbs, hs3, hb3⟩ := hset
          obtain ⟨rfl, hGl⟩ := HPR.out.2 G rfl
          have HB3 := Lib.hid (HB2.out.trans (hb3.mono HB2.out.size))
          have HS3 := Lib.hid hs3
          clear hb3 HPR hs3 hbs
          go_wp2_with (first | (at_len; refine wpList_unguard6 rfl ?_; refine wpList_len_rows rfl _ rfl n b G HS3.out rfl ?_) | fail)
          go_ret2
          exact ⟨rfl, HB3.out⟩
      · have hG : isG L = false := by unfold isG; simp [h0]
        rw [hG, hR]
        have hmi : ((m : Int) == 0) = true := by rw [beq_iff_eq]; omega
        simp only [hb, hi, if_true] at HC HI
        rw [hm] at HC HT HI ⊢
        generalize rF L = fs at *
        clear h hl hs hb h0 hm hG hR hi
        go_enter Try.func30, Try.ntmps30
        go_wp2_with fail
        refine HC.out.mono ?_
        rintro e w1 ⟨v1, rfl, hn1, hb1⟩
        have HB1 := Lib.hid hb1
        have HT1 := Lib.hid (HT.out.kept hb1)
        clear hb1 hn1
        go_wp2_with fail
        refine (HI.out _ HT1.out).mono ?_
        rintro e w2 ⟨rfl, hb2⟩
        have HB2 := Lib.hid (HB1.out.trans (hb2.mono HB1.out.size))
        clear hb2
        go_wp2
        go_ret2
        exact ⟨rfl, HB2.out⟩
    · have hi : incB L = false := by simpa using hi
      have hR : riseB L = false := by unfold riseB; rw [hi]; rfl
      have hG : isG L = false := by unfold isG; rw [hR]; rfl
      rw [hG, hR]
      simp only [hb, hi, if_true] at HC HI
      clear h hl hs hb hG hR hi hm
      go_enter Try.func30, Try.ntmps30
      go_wp2_with fail
      refine HC.out.mono ?_
      rintro e w1 ⟨v1, rfl, hn1, hb1⟩
      have HB1 := Lib.hid hb1
      have HT1 := Lib.hid (HT.out.kept hb1)
      clear hb1 hn1
      go_wp2_with fail
      refine (HI.out _ HT1.out).mono ?_
      rintro e w2 ⟨rfl, hb2⟩
      have HB2 := Lib.hid (HB1.out.trans (hb2.mono HB1.out.size))
      clear hb2
      go_wp2
      go_ret2
      exact ⟨rfl, HB2.out⟩
  · have hb : listB L = false := by simpa using hb
    have hR : riseB L = false := by unfold riseB; rw [hb, Bool.and_false]
    have hG : isG L = false := by unfold isG; rw [hR]; rfl
    rw [hG, hR]
    simp only [hb, Bool.false_eq_true, if_false] at HC
    clear h hl hs hb hG hR HT hm HI
    go_enter Try.func30, Try.ntmps30
    go_wp2_with fail
    refine HC.out.mono ?_
    rintro e w1 ⟨v1, rfl, hn1, hb1⟩
    go_wp2
    go_ret2
    exact ⟨rfl, hb1⟩

/-- the model's test on a list that rises -/
theorem l6Group_rise (v : Value) (L : List (List Nat)) (hr : riseB L = true) (w : World) (h : Txts w v L) :
    Calls Try.prog 68 #[v] w fun e w' => e = .returned (.bool (isG L)) ∧ Below w.heap.size w w' := by
  have hb : listB L = true := by unfold riseB at hr; simp only [Bool.and_eq_true] at hr; exact hr.2
  have hi : incB L = true := by unfold riseB at hr; simp only [Bool.and_eq_true] at hr; exact hr.1
  by_cases h0 : 0 < L.length
  · obtain ⟨h3, h8, hf0⟩ := first_row hb h0
    have hrows := rowsB_rows hb
    have hmd := grpB_model hrows (rise_of hb hi) hf0
    have hG : isG L = grpB (firstN L) (rF L) := by unfold isG; rw [hr, decide_eq_true h0]; simp
    have hfl : (rF L).length ≤ 1000 := by have := rowsB_len hb; rw [rF_len]; omega
    rw [hG]
    by_cases e : (rF L)[0] = rdf (firstN L)
    · rw [hmd.1 e]
      exact l6Group_yes (firstN L) v (rF L) hrows hf0 hfl e w (Txts.rows h hb)
    · rw [hmd.2 e]
      exact l6Group_off (firstN L) v (rF L) hrows hf0 hfl e w (Txts.rows h hb)
  · have hG : isG L = false := by unfold isG; simp [h0]
    have hL : L = [] := List.eq_nil_of_length_eq_zero (by omega)
    rw [hG]
    subst hL
    exact l6Group_none v w h

set_option maxRecDepth 100000 in
set_option maxHeartbeats 1000000 in
theorem sIsGroup_any (v : Value) (L : List (List Nat)) (w : World) (h : Txts w v L) (hl : L.length ≤ 2000000) (hs : ∀ l ∈ L, l.length ≤ maxLen) :
    Calls Try.prog 29 #[v] w fun e w' => e = .returned (.tuple #[.bool (isG L), .bool (riseB L)]) ∧ Below w.heap.size w w' := by
  have hC := l6Rising_any v L w h hl hs
  have hC : Calls Try.prog 67 #[v] w fun e w' => e = .returned (.bool (riseB L)) ∧ Below w.heap.size w w' := hC
  have HC := Lib.hid hC
  have HT := Lib.hid h
  by_cases hr : riseB L = true
  · have HG := Lib.hid (fun w h => l6Group_rise v L hr w h)
    rw [hr] at HC ⊢
    generalize isG L = g at *
    clear h hl hs hr hC
    go_enter Try.func29, Try.ntmps29
    go_wp2_with fail
    refine HC.out.mono ?_
    rintro e w1 ⟨rfl, hb1⟩
    have HB1 := Lib.hid hb1
    have HT1 := Lib.hid (HT.out.kept hb1)
    clear hb1
    go_wp2_with fail
    refine (HG.out _ HT1.out).mono ?_
    rintro e w2 ⟨rfl, hb2⟩
    have HB2 := Lib.hid (HB1.out.trans (hb2.mono HB1.out.size))
    clear hb2
    go_wp2
    go_ret2
    exact ⟨rfl, HB2.out⟩
  · have hr : riseB L = false := by simpa using hr
    have hG : isG L = false := by unfold isG; rw [hr]; rfl
    rw [hG, hr]
    rw [hr] at HC
    clear h hl hs hr hC hG HT
    go_enter Try.func29, Try.ntmps29
    go_wp2_with fail
    refine HC.out.mono ?_
    rintro e w1 ⟨rfl, hb1⟩
    go_wp2
    go_ret2
    exact ⟨rfl, hb1⟩

theorem bothIsGroup (L : List (List Nat)) (hl : L.length ≤ 2000000) (hsm : ∀ l ∈ L, l.length ≤ maxLen) :
    ∃ b1 b, (∀ u w, Txts w u L → Calls Try.prog 30 #[u] w fun e w' => e = .returned (.tuple #[.bool b1, .bool b]) ∧ Below w.heap.size w w') ∧ (∀ u w, Txts w u L → Calls Try.prog 29 #[u] w fun e w' => e = .returned (.tuple #[.bool b1, .bool b]) ∧ Below w.heap.size w w') :=
  ⟨isG L, riseB L, fun u w h => iIsGroup_any u L w h hl hsm, fun u w h => sIsGroup_any u L w h hl hsm⟩

set_option maxRecDepth 100000 in
set_option maxHeartbeats 1000000 in
theorem lawIsGroup (v0 : Value) (ss0 : List ByteArray) (W : World) (hA0 : Arg W v0 ss0) (hy0 : ss0.length ≤ maxLen ∧ ∀ s ∈ ss0, s.size ≤ maxLen) :
    Calls Try.prog 8 #[v0] W fun e w' => e = .returned (.bool true) ∧ Below W.heap.size W w' := by
  have hz0 : ∀ w, Arg w v0 ss0 → (0 : Int) ≤ 1048576 → (1048576 : Int) ≤ 1048576 → Calls _ _ _ w _ := fun w h h0 h1 => szStringS_any v0 ss0 w h hy0.1 hy0.2 (1048576) h0 h1
  have hlen0 := szAll_len (ss := ss0) (left := 1048576)
  have hsm0 := letss_small (ss := ss0) (left := 1048576)
  have hle0 := szAll_left (ss := ss0) (left := 1048576)
  generalize hzz0 : szAll ss0 1048576 = z0 at *
  by_cases hneg0 : z0 < 0
  · clear hlen0 hsm0 hle0
    go_enter Try.func8, Try.ntmps8
    go_wp2_with fail
    refine (hz0 _ hA0 (by omega) (by omega)).mono ?_
    rintro e w0 ⟨rfl, rfl⟩
    go_wp2
    go_ret
    exact ⟨rfl, Below.refl _ _⟩
  have hn0 := hlen0 (by omega)
  have hsm0 := hsm0 (by omega) (by omega)
  have hle0 := hle0 (by omega)
  have hss0 : ss0.length ≤ 1048576 := by omega
  have HS0 : Hid (∀ w, Arg w v0 ss0 → Calls Try.prog 16 #[v0] w _) := Lib.hid (fun w h => toStringS_any v0 ss0 w h (by omega))
  have HZ0 := Lib.hid hz0
  have hll0 := letss_len ss0
  generalize letss ss0 = L0 at *
  have hL0 : L0.length ≤ 1048576 := by omega
  have HA0 := Lib.hid hA0
  obtain ⟨b1, b, hI, hM⟩ := bothIsGroup L0 (by omega) hsm0
  have HI := Lib.hid hI
  have HM := Lib.hid hM
  clear hI hM hz0 hlen0 hy0 hll0 hA0 hsm0 
  obtain ⟨q0, hq0⟩ : ∃ n, L0.length = n := ⟨_, rfl⟩
  rw [hq0] at hL0
  have HQ0 := Lib.hid hq0
  clear hq0
  have hqi0 : (q0 : Int) ≤ 1048576 := by omega
  cases b1
  all_goals cases b
  all_goals
    go_enter Try.func8, Try.ntmps8
    go_wp2_with fail
    refine (HZ0.out _ HA0.out (by omega) (by omega)).mono ?_
    rintro e w0 ⟨rfl, rfl⟩
    clear HZ0
    go_wp2_with fail
    refine (HS0.out _ HA0.out).mono ?_
    rintro e w1 ⟨va0, rfl, hn1, hb1⟩
    have B1 := Lib.hid hb1
    have Ta0_1 := Lib.hid hn1
    clear hn1 hb1
    go_wp2_with fail
    refine (HM.out va0 _ Ta0_1.out.own.txts).mono ?_
    rintro e w2 ⟨rfl, hb2⟩
    have B2 := Lib.hid (B1.out.trans (hb2.mono B1.out.size))
    have Ta0_2 := Lib.hid (Ta0_1.out.kept hb2)
    clear hb2 B1 Ta0_1
    clear Ta0_2
    have BB := B2
    clear B2
    go_wp2_with fail
    refine (HS0.out _ (HA0.out.kept BB.out)).mono ?_
    rintro e w3 ⟨vx0, rfl, hn3, hb3⟩
    have B3 := Lib.hid hb3
    have Tx0_3 := Lib.hid hn3
    clear hn3 hb3
    go_wp2_with fail
    refine (HI.out vx0 _ Tx0_3.out.own.txts).mono ?_
    rintro e w4 ⟨rfl, hb4⟩
    have B4 := Lib.hid (B3.out.trans (hb4.mono B3.out.size))
    have Tx0_4 := Lib.hid (Tx0_3.out.kept hb4)
    clear hb4 B3 Tx0_3
    go_wp2_with fail
    refine (HS0.out _ (HA0.out.kept (BB.out.trans (B4.out.mono BB.out.size)))).mono ?_
    rintro e w5 ⟨vy0, rfl, hn5, hb5⟩
    have B5 := Lib.hid (B4.out.trans (hb5.mono B4.out.size))
    have Tx0_5 := Lib.hid (Tx0_4.out.kept hb5)
    have Ty_5 := Lib.hid hn5.own
    clear hn5 hb5 B4 Tx0_4
    go_wp2_with fail
    refine (eqStringS_same vx0 vy0 L0 _ Tx0_5.out.own Ty_5.out (by rw [HQ0.out]; omega)).mono ?_
    rintro e w6 ⟨rfl, d6, hd6⟩
    have B6 : Hid (Below w2.heap.size w2 w6) := by rw [hd6]; exact below_drewN B5.out _
    clear hd6 B5
    go_wp2
    go_ret
    exact ⟨rfl, BB.out.trans (B6.out.mono BB.out.size)⟩
end Go.Proofs.Ytapcfojnljnoaaa
