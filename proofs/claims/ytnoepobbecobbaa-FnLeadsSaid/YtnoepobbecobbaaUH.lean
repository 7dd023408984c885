/- The changes from row to row of a list, in the program and in the model. -/
import Derived.Test.YtnoepobbecobbaaUE
import Derived.Test.YtnoepobbecobbaaSC
import Derived.Test.YtnoepobbecobbaaSF
import Derived.BigQuiet
namespace Go.Proofs.Ytnoepobbecobbaa
open Go.RowKit
set_option linter.unusedSimpArgs false
set_option linter.unusedVariables false

/-- round the list by changes -/
noncomputable def rndB (n : Nat) (fs : List (Nat → Nat)) : Bool := decide (0 < fs.length) && nxB n fs fs.length
noncomputable def rndL (n : Nat) (fs : List (Nat → Nat)) : List (List Nat) := if rndB n fs = true then nxL n fs fs.length else []
theorem rnd_two {n : Nat} {fs : List (Nat → Nat)} (hr : Rows n fs) (h : fs.length < 2) : rndB n fs = false := by
  match fs, hr, h with
  | [], _, _ => rfl
  | [f], hr, _ =>
    have hf := hr f (by simp)
    have h2 : quoR n f f = rdf n := by unfold quoR; exact inv_mul hf
    have h3 : chText n (quoR n f f) = none := by
      unfold chText
      rw [if_pos (by rw [h2])]
    have h1 : nxt n [f] 0 = none := by
      unfold nxt
      simpa using h3
    unfold rndB
    rw [nxB_no h1 [f].length (by simp)]
    simp
theorem rnd_no {n : Nat} {fs : List (Nat → Nat)} {k : Nat} (hk : k < fs.length) (h : nxt n fs k = none) : rndB n fs = false := by
  unfold rndB
  rw [nxB_no h _ hk]
  simp
theorem rnd_yes {n : Nat} {fs : List (Nat → Nat)} (h0 : 0 < fs.length) (h : nxB n fs fs.length = true) : rndB n fs = true := by
  unfold rndB
  rw [h, decide_eq_true h0]
  rfl
theorem nxt_at {n : Nat} {fs : List (Nat → Nat)} {j k : Nat} (hj : j < fs.length) (hk : k < fs.length) (e : (j + 1) % fs.length = k) : nxt n fs j = chText n (quoR n fs[j] fs[k]) := by
  unfold nxt
  rw [e, List.getD_eq_getElem?_getD, List.getD_eq_getElem?_getD, List.getElem?_eq_getElem hj, List.getElem?_eq_getElem hk]
  rfl
theorem nxB_succ {n : Nat} {fs : List (Nat → Nat)} {j : Nat} {l : List Nat} (h : nxB n fs j = true) (e : nxt n fs j = some l) : nxB n fs (j + 1) = true ∧ nxL n fs (j + 1) = nxL n fs j ++ [l] := by
  constructor
  · show (nxB n fs j && (nxt n fs j).isSome) = true
    rw [h, e]
    rfl
  · show nxL n fs j ++ [(nxt n fs j).getD []] = _
    rw [e]
    rfl

set_option maxRecDepth 100000 in
set_option maxHeartbeats 1000000 in
theorem l7Changes_any (n : Nat) (v : Value) (fs : List (Nat → Nat)) (hr : Rows n fs) (hl : fs.length ≤ 1000) (w : World) (h : Txts w v (rowsL n fs)) :
    Calls Try.prog 73 #[v] w (TextsAny (rndL n fs) (rndB n fs) w) := by
  unfold TextsAny
  obtain ⟨m, hm⟩ : ∃ m, fs.length = m := ⟨_, rfl⟩
  obtain ⟨a, cap, rfl, hcap, ha⟩ := h
  have HA : Hid (0 < m → ∃ g off, a = some ⟨g, off, none⟩ ∧ g < w.heap.size ∧ ∀ j (hj : j < fs.length), w.cell? ⟨g, off + j, none⟩ = some (.string (strOf n fs[j]))) := Lib.hid (fun h0 => by
    obtain ⟨g', o', e', hg', hc'⟩ := ha (by rw [rowsL_len, hm]; exact h0)
    refine ⟨g', o', e', hg', fun j hj => ?_⟩
    rw [hc' j (by rw [rowsL_len]; exact hj), rowsL, List.getD_eq_getElem?_getD, List.getElem?_map, List.getElem?_eq_getElem hj, Option.map_some, Option.getD_some, txt_rowL])
  rw [rowsL_len, hm]
  have hmi : (m : Int) ≤ 1000 := by omega
  have HR := Lib.hid hr
  have HM := Lib.hid hm
  obtain ⟨i0, hi0, hz0, hz1, hz2⟩ := info_parts infoText
  have I0 := Lib.hid (⟨hi0, hz0, hz1, hz2⟩ : _ ∧ _ ∧ _ ∧ _)
  generalize hres : rndB n fs = res
  have HRES := Lib.hid hres
  clear ha hm hcap hr hl hi0 hz0 hz1 hz2 hres
  go_enter Try.func73, Try.ntmps73
  go_wp2
  go_loopg [4, 11] m (fun q ov i wr => ∃ j : Nat, q + j = m ∧ i = .int .i64 j ∧ nxB n fs j = true ∧ New w.heap.size wr 9 ov (strs (nxL n fs j)) ∧ Below w.heap.size w wr)
  case atStart => exact ⟨0, by omega, rfl, rfl, New.nil _ _ _, Below.refl _ _⟩
  case round =>
    obtain ⟨j, hq, rfl, hB, hn, hb⟩ := hrel
    have HQ := Lib.hid hq
    have HBB := Lib.hid hB
    have HN := Lib.hid hn
    have HB := Lib.hid hb
    obtain ⟨ua, uc, rfl, -⟩ := hn.own.view
    clear hq hB hn hb
    by_cases hlt : j < m
    · obtain ⟨q', rfl⟩ : ∃ q', gk = q' + 1 := ⟨gk - 1, by have := HQ.out; omega⟩
      obtain ⟨g, off, rfl, hg, hc⟩ := HA.out (by omega)
      obtain ⟨k2, hk2⟩ : ∃ k2, (j + 1) % m = k2 := ⟨_, rfl⟩
      have hk2m : k2 < m := by rw [← hk2]; exact Nat.mod_lt _ (by omega)
      have hjx : j < fs.length := by rw [HM.out]; exact hlt
      have hkx : k2 < fs.length := by rw [HM.out]; exact hk2m
      have c1 := (HB.out.cell (p := ⟨g, off + j, none⟩) hg).trans (hc j hjx)
      have c2 := (HB.out.cell (p := ⟨g, off + k2, none⟩) hg).trans (hc k2 hkx)
      have hr1 := HR.out _ (List.getElem_mem hjx)
      have hr2 := HR.out _ (List.getElem_mem hkx)
      have hnx := nxt_at (n := n) hjx hkx (by rw [HM.out]; exact hk2)
      have HCALL := Lib.hid (sBetweenRows_yes n fs[j] fs[k2] hr1 hr2)
      rw [← hnx] at HCALL
      have hmod : ((j : Int) + 1) % (m : Int) = (k2 : Int) := by rw [← hk2]; simp
      have g4 : Int.tmod ((j : Int) + 1) (m : Int) = (k2 : Int) := by rw [Int.tmod_eq_emod_of_nonneg (by omega)]; exact hmod
      have hji : (j : Int) < (m : Int) := by omega
      have hki : (k2 : Int) < (m : Int) := by omega
      have hm0 : ¬ ((m : Int) = 0) := by omega
      have hm0b : ((m : Int) == 0) = false := by rw [beq_eq_false_iff_ne]; exact hm0
      generalize strOf n fs[j] = sj at *
      generalize strOf n fs[k2] = sk at *
      have HNO := Lib.hid (fun e => rnd_no (n := n) hjx e)
      have HYES := Lib.hid (fun l (e : nxt n fs j = some l) => nxB_succ (n := n) HBB.out e)
      clear hc hr1 hr2 hnx hjx hkx hmod hk2
      cases hx : nxt n fs j with
      | none =>
        have HF : Hid (res = false) := Lib.hid (by rw [← HRES.out]; exact HNO.out hx)
        rw [hx] at HCALL
        simp only [chEnd] at HCALL
        clear hx HYES HNO
        go_wp2_with fail
        refine (HCALL.out _).mono ?_
        rintro e w2 ⟨rfl, hb2⟩
        have HB2 := Lib.hid (HB.out.trans (hb2.mono HB.out.size))
        clear hb2
        go_wp2
        go_ret2
        exact ⟨_, by rw [HF.out]; rfl, by unfold rndL; rw [HRES.out, HF.out]; exact New.nil _ _ _, HB2.out⟩
      | some l =>
        obtain ⟨hy1, hy2⟩ := HYES.out l hx
        have HY1 := Lib.hid hy1
        have HY2 := Lib.hid hy2
        rw [hx] at HCALL
        simp only [chEnd] at HCALL
        clear hx HYES HNO hy1 hy2
        have hnl := nxL_len n fs j
        go_wp2_with fail
        refine (HCALL.out _).mono ?_
        rintro e w2 ⟨rfl, hb2⟩
        have HB2 := Lib.hid (HB.out.trans (hb2.mono HB.out.size))
        have HN2 := Lib.hid (HN.out.kept hb2)
        clear hb2 HB HN
        go_wp2_with (at_builtin; refine wpList_app1 rfl (.tmp 31) (.tmp 33) 22 rfl 9 i0 (.string ⟨#[]⟩) 16 Try.underlying22 I0.out.1 I0.out.2.1 I0.out.2.2.1 I0.out.2.2.2 rfl w.heap.size w _ (strs (nxL n fs j)) rfl HN2.out rfl rfl HB2.out.size HB2.out (by rw [strs_len, hnl]; omega) (by omega) ?_)
        intro v7 w7 hn7 _ hb7 _
        rw [strs_snoc, ← HY2.out] at hn7
        have HN7 := Lib.hid hn7
        have HB7 := Lib.hid hb7
        obtain ⟨ua7, uc7, rfl, -⟩ := hn7.own.view
        clear hn7 hb7 HN2 HB2
        go_wp2
        go_roundg q'
        case measure => have := HQ.out; omega
        case rel => exact ⟨j + 1, by have := HQ.out; omega, by go_num, HY1.out, HN7.out, HB7.out⟩
    · obtain rfl : j = m := by have := HQ.out; omega
      have hfl := HM.out
      have hnl := nxL_len n fs j
      by_cases h0 : 0 < j
      · have HT : Hid (res = true) := Lib.hid (by rw [← HRES.out]; exact rnd_yes (by omega) (by rw [hfl]; exact HBB.out))
        have hji : (0 : Int) < (j : Int) := by omega
        have HL : Hid (rndL n fs = nxL n fs j) := Lib.hid (by unfold rndL; rw [HRES.out, HT.out, hfl]; rfl)
        go_wp2
        go_ret2
        exact ⟨_, by rw [HT.out]; rfl, by rw [HL.out]; exact HN.out, HB.out⟩
      · obtain rfl : j = 0 := by omega
        have HF : Hid (res = false) := Lib.hid (by rw [← HRES.out]; unfold rndB; rw [hfl]; rfl)
        have HL : Hid (rndL n fs = nxL n fs 0) := Lib.hid (by unfold rndL; rw [HRES.out, HF.out]; rfl)
        go_wp2
        go_ret2
        exact ⟨_, by rw [HF.out]; rfl, by rw [HL.out]; exact HN.out, HB.out⟩

theorem are_yes {L : List (List Nat)} (h : listB L = true) : areB L = rndB (firstN L) (rF L) ∧ chgL L = rndL (firstN L) (rF L) := by
  have h1 : areB L = rndB (firstN L) (rF L) := by
    unfold areB rndB
    rw [h, Bool.true_and, rF_len]
  refine ⟨h1, ?_⟩
  unfold chgL rndL
  rw [h1]
theorem are_no {L : List (List Nat)} (h : listB L = false) : areB L = false ∧ chgL L = [] := by
  have h1 : areB L = false := by
    unfold areB
    rw [h]
    rfl
  refine ⟨h1, ?_⟩
  unfold chgL
  rw [h1]
  rfl

set_option maxRecDepth 100000 in
set_option maxHeartbeats 1000000 in
theorem sChangesIn_any (v : Value) (L : List (List Nat)) (w : World) (h : Txts w v L) (hl : L.length ≤ 2000000) (hs : ∀ l ∈ L, l.length ≤ maxLen) :
    Calls Try.prog 36 #[v] w (TextsAny (chgL L) (areB L) w) := by
  have HC := Lib.hid (l6Rows_any v L w h hl hs)
  unfold TextsAny
  cases hb : listB L
  · obtain ⟨e1, e2⟩ := are_no hb
    rw [e1, e2]
    rw [hb] at HC
    clear h hl hs hb e1 e2
    go_enter Try.func36, Try.ntmps36
    go_wp2_with fail
    refine HC.out.mono ?_
    rintro e w1 ⟨rfl, hb1⟩
    go_wp2
    go_ret2
    exact ⟨_, rfl, New.nil _ _ _, hb1⟩
  · obtain ⟨e1, e2⟩ := are_yes hb
    have HX := Lib.hid (fun w' (h' : Txts w' v L) => l7Changes_any (firstN L) v (rF L) (rowsB_rows hb) (by rw [rF_len]; have := rowsB_len hb; omega) w' (Txts.rows h' hb))
    rw [← e1, ← e2] at HX
    rw [hb] at HC
    have HT := Lib.hid h
    generalize chgL L = cl at *
    generalize areB L = cb at *
    unfold TextsAny at HX
    clear h hl hs hb e1 e2
    go_enter Try.func36, Try.ntmps36
    go_wp2_with fail
    refine HC.out.mono ?_
    rintro e w1 ⟨rfl, hb1⟩
    have HB1 := Lib.hid hb1
    have HT1 := Lib.hid (HT.out.kept hb1)
    clear hb1
    go_wp2_with fail
    refine (HX.out _ HT1.out).mono ?_
    rintro e w2 ⟨v2, rfl, hn2, hb2⟩
    have HN2 := Lib.hid (hn2.lower HB1.out.size)
    have HB2 := Lib.hid (HB1.out.trans (hb2.mono HB1.out.size))
    obtain ⟨ua, uc, rfl, -⟩ := hn2.own.view
    clear hb2 hn2
    go_wp2
    go_ret2
    exact ⟨_, rfl, HN2.out, HB2.out⟩

set_option maxRecDepth 100000 in
set_option maxHeartbeats 1000000 in
theorem sAreNext_any (v : Value) (L : List (List Nat)) (w : World) (h : Txts w v L) (hl : L.length ≤ 2000000) (hs : ∀ l ∈ L, l.length ≤ maxLen) :
    Calls Try.prog 34 #[v] w fun e w' => e = .returned (.tuple #[.bool (areB L), .bool (listB L)]) ∧ Below w.heap.size w w' := by
  have HC := Lib.hid (l6Rows_any v L w h hl hs)
  cases hb : listB L
  · obtain ⟨e1, e2⟩ := are_no hb
    rw [e1]
    rw [hb] at HC
    clear h hl hs hb e1 e2
    go_enter Try.func34, Try.ntmps34
    go_wp2_with fail
    refine HC.out.mono ?_
    rintro e w1 ⟨rfl, hb1⟩
    go_wp2
    go_ret2
    exact ⟨rfl, hb1⟩
  · obtain ⟨e1, e2⟩ := are_yes hb
    have HX := Lib.hid (fun w' (h' : Txts w' v L) => l7Changes_any (firstN L) v (rF L) (rowsB_rows hb) (by rw [rF_len]; have := rowsB_len hb; omega) w' (Txts.rows h' hb))
    rw [← e1, ← e2] at HX
    rw [hb] at HC
    have HT := Lib.hid h
    generalize chgL L = cl at *
    generalize areB L = cb at *
    unfold TextsAny at HX
    clear h hl hs hb e1 e2
    go_enter Try.func34, Try.ntmps34
    go_wp2_with fail
    refine HC.out.mono ?_
    rintro e w1 ⟨rfl, hb1⟩
    have HB1 := Lib.hid hb1
    have HT1 := Lib.hid (HT.out.kept hb1)
    clear hb1
    go_wp2_with fail
    refine (HX.out _ HT1.out).mono ?_
    rintro e w2 ⟨v2, rfl, hn2, hb2⟩
    have HB2 := Lib.hid (HB1.out.trans (hb2.mono HB1.out.size))
    obtain ⟨ua, uc, rfl, -⟩ := hn2.own.view
    clear hb2 hn2
    go_wp2
    go_ret2
    exact ⟨rfl, HB2.out⟩
end Go.Proofs.Ytnoepobbecobbaa
