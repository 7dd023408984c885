/- Methods in the model: what is good, leads, heads. Methods in the model: LeadHead, LeadsIn, LeadRows, courses, hunt bells. Methods in the model: courses, hunt bells. -/
import Derived.Test.YtkhglknpcajmiaaMB
import Derived.Deep.RegionHeld3
namespace Go.Proofs.Ytkhglknpcajmiaa
open Go.RowKit
set_option linter.unusedSimpArgs false
set_option linter.unusedVariables false

def Small (L : List (List Nat)) : Prop := ∀ l ∈ L, l.length ≤ maxLen

set_option maxRecDepth 100000 in
set_option maxHeartbeats 1000000 in
theorem l4Good_any (s : ByteArray) (hs : s.size ≤ maxLen) (n : Int) (v : Value) (L : List (List Nat)) (w : World) (h : Txts w v L) (hl : L.length ≤ 2000000) (hsm : Small L) :
    Calls Try.prog 96 #[.agg #[.string s, .int .i64 n, v]] w fun e w' => e = .returned (.bool (goodM s n L)) ∧ Below w.heap.size w w' := by
  obtain ⟨m, hm⟩ : ∃ m, L.length = m := ⟨_, rfl⟩
  obtain ⟨a, cap, rfl, hcap, ha⟩ := h
  have hg : goodM s n L = (decide (1 ≤ m) && decide (m ≤ 40) && L.all (fun l => goodC n (txt l)) && nameB s) := by unfold goodM goodAll; rw [hm]
  have hrange : 1 ≤ m → L.all (fun l => goodC n (txt l)) = true → 3 ≤ n ∧ n ≤ 8 := fun h1 h2 => by
    cases L with
    | nil => simp at hm; omega
    | cons x t =>
      rw [List.all_cons, Bool.and_eq_true] at h2
      exact goodC_range h2.1
  rw [hm] at hl ha ⊢
  have hl' : (m : Int) ≤ 2000000 := by omega
  have HA := Lib.hid ha
  have HM := Lib.hid hm
  have HG := Lib.hid hg
  have HR := Lib.hid hrange
  have HS := Lib.hid hsm
  have HNM := Lib.hid (l4Name_any s hs)
  have HR0 := Lib.hid (RowAt.new w 25 #[.string s, .int .i64 n, .slice a m cap])
  have HB0 := Lib.hid ((Below.refl _ w).alloc (Nat.le_refl _) (.cells #[.string s, .int .i64 n, .slice a m cap] 25))
  clear ha hm hcap hg hrange hsm
  generalize hb : L.all (fun l => goodC n (txt l)) = res at *
  generalize hgl : goodM s n L = tot at *
  generalize hnb : nameB s = nb at *
  have HB := Lib.hid hb
  clear hb hgl hnb hs
  go_enter Try.func96, Try.ntmps96
  go_wp2
  go_loopg [4, 8] m (fun q _ i wr => ∃ j : Nat, j ≤ m ∧ q + j = m ∧ i = .int .i64 j ∧ (L.drop j).all (fun l => goodC n (txt l)) = res ∧ (w.alloc (.cells #[.string s, .int .i64 n, .slice a m cap] 25)) = wr)
  case atStart => exact ⟨0, by omega, rfl, rfl, HB.out, rfl⟩
  case round =>
    clear HB
    obtain ⟨j, hj, hq, rfl, hf, rfl⟩ := hrel
    have HF := Lib.hid hf
    have c0 := HR0.out.cell 0 rfl
    have c1 := HR0.out.cell 1 rfl
    have c2 := HR0.out.cell 2 rfl
    clear hf
    by_cases hlt : j < m
    · obtain ⟨g, off, rfl, hg, hc⟩ := HA.out (by omega)
      have hjx : j < L.length := by rw [HM.out]; exact hlt
      have c3 := (HB0.out.cell (p := ⟨g, off + j, none⟩) hg).trans (hc j hlt)
      rw [List.getD_eq_getElem?_getD, List.getElem?_eq_getElem hjx, Option.getD_some] at c3
      have hf := HF.out
      rw [List.drop_eq_getElem_cons hjx, List.all_cons] at hf
      have hxs := HS.out _ (List.getElem_mem hjx)
      generalize L[j] = x at *
      have hji : (j : Int) < m := by omega
      have HF2 := Lib.hid hf
      clear hc hf HF
      go_wp2_with fail
      refine (l2Change_any n (txt x) (by rw [txt_size]; exact hxs) _).mono ?_
      rintro e w5 ⟨rfl, rfl⟩
      have hf := HF2.out
      clear HF2
      cases hgx : goodC n (txt x)
      · rw [hgx] at hf
        have HF3 : Hid (tot = false) := Lib.hid (by
          have h1 : false = res := hf
          rw [HG.out, ← h1]; simp)
        clear hf hgx
        go_wp2
        go_ret
        exact ⟨by rw [HF3.out]; rfl, HB0.out⟩
      · rw [hgx, Bool.true_and] at hf
        have HF3 := Lib.hid hf
        clear hf hgx
        go_wp2
        go_roundg (m - (j + 1))
        case measure => omega
        case rel => exact ⟨j + 1, by omega, by omega, by go_num, HF3.out, rfl⟩
    · obtain rfl : j = m := by omega
      have hf := HF.out
      rw [List.drop_eq_nil_of_le (by rw [HM.out]; exact Nat.le_refl _)] at hf
      have hf : true = res := hf
      subst hf
      clear HF
      go_wp2_with fail
      refine (HNM.out _).mono ?_
      rintro e w5 ⟨rfl, rfl⟩
      cases nb
      · have HT : Hid (tot = false) := Lib.hid (by rw [HG.out]; simp)
        go_wp2
        go_ret
        exact ⟨by rw [HT.out]; rfl, HB0.out⟩
      · by_cases h1 : 1 ≤ j ∧ j ≤ 40
        · have hin : (decide ((1 : Int) ≤ j) && decide ((j : Int) ≤ 40)) = true := by simp; omega
          have hn := HR.out h1.1 (by simp)
          have hin2 : (decide ((3 : Int) ≤ n) && decide (n ≤ 8)) = true := by simp; omega
          have HT : Hid (tot = true) := Lib.hid (by rw [HG.out, decide_eq_true h1.1, decide_eq_true h1.2]; rfl)
          have HI1 := Lib.hid hin
          have HI2 := Lib.hid hin2
          clear hn hin hin2
          go_wp2_with (first | (go_at_call 100; refine (l1In_any _ _ _ _).mono ?_; rintro e w6 ⟨rfl, rfl⟩; first | rw [HI2.out] | rw [HI1.out]) | fail)
          go_ret
          exact ⟨by rw [HT.out]; rfl, HB0.out⟩
        · have hin : (decide ((1 : Int) ≤ j) && decide ((j : Int) ≤ 40)) = false := by simp; omega
          have HT : Hid (tot = false) := Lib.hid (by
            rw [HG.out]
            by_cases h2 : 1 ≤ j
            · rw [decide_eq_false (show ¬ j ≤ 40 by omega)]; simp
            · rw [decide_eq_false h2]; rfl)
          obtain ⟨in1, hin1⟩ : ∃ b, (decide ((3 : Int) ≤ n) && decide (n ≤ 8)) = b := ⟨_, rfl⟩
          have HI1 := Lib.hid hin
          have HI2 := Lib.hid hin1
          clear hin h1 hin1
          cases in1
          all_goals
            go_wp2_with (first | (go_at_call 100; refine (l1In_any _ _ _ _).mono ?_; rintro e w6 ⟨rfl, rfl⟩; first | rw [HI2.out] | rw [HI1.out]) | fail)
            go_ret
            exact ⟨by rw [HT.out]; rfl, HB0.out⟩

theorem app_row (n : Nat) (f : Nat → Nat) (hf : IsRow n f) (c : List Nat) (hg : goodC n (txt c) = true) (w : World) :
    Calls Try.prog 119 #[.string (strOf n f), .string (txt c)] w fun e w' => e = .returned (.string (strOf n (mulR n f (chF n (txt c))))) ∧ Below w.heap.size w w' := by
  have hlen := goodC_len hg
  have hg2 : goodL n (lets (txt c)) = true := by rw [← goodC_in]; exact hg
  refine (l2Apply_any (strOf n f) (txt c) (by rw [txt_size]; unfold maxLen; omega) (goodB_strOf hf) (by rw [strOf_size]; exact hg2) w).mono ?_
  rintro e w' ⟨rfl, hb⟩
  refine ⟨?_, hb⟩
  unfold appF
  rw [strOf_size, dg_strOf hf, strOf_mul, chF_yes hg2]

/-- the rows of a lead and the row to which they come -/
def LeadOut (L : List (List Nat)) (t : ByteArray) (w : World) (e : Ending) (w' : World) : Prop :=
  ∃ v, e = .returned (.tuple #[v, .string t]) ∧ New w.heap.size w' 9 v (strs L) ∧ Below w.heap.size w w'

set_option maxRecDepth 100000 in
set_option maxHeartbeats 1000000 in
theorem l4Lead_gen (n : Nat) (v : Value) (L : List (List Nat)) (f : Nat → Nat) (hf : IsRow n f) (hgc : ∀ l ∈ L, goodC n (txt l) = true) (hl0 : L.length ≤ 40) (w : World) (h : Txts w v L) :
    Calls Try.prog 140 #[v, .string (strOf n f)] w (LeadOut (rowsL n (leadF n (chR n L) f)) (strOf n (endF n (chR n L) f)) w) := by
  obtain ⟨m, hm⟩ : ∃ m, L.length = m := ⟨_, rfl⟩
  obtain ⟨a, cap, rfl, hcap, ha⟩ := h
  have hl := hl0
  rw [hm] at hl ha ⊢
  have hl' : (m : Int) ≤ 40 := by omega
  have HA := Lib.hid ha
  have HM := Lib.hid hm
  have HF := Lib.hid hf
  have HGC := Lib.hid hgc
  generalize hres : rowsL n (leadF n (chR n L) f) = res
  generalize hend : strOf n (endF n (chR n L) f) = tend
  have HRES := Lib.hid hres
  have HEND := Lib.hid hend
  obtain ⟨i0, hi0, hz0, hz1, hz2⟩ := info_parts infoText
  have I0 := Lib.hid (⟨hi0, hz0, hz1, hz2⟩ : _ ∧ _ ∧ _ ∧ _)
  clear ha hm hcap hf hres hend hgc hl0 hi0 hz0 hz1 hz2
  obtain ⟨t0, ht0⟩ : ∃ t0, strOf n f = t0 := ⟨_, rfl⟩
  have HT0 := Lib.hid ht0
  rw [ht0]
  clear ht0
  go_enter Try.func140, Try.ntmps140
  go_wp2
  go_loopg [6, 7, 9, 13] m (fun q ov tv _ i wr => ∃ (j : Nat) (g : Nat → Nat) (A : List (List Nat)), q + j = m ∧ i = .int .i64 j ∧ tv = .string (strOf n g) ∧ IsRow n g ∧ A.length = j ∧ A ++ rowsL n (leadF n (chR n (L.drop j)) g) = res ∧ strOf n (endF n (chR n (L.drop j)) g) = tend ∧ New w.heap.size wr 9 ov (strs A) ∧ Below w.heap.size w wr)
  case atStart => exact ⟨0, f, [], by omega, rfl, by rw [HT0.out], HF.out, rfl, HRES.out, HEND.out, New.nil _ _ _, Below.refl _ _⟩
  case round =>
    clear HF HRES HEND HT0
    obtain ⟨j, g, A, hq, rfl, rfl, hg, hA, hr, he, hn, hb⟩ := hrel
    have HG := Lib.hid hg
    have HRR := Lib.hid hr
    have HEE := Lib.hid he
    have HB := Lib.hid hb
    have HAL := Lib.hid hA
    obtain ⟨a9, c9, rfl, -⟩ := hn.own.view
    rw [strs_len] at hn ⊢
    have HN := Lib.hid hn
    clear hg hr he hb hn hA
    by_cases hlt : j < m
    · obtain ⟨q', rfl⟩ : ∃ q', gk = q' + 1 := ⟨gk - 1, by omega⟩
      obtain ⟨gb, off, rfl, hgb, hc⟩ := HA.out (by omega)
      have hjx : j < L.length := by rw [HM.out]; exact hlt
      have c1 := (HB.out.cell (p := ⟨gb, off + j, none⟩) hgb).trans (hc j hlt)
      rw [List.getD_eq_getElem?_getD, List.getElem?_eq_getElem hjx, Option.getD_some] at c1
      have hr := HRR.out
      have he := HEE.out
      rw [List.drop_eq_getElem_cons hjx] at hr he
      have hgc := HGC.out _ (List.getElem_mem hjx)
      generalize L[j] = x at *
      have HR2 := Lib.hid (show (A ++ [rowL n g]) ++ rowsL n (leadF n (chR n (L.drop (j + 1))) (mulR n g (chF n (txt x)))) = res from by rw [← hr]; simp [chR, leadF, rowsL])
      have HE2 := Lib.hid (show strOf n (endF n (chR n (L.drop (j + 1))) (mulR n g (chF n (txt x)))) = tend from by rw [← he]; simp [chR, endF])
      have HMR := Lib.hid (isRow_mul HG.out (chF_row hgc))
      have HAP := Lib.hid (app_row n g HG.out x hgc)
      generalize mulR n g (chF n (txt x)) = g2 at *
      have hsnoc : strs A ++ [.string (strOf n g)] = strs (A ++ [rowL n g]) := by rw [← txt_rowL]; simp [strs]
      have HSN := Lib.hid hsnoc
      have hji : (j : Int) < m := by omega
      have hal : A.length ≤ 40 := by rw [HAL.out]; omega
      generalize strOf n g = tg at *
      clear hc hr he hgc HRR HEE hsnoc
      go_wp2_with (at_builtin; refine wpList_app1 rfl (.tmp 17) (.tmp 19) 23 rfl 9 i0 (.string ⟨#[]⟩) 16 Try.underlying23 I0.out.1 I0.out.2.1 I0.out.2.2.1 I0.out.2.2.2 rfl w.heap.size w _ (strs A) rfl HN.out rfl rfl HB.out.size HB.out (by rw [strs_len]; omega) (by omega) ?_)
      intro v4 w4 hn4 hk4 hb4 _
      rw [HSN.out] at hn4
      have HN4 := Lib.hid hn4
      have HB4 := Lib.hid hb4
      clear hn4 hk4 hb4 HN HB
      go_wp2_with fail
      refine (HAP.out _).mono ?_
      rintro e w5 ⟨rfl, hb5⟩
      have HN5 := Lib.hid (HN4.out.kept hb5)
      have HB5 := Lib.hid (HB4.out.trans (hb5.mono HB4.out.size))
      clear hb5 HN4 HB4
      go_wp2
      go_roundg q'
      case measure => omega
      case rel => exact ⟨j + 1, g2, A ++ [rowL n g], by omega, by go_num, rfl, HMR.out, by rw [List.length_append, HAL.out]; rfl, HR2.out, HE2.out, HN5.out, HB5.out⟩
    · obtain rfl : gk = 0 := by omega
      obtain rfl : j = m := by omega
      have hr := HRR.out
      have he := HEE.out
      rw [List.drop_eq_nil_of_le (by rw [HM.out]; exact Nat.le_refl _)] at hr he
      have hr : A = res := by rw [← hr]; simp [chR, leadF, rowsL]
      have he : strOf n g = tend := he
      subst hr he
      generalize strOf n g = tg at *
      go_wp2
      go_ret2
      exact ⟨_, rfl, HN.out, HB.out⟩

theorem l4Lead_any (n : Nat) (v : Value) (L : List (List Nat)) (f : Nat → Nat) (hf : IsRow n f) (hg : goodAll n L = true) (w : World) (h : Txts w v L) :
    Calls Try.prog 140 #[v, .string (strOf n f)] w (LeadOut (rowsL n (leadF n (chR n L) f)) (strOf n (endF n (chR n L) f)) w) :=
  l4Lead_gen n v L f hf (goodAll_mem hg) (goodAll_len hg).2 w h

set_option maxRecDepth 100000 in
set_option maxHeartbeats 1000000 in
theorem l4Head_any (s : ByteArray) (n : Nat) (v : Value) (L : List (List Nat)) (hg : goodAll n L = true) (w : World) (h : Txts w v L) :
    Calls Try.prog 97 #[.agg #[.string s, .int .i64 n, v]] w fun e w' => e = .returned (.string (strOf n (headF n (chR n L)))) ∧ Below w.heap.size w w' := by
  obtain ⟨a, cap, rfl, hcap, -⟩ := id h
  have hr := goodAll_range hg
  have HT := Lib.hid h
  have HR0 := Lib.hid (RowAt.new w 25 #[.string s, .int .i64 n, .slice a L.length cap])
  have HB0 := Lib.hid ((Below.refl _ w).alloc (Nat.le_refl _) (.cells #[.string s, .int .i64 n, .slice a L.length cap] 25))
  have HR := Lib.hid (l1Rounds_any n (by omega))
  have HL := Lib.hid (fun w h => l4Lead_any n (.slice a L.length cap) L (rdf n) (isRow_rdf (by omega) (by omega)) hg w h)
  rw [strOf_rdf] at HL
  unfold LeadOut at HL
  have hh : endF n (chR n L) (rdf n) = headF n (chR n L) := rfl
  rw [hh] at HL
  generalize strOf n (headF n (chR n L)) = th at *
  generalize rowsL n (leadF n (chR n L) (rdf n)) = rl at *
  generalize rnds n = rn at *
  have c1 := HR0.out.cell 1 rfl
  have c2 := HR0.out.cell 2 rfl
  clear h hcap hg hr hh
  generalize L.length = m at *
  go_enter Try.func97, Try.ntmps97
  go_wp2
  generalize w.alloc (.cells #[.string s, .int .i64 n, .slice a m cap] 25) = w0 at *
  have hlt : w.heap.size < w0.heap.size := HR0.out.lt
  have HS : Hid (∀ W, (W.cell? ⟨w.heap.size, 1, none⟩ = some (.int .i64 n) ∧ W.cell? ⟨w.heap.size, 2, none⟩ = some (.slice a m cap) ∧ Below w0.heap.size w0 W) → Calls Try.prog 140 #[.slice a m cap, .string rn] W fun e w' => (∃ v, (∃ b c, v = .slice b rl.length c) ∧ e = .returned (.tuple #[v, .string th])) ∧ (w'.cell? ⟨w.heap.size, 1, none⟩ = some (.int .i64 n) ∧ w'.cell? ⟨w.heap.size, 2, none⟩ = some (.slice a m cap) ∧ Below w0.heap.size w0 w')) := Lib.hid (fun W hW => by
    obtain ⟨h1, h2, hW⟩ := hW
    refine (HL.out W ((HT.out.kept HB0.out).kept hW)).mono fun e w' h => ?_
    obtain ⟨v, rfl, hn, hb⟩ := h
    obtain ⟨b, c, rfl, -⟩ := hn.own.view
    have hlt2 := Nat.lt_of_lt_of_le hlt hW.size
    exact ⟨⟨_, ⟨b, c, by rw [strs_len]⟩, rfl⟩, (hb.cell (p := ⟨w.heap.size, 1, none⟩) hlt2).trans h1, (hb.cell (p := ⟨w.heap.size, 2, none⟩) hlt2).trans h2, hW.trans (hb.mono hW.size)⟩)
  go_region_held3 (fun w' => w'.cell? ⟨w.heap.size, 1, none⟩ = some (.int .i64 n) ∧ w'.cell? ⟨w.heap.size, 2, none⟩ = some (.slice a m cap) ∧ Below w0.heap.size w0 w') (first | exact ⟨c1, c2, Below.refl _ _⟩ | exact ⟨c1, c2, (Below.refl _ _).drew⟩ | assumption) (first | (go_at_call 101; refine (HR.out _).mono ?_; rintro e4 w4 ⟨rfl, rfl⟩) | (go_at_call 140; refine (HS.out _ (by first | assumption | exact ⟨c1, c2, Below.refl _ _⟩ | exact ⟨c1, c2, (Below.refl _ _).drew⟩)).mono ?_; rintro e5 w5 ⟨⟨_, ⟨b5, k5, rfl⟩, rfl⟩, hS5⟩) | fail)
  go_wp2
  go_ret
  exact ⟨rfl, HB0.out.trans (hS5.2.2.mono HB0.out.size)⟩
end Go.Proofs.Ytkhglknpcajmiaa
namespace Go.Proofs.Ytkhglknpcajmiaa
open Go.RowKit
set_option linter.unusedSimpArgs false
set_option linter.unusedVariables false

set_option maxRecDepth 100000 in
set_option maxHeartbeats 1000000 in
theorem sLeadHead_no (s : ByteArray) (hs : s.size ≤ maxLen) (n : Int) (v : Value) (L : List (List Nat)) (w : World) (h : Txts w v L) (hl : L.length ≤ 2000000) (hsm : Small L) (hg : goodM s n L = false) :
    Calls Try.prog 31 #[.agg #[.string s, .int .i64 n, v]] w fun e w' => e = .returned (.tuple #[.string ⟨#[]⟩, .bool false]) ∧ Below w.heap.size w w' := by
  obtain ⟨a, cap, rfl, hcap, -⟩ := id h
  have HT := Lib.hid h
  have HR0 := Lib.hid (RowAt.new w 25 #[.string s, .int .i64 n, .slice a L.length cap])
  have HB0 := Lib.hid ((Below.refl _ w).alloc (Nat.le_refl _) (.cells #[.string s, .int .i64 n, .slice a L.length cap] 25))
  have HG := Lib.hid (fun w h => l4Good_any s hs n (.slice a L.length cap) L w h hl hsm)
  rw [hg] at HG
  clear h hcap hl hsm hg
  generalize L.length = m at *
  go_enter Try.func31, Try.ntmps31
  go_wp2_with (first | (refine wpList_load_row rfl 25 _ rfl _ rfl 25 _ _ _ (HR0.out) Try.underlying25 rfl (by kernel_rfl) ?_) | fail)
  refine (HG.out _ (HT.out.kept HB0.out)).mono ?_
  rintro e w1 ⟨rfl, hb1⟩
  have HB1 := Lib.hid (HB0.out.trans (hb1.mono HB0.out.size))
  go_wp2
  go_ret2
  exact ⟨rfl, HB1.out⟩

set_option maxRecDepth 100000 in
set_option maxHeartbeats 1000000 in
theorem sLeadHead_yes (s : ByteArray) (hs : s.size ≤ maxLen) (n : Nat) (v : Value) (L : List (List Nat)) (w : World) (h : Txts w v L) (hl : L.length ≤ 2000000) (hsm : Small L) (hg : goodM s n L = true) :
    Calls Try.prog 31 #[.agg #[.string s, .int .i64 n, v]] w fun e w' => e = .returned (.tuple #[.string (strOf n (headF n (chR n L))), .bool true]) ∧ Below w.heap.size w w' := by
  obtain ⟨a, cap, rfl, hcap, -⟩ := id h
  have HT := Lib.hid h
  have HR0 := Lib.hid (RowAt.new w 25 #[.string s, .int .i64 n, .slice a L.length cap])
  have HB0 := Lib.hid ((Below.refl _ w).alloc (Nat.le_refl _) (.cells #[.string s, .int .i64 n, .slice a L.length cap] 25))
  have HG := Lib.hid (fun w h => l4Good_any s hs n (.slice a L.length cap) L w h hl hsm)
  have HH := Lib.hid (fun w h => l4Head_any s n (.slice a L.length cap) L (goodM_parts hg).1 w h)
  rw [hg] at HG
  generalize strOf n (headF n (chR n L)) = th at *
  clear h hcap hl hsm hg
  generalize L.length = m at *
  go_enter Try.func31, Try.ntmps31
  go_wp2_with (first | (refine wpList_load_row rfl 25 _ rfl _ rfl 25 _ _ _ (HR0.out) Try.underlying25 rfl (by kernel_rfl) ?_) | fail)
  refine (HG.out _ (HT.out.kept HB0.out)).mono ?_
  rintro e w1 ⟨rfl, hb1⟩
  have HB1 := Lib.hid (HB0.out.trans (hb1.mono HB0.out.size))
  have HR1 := Lib.hid (HR0.out.kept hb1)
  clear hb1 HG HB0 HR0
  go_wp2_with (first | (refine wpList_load_row rfl 25 _ rfl _ rfl 25 _ _ _ (HR1.out) Try.underlying25 rfl (by kernel_rfl) ?_) | fail)
  refine (HH.out _ (HT.out.kept HB1.out)).mono ?_
  rintro e w2 ⟨rfl, hb2⟩
  have HB2 := Lib.hid (HB1.out.trans (hb2.mono HB1.out.size))
  go_wp2
  go_ret2
  exact ⟨rfl, HB2.out⟩

end Go.Proofs.Ytkhglknpcajmiaa
namespace Go.Proofs.Ytkhglknpcajmiaa
open Go.RowKit
set_option linter.unusedSimpArgs false
set_option linter.unusedVariables false

/-- a method's box stands, and all that was there -/
def Boxed (w0 : World) (b : Nat) (s : ByteArray) (n : Int) (u : Value) (W : World) : Prop := W.cell? ⟨b, 0, none⟩ = some (.string s) ∧ W.cell? ⟨b, 1, none⟩ = some (.int .i64 n) ∧ W.cell? ⟨b, 2, none⟩ = some u ∧ Below w0.heap.size w0 W
theorem Boxed.more {w0 W W' : World} {b : Nat} {s : ByteArray} {n : Int} {u : Value} (h : Boxed w0 b s n u W) (hlt : b < w0.heap.size) (hb : Below W.heap.size W W') : Boxed w0 b s n u W' := by
  obtain ⟨h0, h1, h2, hW⟩ := h
  have hlt2 := Nat.lt_of_lt_of_le hlt hW.size
  exact ⟨(hb.cell (p := ⟨b, 0, none⟩) hlt2).trans h0, (hb.cell (p := ⟨b, 1, none⟩) hlt2).trans h1, (hb.cell (p := ⟨b, 2, none⟩) hlt2).trans h2, hW.trans (hb.mono hW.size)⟩
theorem RowAt.boxed {W : World} {b : Nat} {T : TypeId} {s : ByteArray} {n : Int} {u : Value} (h : RowAt W b T #[.string s, .int .i64 n, u]) : Boxed W b s n u W := ⟨h.cell 0 rfl, h.cell 1 rfl, h.cell 2 rfl, Below.refl _ _⟩

end Go.Proofs.Ytkhglknpcajmiaa
