/- Methods in the model: LeadHead, LeadsIn, LeadRows, courses, hunt bells. -/
import Derived.Test.YtfocnflnpabmkaaN1
namespace Go.Proofs.Ytfocnflnpabmkaa
open Go.RowKit
set_option linter.unusedSimpArgs false
set_option linter.unusedVariables false

set_option maxRecDepth 100000 in
set_option maxHeartbeats 1000000 in
theorem sGoodMethod_any (s : ByteArray) (hs : s.size ≤ maxLen) (n : Int) (v : Value) (L : List (List Nat)) (w : World) (h : Txts w v L) (hl : L.length ≤ 2000000) (hsm : Small L) :
    Calls Try.prog 45 #[.agg #[.string s, .int .i64 n, v]] w fun e w' => e = .returned (.bool (goodM s n L)) ∧ Below w.heap.size w w' := by
  obtain ⟨a, cap, rfl, hcap, -⟩ := id h
  have HT := Lib.hid h
  have HR0 := Lib.hid (RowAt.new w 26 #[.string s, .int .i64 n, .slice a L.length cap])
  have HB0 := Lib.hid ((Below.refl _ w).alloc (Nat.le_refl _) (.cells #[.string s, .int .i64 n, .slice a L.length cap] 26))
  have HG := Lib.hid (fun w h => l4Good_any s hs n (.slice a L.length cap) L w h hl hsm)
  clear h hcap hl hsm
  generalize goodM s n L = gm at *
  generalize L.length = m at *
  go_enter Try.func45, Try.ntmps45
  go_wp2_with (first | (refine wpList_load_row rfl 26 _ rfl _ rfl 26 _ _ _ (HR0.out) Try.underlying26 rfl (by kernel_rfl) ?_) | fail)
  refine (HG.out _ (HT.out.kept HB0.out)).mono ?_
  rintro e w1 ⟨rfl, hb1⟩
  have HB1 := Lib.hid (HB0.out.trans (hb1.mono HB0.out.size))
  go_wp2
  go_ret
  exact ⟨rfl, HB1.out⟩

set_option maxRecDepth 100000 in
set_option maxHeartbeats 1000000 in
theorem sLeadHead_no (s : ByteArray) (hs : s.size ≤ maxLen) (n : Int) (v : Value) (L : List (List Nat)) (w : World) (h : Txts w v L) (hl : L.length ≤ 2000000) (hsm : Small L) (hg : goodM s n L = false) :
    Calls Try.prog 43 #[.agg #[.string s, .int .i64 n, v]] w fun e w' => e = .returned (.tuple #[.string ⟨#[]⟩, .bool false]) ∧ Below w.heap.size w w' := by
  obtain ⟨a, cap, rfl, hcap, -⟩ := id h
  have HT := Lib.hid h
  have HR0 := Lib.hid (RowAt.new w 26 #[.string s, .int .i64 n, .slice a L.length cap])
  have HB0 := Lib.hid ((Below.refl _ w).alloc (Nat.le_refl _) (.cells #[.string s, .int .i64 n, .slice a L.length cap] 26))
  have HG := Lib.hid (fun w h => l4Good_any s hs n (.slice a L.length cap) L w h hl hsm)
  rw [hg] at HG
  clear h hcap hl hsm hg
  generalize L.length = m at *
  go_enter Try.func43, Try.ntmps43
  go_wp2_with (first | (refine wpList_load_row rfl 26 _ rfl _ rfl 26 _ _ _ (HR0.out) Try.underlying26 rfl (by kernel_rfl) ?_) | fail)
  refine (HG.out _ (HT.out.kept HB0.out)).mono ?_
  rintro e w1 ⟨rfl, hb1⟩
  have HB1 := Lib.hid (HB0.out.trans (hb1.mono HB0.out.size))
  go_wp2
  go_ret2
  exact ⟨rfl, HB1.out⟩

set_option maxRecDepth 100000 in
set_option maxHeartbeats 1000000 in
theorem sLeadHead_yes (s : ByteArray) (hs : s.size ≤ maxLen) (n : Nat) (v : Value) (L : List (List Nat)) (w : World) (h : Txts w v L) (hl : L.length ≤ 2000000) (hsm : Small L) (hg : goodM s n L = true) :
    Calls Try.prog 43 #[.agg #[.string s, .int .i64 n, v]] w fun e w' => e = .returned (.tuple #[.string (strOf n (headF n (chR n L))), .bool true]) ∧ Below w.heap.size w w' := by
  obtain ⟨a, cap, rfl, hcap, -⟩ := id h
  have HT := Lib.hid h
  have HR0 := Lib.hid (RowAt.new w 26 #[.string s, .int .i64 n, .slice a L.length cap])
  have HB0 := Lib.hid ((Below.refl _ w).alloc (Nat.le_refl _) (.cells #[.string s, .int .i64 n, .slice a L.length cap] 26))
  have HG := Lib.hid (fun w h => l4Good_any s hs n (.slice a L.length cap) L w h hl hsm)
  have HH := Lib.hid (fun w h => l4Head_any s n (.slice a L.length cap) L (goodM_parts hg).1 w h)
  rw [hg] at HG
  generalize strOf n (headF n (chR n L)) = th at *
  clear h hcap hl hsm hg
  generalize L.length = m at *
  go_enter Try.func43, Try.ntmps43
  go_wp2_with (first | (refine wpList_load_row rfl 26 _ rfl _ rfl 26 _ _ _ (HR0.out) Try.underlying26 rfl (by kernel_rfl) ?_) | fail)
  refine (HG.out _ (HT.out.kept HB0.out)).mono ?_
  rintro e w1 ⟨rfl, hb1⟩
  have HB1 := Lib.hid (HB0.out.trans (hb1.mono HB0.out.size))
  have HR1 := Lib.hid (HR0.out.kept hb1)
  clear hb1 HG HB0 HR0
  go_wp2_with (first | (refine wpList_load_row rfl 26 _ rfl _ rfl 26 _ _ _ (HR1.out) Try.underlying26 rfl (by kernel_rfl) ?_) | fail)
  refine (HH.out _ (HT.out.kept HB1.out)).mono ?_
  rintro e w2 ⟨rfl, hb2⟩
  have HB2 := Lib.hid (HB1.out.trans (hb2.mono HB1.out.size))
  go_wp2
  go_ret2
  exact ⟨rfl, HB2.out⟩

set_option maxRecDepth 100000 in
set_option maxHeartbeats 1000000 in
theorem sLeadsIn_no (s : ByteArray) (hs : s.size ≤ maxLen) (n : Int) (v : Value) (L : List (List Nat)) (w : World) (h : Txts w v L) (hl : L.length ≤ 2000000) (hsm : Small L) (hg : goodM s n L = false) :
    Calls Try.prog 49 #[.agg #[.string s, .int .i64 n, v]] w fun e w' => e = .returned (.tuple #[.int .i64 0, .bool false]) ∧ Below w.heap.size w w' := by
  obtain ⟨a, cap, rfl, hcap, -⟩ := id h
  have HT := Lib.hid h
  have HR0 := Lib.hid (RowAt.new w 26 #[.string s, .int .i64 n, .slice a L.length cap])
  have HB0 := Lib.hid ((Below.refl _ w).alloc (Nat.le_refl _) (.cells #[.string s, .int .i64 n, .slice a L.length cap] 26))
  have HG := Lib.hid (fun w h => l4Good_any s hs n (.slice a L.length cap) L w h hl hsm)
  rw [hg] at HG
  clear h hcap hl hsm hg
  generalize L.length = m at *
  go_enter Try.func49, Try.ntmps49
  go_wp2_with (first | (refine wpList_load_row rfl 26 _ rfl _ rfl 26 _ _ _ (HR0.out) Try.underlying26 rfl (by kernel_rfl) ?_) | fail)
  refine (HG.out _ (HT.out.kept HB0.out)).mono ?_
  rintro e w1 ⟨rfl, hb1⟩
  have HB1 := Lib.hid (HB0.out.trans (hb1.mono HB0.out.size))
  go_wp2
  go_ret2
  exact ⟨rfl, HB1.out⟩

set_option maxRecDepth 100000 in
set_option maxHeartbeats 1000000 in
theorem sLeadsIn_yes (s : ByteArray) (hs : s.size ≤ maxLen) (n : Nat) (v : Value) (L : List (List Nat)) (w : World) (h : Txts w v L) (hl : L.length ≤ 2000000) (hsm : Small L) (hg : goodM s n L = true) (k : Nat) (hk : IsOrd n (headF n (chR n L)) k) :
    Calls Try.prog 49 #[.agg #[.string s, .int .i64 n, v]] w fun e w' => e = .returned (.tuple #[.int .i64 k, .bool true]) ∧ Below w.heap.size w w' := by
  obtain ⟨a, cap, rfl, hcap, -⟩ := id h
  have HT := Lib.hid h
  have HR0 := Lib.hid (RowAt.new w 26 #[.string s, .int .i64 n, .slice a L.length cap])
  have HB0 := Lib.hid ((Below.refl _ w).alloc (Nat.le_refl _) (.cells #[.string s, .int .i64 n, .slice a L.length cap] 26))
  have HG := Lib.hid (fun w h => l4Good_any s hs n (.slice a L.length cap) L w h hl hsm)
  have HH := Lib.hid (fun w h => l4Head_any s n (.slice a L.length cap) L (goodM_parts hg).1 w h)
  have h9 := goodM_nat hg
  have HO := Lib.hid (l1Order_any n (headF n (chR n L)) (isRow_head h9.1 h9.2.1 h9.2.2.1) k hk)
  rw [hg] at HG
  generalize strOf n (headF n (chR n L)) = th at *
  clear h hcap hl hsm hg hk h9
  generalize L.length = m at *
  go_enter Try.func49, Try.ntmps49
  go_wp2_with (first | (refine wpList_load_row rfl 26 _ rfl _ rfl 26 _ _ _ (HR0.out) Try.underlying26 rfl (by kernel_rfl) ?_) | fail)
  refine (HG.out _ (HT.out.kept HB0.out)).mono ?_
  rintro e w1 ⟨rfl, hb1⟩
  have HB1 := Lib.hid (HB0.out.trans (hb1.mono HB0.out.size))
  have HR1 := Lib.hid (HR0.out.kept hb1)
  clear hb1 HG HB0 HR0
  go_wp2_with (first | (refine wpList_load_row rfl 26 _ rfl _ rfl 26 _ _ _ (HR1.out) Try.underlying26 rfl (by kernel_rfl) ?_) | fail)
  refine (HH.out _ (HT.out.kept HB1.out)).mono ?_
  rintro e w2 ⟨rfl, hb2⟩
  have HB2 := Lib.hid (HB1.out.trans (hb2.mono HB1.out.size))
  clear hb2
  go_wp2_with fail
  refine (HO.out _).mono ?_
  rintro e w3 ⟨rfl, rfl⟩
  go_wp2
  go_ret2
  exact ⟨rfl, HB2.out⟩

set_option maxRecDepth 100000 in
set_option maxHeartbeats 1000000 in
theorem sLeadRows_any (s : ByteArray) (hs : s.size ≤ maxLen) (n : Int) (v : Value) (L : List (List Nat)) (r : ByteArray) (hr : r.size ≤ maxLen) (w : World) (h : Txts w v L) (hl : L.length ≤ 2000000) (hsm : Small L) :
    Calls Try.prog 50 #[.agg #[.string s, .int .i64 n, v], .string r] w (TextsAny (leadL s n L r) (leadB s n L r) w) := by
  obtain ⟨a, cap, rfl, hcap, -⟩ := id h
  have HT := Lib.hid h
  have HR0 := Lib.hid (RowAt.new w 26 #[.string s, .int .i64 n, .slice a L.length cap])
  have HB0 := Lib.hid ((Below.refl _ w).alloc (Nat.le_refl _) (.cells #[.string s, .int .i64 n, .slice a L.length cap] 26))
  have HG := Lib.hid (fun w h => l4Good_any s hs n (.slice a L.length cap) L w h hl hsm)
  have HRW := Lib.hid (l1Row_any r hr)
  have hr' : (r.size : Int) ≤ 9223372036854775807 := by simp only [maxLen] at hr; omega
  clear h hcap hl hsm hr
  by_cases hok : leadB s n L r = true
  · have hb := hok
    unfold leadB at hb
    rw [Bool.and_eq_true, Bool.and_eq_true, decide_eq_true_eq] at hb
    obtain ⟨⟨hg, hgr⟩, hsz⟩ := hb
    subst hsz
    have hL : leadL s r.size L r = rowsL r.size (leadF r.size (chR r.size L) (dg r)) := by unfold leadL; rw [if_pos hok]; rfl
    rw [hL, hok]
    rw [hg] at HG
    rw [hgr] at HRW
    have hrow := goodB_row hgr
    have hstr : strOf r.size (dg r) = r := (strOf_of_isStr (isStr_dg r)).symm
    have HLD := Lib.hid (fun w h => l4Lead_any r.size (.slice a L.length cap) L (dg r) hrow (goodM_parts hg).1 w h)
    rw [hstr] at HLD
    generalize rowsL r.size (leadF r.size (chR r.size L) (dg r)) = rl at *
    generalize strOf r.size (endF r.size (chR r.size L) (dg r)) = te at *
    clear hok hL hg hgr hrow hstr
    generalize L.length = m at *
    go_enter Try.func50, Try.ntmps50
    go_wp2_with (first | (refine wpList_load_row rfl 26 _ rfl _ rfl 26 _ _ _ (HR0.out) Try.underlying26 rfl (by kernel_rfl) ?_) | fail)
    refine (HG.out _ (HT.out.kept HB0.out)).mono ?_
    rintro e w1 ⟨rfl, hb1⟩
    have HB1 := Lib.hid (HB0.out.trans (hb1.mono HB0.out.size))
    have HR1 := Lib.hid (HR0.out.kept hb1)
    clear hb1 HG HB0 HR0
    go_wp2_with fail
    refine (HRW.out _).mono ?_
    rintro e w2 ⟨rfl, hb2⟩
    have HB2 := Lib.hid (HB1.out.trans (hb2.mono HB1.out.size))
    have HR2 := Lib.hid (HR1.out.kept hb2)
    have c1 := HR2.out.cell 1 rfl
    have c2 := HR2.out.cell 2 rfl
    clear hb2 HB1 HR1 HRW
    go_wp2_with fail
    refine (HLD.out _ (HT.out.kept HB2.out)).mono ?_
    rintro e w3 ⟨v3, rfl, hn3, hb3⟩
    have HB3 := Lib.hid (HB2.out.trans (hb3.mono HB2.out.size))
    have HN3 := Lib.hid (hn3.lower HB2.out.size)
    clear hn3 hb3
    go_wp2
    go_ret2
    exact ⟨_, rfl, HN3.out, HB3.out⟩
  · have hno : leadB s n L r = false := by simpa using hok
    have hL : leadL s n L r = [] := by unfold leadL; rw [if_neg hok]
    rw [hL, hno]
    clear hL hok
    have hcase : goodM s n L = false ∨ (goodM s n L = true ∧ goodB r = false) ∨ (goodM s n L = true ∧ goodB r = true ∧ ¬ (r.size : Int) = n) := by
      unfold leadB at hno
      cases h1 : goodM s n L
      · exact .inl rfl
      · cases h2 : goodB r
        · exact .inr (.inl ⟨rfl, rfl⟩)
        · rw [h1, h2] at hno
          exact .inr (.inr ⟨rfl, rfl, by simpa using hno⟩)
    clear hno
    generalize goodM s n L = gm at *
    generalize goodB r = gb at *
    generalize L.length = m at *
    go_enter Try.func50, Try.ntmps50
    go_wp2_with (first | (refine wpList_load_row rfl 26 _ rfl _ rfl 26 _ _ _ (HR0.out) Try.underlying26 rfl (by kernel_rfl) ?_) | fail)
    refine (HG.out _ (HT.out.kept HB0.out)).mono ?_
    rintro e w1 ⟨rfl, hb1⟩
    have HB1 := Lib.hid (HB0.out.trans (hb1.mono HB0.out.size))
    have HR1 := Lib.hid (HR0.out.kept hb1)
    clear hb1 HG HB0 HR0
    rcases hcase with rfl | ⟨rfl, rfl⟩ | ⟨rfl, rfl, hne⟩
    · go_wp2
      go_ret2
      exact ⟨_, rfl, New.nil _ _ _, HB1.out⟩
    · go_wp2_with fail
      refine (HRW.out _).mono ?_
      rintro e w2 ⟨rfl, hb2⟩
      have HB2 := Lib.hid (HB1.out.trans (hb2.mono HB1.out.size))
      clear hb2
      go_wp2
      go_ret2
      exact ⟨_, rfl, New.nil _ _ _, HB2.out⟩
    · have hne' : ((r.size : Int) == n) = false := by rw [beq_eq_false_iff_ne]; exact hne
      go_wp2_with fail
      refine (HRW.out _).mono ?_
      rintro e w2 ⟨rfl, hb2⟩
      have HB2 := Lib.hid (HB1.out.trans (hb2.mono HB1.out.size))
      have HR2 := Lib.hid (HR1.out.kept hb2)
      have c1 := HR2.out.cell 1 rfl
      clear hb2
      go_wp2
      go_ret2
      exact ⟨_, rfl, New.nil _ _ _, HB2.out⟩
end Go.Proofs.Ytfocnflnpabmkaa
