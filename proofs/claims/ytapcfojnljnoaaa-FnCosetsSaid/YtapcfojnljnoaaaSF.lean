/- A row times each row of a list, in the model; the law LeftTimes. -/
import Derived.Test.YtapcfojnljnoaaaSE
namespace Go.Proofs.Ytapcfojnljnoaaa
open Go.RowKit
set_option linter.unusedSimpArgs false
set_option linter.unusedVariables false

theorem strs_rows {n : Nat} {L : List (List Nat)} (h : rowsB n L = true) : strs (rowsL n (rF L)) = strs L := by
  unfold strs rowsL rF
  rw [List.map_map, List.map_map]
  refine List.map_congr_left fun l hl => ?_
  obtain ⟨h1, h2⟩ := rowsB_mem h hl
  have := (str_dg (n := n) h1 (by omega)).2
  simp only [Function.comp]
  rw [txt_rowL, ← this]
theorem Txts.rows {n : Nat} {L : List (List Nat)} {W : World} {v : Value} (h : Txts W v L) (hb : rowsB n L = true) : Txts W v (rowsL n (rF L)) := by
  have hs := strs_rows hb
  have hl : (rowsL n (rF L)).length = L.length := by rw [rowsL_len, rF_len]
  obtain ⟨a, cap, rfl, hcap, ha⟩ := h
  rw [← hl] at hcap ha ⊢
  refine ⟨a, cap, rfl, hcap, fun h0 => ?_⟩
  obtain ⟨g, off, e, hg, hc⟩ := ha h0
  refine ⟨g, off, e, hg, fun j hj => ?_⟩
  rw [hc j hj]
  have h1 := strs_at L j (by omega)
  have h2 := strs_at (rowsL n (rF L)) j hj
  rw [hs, h1] at h2
  exact h2

set_option maxRecDepth 100000 in
set_option maxHeartbeats 1000000 in
theorem l6Left_any (n : Nat) (f : Nat → Nat) (hf : IsRow n f) (v : Value) (fs : List (Nat → Nat)) (hc : Rows n fs) (hl : fs.length ≤ 1000) (w : World) (h : Txts w v (rowsL n fs)) :
    Calls Try.prog 56 #[.string (strOf n f), v] w (TextsOut (rowsL n (fs.map (mulR n f))) w) := by
  obtain ⟨m, hm⟩ : ∃ m, fs.length = m := ⟨_, rfl⟩
  obtain ⟨a, cap, rfl, hcap, ha⟩ := h
  rw [rowsL_len, hm] at ha ⊢
  rw [hm] at hl
  have hl' : (m : Int) ≤ 1000 := by omega
  have hc2 : 0 < m → ∃ g off, a = some ⟨g, off, none⟩ ∧ g < w.heap.size ∧ ∀ j (hj : j < fs.length), w.cell? ⟨g, off + j, none⟩ = some (.string (strOf n fs[j])) := fun h0 => by
    obtain ⟨g, off, e, hg, hcc⟩ := ha h0
    refine ⟨g, off, e, hg, fun j hj => ?_⟩
    rw [hcc j (by rw [← hm]; exact hj), rowsL, List.getD_eq_getElem?_getD, List.getElem?_map, List.getElem?_eq_getElem hj, Option.map_some, Option.getD_some, txt_rowL]
  have HA := Lib.hid hc2
  have HM := Lib.hid hm
  have HF := Lib.hid hf
  have HC := Lib.hid hc
  generalize hres : fs.map (mulR n f) = res
  have HRES := Lib.hid hres
  obtain ⟨i0, hi0, hz0, hz1, hz2⟩ := info_parts infoText
  have I0 := Lib.hid (⟨hi0, hz0, hz1, hz2⟩ : _ ∧ _ ∧ _ ∧ _)
  have HTM := Lib.hid (fun g w (hg : IsRow n g) => l1Times_any n f g (strOf n f) (strOf n g) (isStr_row hf) (isStr_row hg) hf.eight (fun i hi => ⟨hg.lo i hi, hg.hi i hi⟩) w)
  clear ha hm hcap hf hc hres hi0 hz0 hz1 hz2 hc2
  generalize strOf n f = sf at *
  go_enter Try.func56, Try.ntmps56
  go_wp2
  go_loopg [5, 10] m (fun q o i wr => ∃ (j : Nat) (A : List (Nat → Nat)) (u : Value), q + j = m ∧ o = u ∧ i = .int .i64 j ∧ A.length = j ∧ A ++ (fs.drop j).map (mulR n f) = res ∧ New w.heap.size wr 9 u (strs (rowsL n A)) ∧ Below w.heap.size w wr)
  case atStart => exact ⟨0, [], _, by omega, rfl, rfl, rfl, HRES.out, New.nil _ _ _, Below.refl _ _⟩
  case round =>
    clear HRES
    obtain ⟨j, A, u, hq, rfl, rfl, hA, hr, hn, hb⟩ := hrel
    have HAL := Lib.hid hA
    have HRR := Lib.hid hr
    have HN := Lib.hid hn
    have HB := Lib.hid hb
    obtain ⟨ua, uc, rfl, -⟩ := hn.own.view
    clear hA hr hn hb
    by_cases hlt : j < m
    · obtain ⟨q', rfl⟩ : ∃ q', gk = q' + 1 := ⟨gk - 1, by omega⟩
      obtain ⟨gb, off, rfl, hgb, hc⟩ := HA.out (by omega)
      have hjx : j < fs.length := by rw [HM.out]; exact hlt
      have c1 := (HB.out.cell (p := ⟨gb, off + j, none⟩) hgb).trans (hc j hjx)
      have hr := HRR.out
      rw [List.drop_eq_getElem_cons hjx] at hr
      have hrow := HC.out _ (List.getElem_mem hjx)
      generalize fs[j] = x at *
      have HR2 := Lib.hid (show (A ++ [mulR n f x]) ++ (fs.drop (j + 1)).map (mulR n f) = res from by rw [← hr]; simp)
      have hji : (j : Int) < m := by omega
      have HTX : Hid (∀ w, Calls _ _ #[.string sf, .string (strOf n x)] w _) := Lib.hid (fun w => HTM.out x w hrow)
      have hmul : strOf n (mulF f x) = txt (rowL n (mulR n f x)) := by rw [strOf_mul, txt_rowL]
      have hA1 : A.length ≤ 100000 := by have := HAL.out; omega
      generalize strOf n x = sx at *
      rw [hmul] at HTX
      generalize mulR n f x = y at *
      clear hc hr HRR hrow hmul
      go_wp2_with fail
      refine (HTX.out _).mono ?_
      rintro e w5 ⟨rfl, rfl⟩
      clear HTX
      go_wp2_with (at_builtin; refine wpList_app1 rfl (.tmp 14) (.tmp 18) 22 rfl 9 i0 (.string ⟨#[]⟩) 16 Try.underlying22 I0.out.1 I0.out.2.1 I0.out.2.2.1 I0.out.2.2.2 rfl w.heap.size w _ (strs (rowsL n A)) rfl HN.out rfl rfl HB.out.size HB.out (by rw [strs_len, rowsL_len]; exact hA1) (by omega) ?_)
      intro v7 w7 hn7 _ hb7 _
      rw [strs_snoc, show rowsL n A ++ [rowL n y] = rowsL n (A ++ [y]) by simp [rowsL]] at hn7
      have HN7 := Lib.hid hn7
      have HB7 := Lib.hid hb7
      obtain ⟨ua7, uc7, rfl, -⟩ := hn7.own.view
      clear hn7 hb7 HN HB
      go_wp2
      go_roundg q'
      case measure => omega
      case rel => exact ⟨j + 1, A ++ [y], _, by omega, rfl, by go_num, by rw [List.length_append, HAL.out]; rfl, HR2.out, HN7.out, HB7.out⟩
    · obtain rfl : gk = 0 := by omega
      obtain rfl : j = m := by omega
      have hr := HRR.out
      rw [List.drop_eq_nil_of_le (by rw [HM.out]; exact Nat.le_refl _)] at hr
      have hr : A = res := by rw [← hr]; simp
      subst hr
      clear HRR
      go_wp2
      go_ret
      exact ⟨_, rfl, HN.out, HB.out⟩

/-- a list of one stage, by a stage -/
theorem listB_left {s : ByteArray} {L : List (List Nat)} : (listB L && !(decide (0 < L.length) && !decide (firstN L = s.size))) = rowsB s.size L := by
  cases L with
  | nil => simp [listB, rowsB]
  | cons x t =>
    have h1 : listB (x :: t) = rowsB x.length (x :: t) := rfl
    have h2 : firstN (x :: t) = x.length := rfl
    rw [h1, h2]
    by_cases hx : x.length = s.size
    · simp [hx]
    · rw [decide_eq_false hx]
      have : rowsB s.size (x :: t) = false := by
        have : rowB s.size x = false := by simp [rowB]; intro _; omega
        simp [rowsB, this]
      rw [this]; simp

set_option maxRecDepth 100000 in
set_option maxHeartbeats 1000000 in
theorem sLeftTimes_any (s : ByteArray) (hs : s.size ≤ maxLen) (v : Value) (L : List (List Nat)) (w : World) (h : Txts w v L) (hl : L.length ≤ 2000000) (hsm : ∀ l ∈ L, l.length ≤ maxLen) :
    Calls Try.prog 23 #[.string s, v] w (TextsAny (if leftB s L = true then leftL s L else []) (leftB s L) w) := by
  have HR := Lib.hid (fun w => l1Row_any s hs w)
  have HG := (fun w (h : Txts w v L) => l6Rows_any v L w h hl hsm)
  have HT := h
  have HLF := (fun (h1 : goodB s = true) (h2 : rowsB s.size L = true) (w : World) (h : Txts w v L) => by
    have := l6Left_any s.size (dg s) (goodB_row h1) v (rF L) (rowsB_rows h2) (by rw [rF_len]; have := rowsB_len h2; omega) w (h.rows h2)
    rw [← strOf_of_isStr (isStr_dg s)] at this
    exact this)
  have hlb : leftB s L = (goodB s && rowsB s.size L) := rfl
  have hcomb := listB_left (s := s) (L := L)
  have hres : rowsL s.size ((rF L).map (mulR s.size (dg s))) = leftL s L := rfl
  unfold TextsAny TextsOut at *
  rw [hres] at HLF
  generalize leftL s L = res at *
  rw [hlb]
  clear hlb hres
  obtain ⟨m, hm⟩ : ∃ m, L.length = m := ⟨_, rfl⟩
  obtain ⟨a, cap, rfl, hcap, ha⟩ := h
  have h0 : 0 < m → ∃ g off, a = some ⟨g, off, none⟩ ∧ g < w.heap.size ∧ w.cell? ⟨g, off, none⟩ = some (.string (txt (L.getD 0 []))) := fun hp => by
    obtain ⟨g, off, e, hg, hc⟩ := ha (by rw [hm]; exact hp)
    exact ⟨g, off, e, hg, by simpa using hc 0 (by rw [hm]; exact hp)⟩
  have hyz : (txt (L.getD 0 [])).size = firstN L := by rw [txt_size]; rfl
  rw [hm] at ha hl hcomb HT HLF HG ⊢
  have HT := Lib.hid HT
  have HG := Lib.hid HG
  have HLF := Lib.hid HLF
  have H0 := Lib.hid h0
  have HYZ := Lib.hid hyz
  clear ha h0 hcap hm hyz hsm
  generalize firstN L = z at *
  generalize L.getD 0 [] = y at *
  generalize goodB s = b1 at *
  generalize listB L = b2 at *
  generalize hb3 : rowsB s.size L = b3 at *
  have hmi : (m : Int) ≤ 2000000 := by omega
  cases b1
  · clear hcomb
    go_enter Try.func23, Try.ntmps23
    go_wp2_with fail
    refine (HR.out _).mono ?_
    rintro e w1 ⟨rfl, hb1⟩
    go_wp2
    go_ret2
    exact ⟨_, rfl, New.nil _ _ _, hb1⟩
  · cases b2
    · have hb3f : b3 = false := by rw [← hcomb]; rfl
      subst hb3f
      clear hcomb
      go_enter Try.func23, Try.ntmps23
      go_wp2_with fail
      refine (HR.out _).mono ?_
      rintro e w1 ⟨rfl, hb1⟩
      have HB1 := Lib.hid hb1
      have HT1 := Lib.hid (HT.out.kept hb1)
      clear hb1
      go_wp2_with fail
      refine (HG.out _ HT1.out).mono ?_
      rintro e w2 ⟨rfl, hb2⟩
      have HB2 := Lib.hid (HB1.out.trans (hb2.mono HB1.out.size))
      clear hb2
      go_wp2
      go_ret2
      exact ⟨_, rfl, New.nil _ _ _, HB2.out⟩
    · by_cases hm0 : 0 < m
      · obtain ⟨g, off, rfl, hg, hc0⟩ := H0.out hm0
        have hmp : (0 : Int) < m := by omega
        have HC0 := Lib.hid hc0
        rw [decide_eq_true hm0] at hcomb
        clear hc0 H0
        by_cases hzz : z = s.size
        · have hb3f : b3 = true := by rw [← hcomb, decide_eq_true hzz]; rfl
          subst hb3f
          have hne : (((z : Nat) : Int) != (s.size : Int)) = false := by rw [hzz]; simp
          clear hcomb
          go_enter Try.func23, Try.ntmps23
          go_wp2_with fail
          refine (HR.out _).mono ?_
          rintro e w1 ⟨rfl, hb1⟩
          have HB1 := Lib.hid hb1
          have HT1 := Lib.hid (HT.out.kept hb1)
          clear hb1
          go_wp2_with fail
          refine (HG.out _ HT1.out).mono ?_
          rintro e w2 ⟨rfl, hb2⟩
          have HB2 := Lib.hid (HB1.out.trans (hb2.mono HB1.out.size))
          have HT2 := Lib.hid (HT1.out.kept hb2)
          have c0 := (HB2.out.cell (p := ⟨g, off, none⟩) hg).trans HC0.out
          have hyz := HYZ.out
          clear hb2 HB1 HT1 HYZ
          go_wp2_with fail
          refine (HLF.out trivial trivial _ HT2.out).mono ?_
          rintro e w3 ⟨v3, rfl, hn3, hb3'⟩
          have HB3 := Lib.hid (HB2.out.trans (hb3'.mono HB2.out.size))
          have HN3 := Lib.hid (hn3.lower HB2.out.size)
          clear hn3 hb3'
          go_wp2
          go_ret2
          exact ⟨_, rfl, HN3.out, HB3.out⟩
        · have hb3f : b3 = false := by rw [← hcomb, decide_eq_false hzz]; rfl
          subst hb3f
          have hne : (((z : Nat) : Int) != (s.size : Int)) = true := by simpa using (by omega : ¬ (z : Int) = s.size)
          clear hcomb
          go_enter Try.func23, Try.ntmps23
          go_wp2_with fail
          refine (HR.out _).mono ?_
          rintro e w1 ⟨rfl, hb1⟩
          have HB1 := Lib.hid hb1
          have HT1 := Lib.hid (HT.out.kept hb1)
          clear hb1
          go_wp2_with fail
          refine (HG.out _ HT1.out).mono ?_
          rintro e w2 ⟨rfl, hb2⟩
          have HB2 := Lib.hid (HB1.out.trans (hb2.mono HB1.out.size))
          have c0 := (HB2.out.cell (p := ⟨g, off, none⟩) hg).trans HC0.out
          have hyz := HYZ.out
          clear hb2 HB1 HT1 HYZ
          go_wp2
          go_ret2
          exact ⟨_, rfl, New.nil _ _ _, HB2.out⟩
      · obtain rfl : m = 0 := by omega
        have hb3f : b3 = true := by rw [← hcomb]; rfl
        subst hb3f
        clear hcomb H0
        go_enter Try.func23, Try.ntmps23
        go_wp2_with fail
        refine (HR.out _).mono ?_
        rintro e w1 ⟨rfl, hb1⟩
        have HB1 := Lib.hid hb1
        have HT1 := Lib.hid (HT.out.kept hb1)
        clear hb1
        go_wp2_with fail
        refine (HG.out _ HT1.out).mono ?_
        rintro e w2 ⟨rfl, hb2⟩
        have HB2 := Lib.hid (HB1.out.trans (hb2.mono HB1.out.size))
        have HT2 := Lib.hid (HT1.out.kept hb2)
        clear hb2 HB1 HT1 HYZ
        go_wp2_with fail
        refine (HLF.out trivial trivial _ HT2.out).mono ?_
        rintro e w3 ⟨v3, rfl, hn3, hb3'⟩
        have HB3 := Lib.hid (HB2.out.trans (hb3'.mono HB2.out.size))
        have HN3 := Lib.hid (hn3.lower HB2.out.size)
        clear hn3 hb3'
        go_wp2
        go_ret2
        exact ⟨_, rfl, HN3.out, HB3.out⟩

theorem bothLeftTimes (s : ByteArray) (L : List (List Nat)) (hs : s.size ≤ maxLen) (hl : L.length ≤ 2000000) (hsm : ∀ l ∈ L, l.length ≤ maxLen) :
    ∃ P b, P.length ≤ 1000 ∧ (∀ u w, Txts w u L → Calls Try.prog 24 #[.string s, u] w (TextsAny P b w)) ∧ (∀ u w, Txts w u L → Calls Try.prog 23 #[.string s, u] w (TextsAny P b w)) := by
  refine ⟨if leftB s L = true then leftL s L else [], leftB s L, ?_, fun u w h => iLeftTimes_any s hs u L w h hl hsm, fun u w h => sLeftTimes_any s hs u L w h hl hsm⟩
  split
  · rename_i hb
    rw [leftL_len]
    unfold leftB at hb
    rw [Bool.and_eq_true] at hb
    have := rowsB_len hb.2
    omega
  · simp

set_option maxRecDepth 100000 in
set_option maxHeartbeats 1000000 in
theorem lawLeftTimes (s0 : ByteArray) (v1 : Value) (ss1 : List ByteArray) (W : World) (hz0 : s0.size ≤ maxLen) (hA1 : Arg W v1 ss1) (hy1 : ss1.length ≤ maxLen ∧ ∀ s ∈ ss1, s.size ≤ maxLen) :
    Calls Try.prog 5 #[.string s0, v1] W fun e w' => e = .returned (.bool true) ∧ Below W.heap.size W w' := by
  by_cases hbig0 : (1048576 : Int) < s0.size
  · clear hy1
    go_enter Try.func5, Try.ntmps5
    go_wp2
    go_ret
    exact ⟨rfl, Below.refl _ _⟩
  have hsz0 : s0.size ≤ 1048576 := by omega
  have hz1 : ∀ w, Arg w v1 ss1 → (0 : Int) ≤ 1048576 → (1048576 : Int) ≤ 1048576 → Calls _ _ _ w _ := fun w h h0 h1 => szStringS_any v1 ss1 w h hy1.1 hy1.2 (1048576) h0 h1
  have hlen1 := szAll_len (ss := ss1) (left := 1048576)
  have hsm1 := letss_small (ss := ss1) (left := 1048576)
  have hle1 := szAll_left (ss := ss1) (left := 1048576)
  generalize hzz1 : szAll ss1 1048576 = z1 at *
  by_cases hneg1 : z1 < 0
  · clear hlen1 hsm1 hle1
    go_enter Try.func5, Try.ntmps5
    go_wp2_with fail
    refine (hz1 _ hA1 (by omega) (by omega)).mono ?_
    rintro e w0 ⟨rfl, rfl⟩
    go_wp2
    go_ret
    exact ⟨rfl, Below.refl _ _⟩
  have hn1 := hlen1 (by omega)
  have hsm1 := hsm1 (by omega) (by omega)
  have hle1 := hle1 (by omega)
  have hss1 : ss1.length ≤ 1048576 := by omega
  have HS1 : Hid (∀ w, Arg w v1 ss1 → Calls Try.prog 16 #[v1] w _) := Lib.hid (fun w h => toStringS_any v1 ss1 w h (by omega))
  have HZ1 := Lib.hid hz1
  have hll1 := letss_len ss1
  generalize letss ss1 = L1 at *
  have hL1 : L1.length ≤ 1048576 := by omega
  have HA1 := Lib.hid hA1
  have hsm0 : s0.size ≤ maxLen := by unfold maxLen; omega
  obtain ⟨P, b, hPL, hI, hM⟩ := bothLeftTimes s0 L1 hsm0 (by omega) hsm1
  have HI := Lib.hid hI
  have HM := Lib.hid hM
  clear hI hM hz1 hlen1 hy1 hll1 hA1 hsm1 hsm0
  obtain ⟨q1, hq1⟩ : ∃ n, L1.length = n := ⟨_, rfl⟩
  rw [hq1] at hL1
  have HQ1 := Lib.hid hq1
  clear hq1
  have hqi1 : (q1 : Int) ≤ 1048576 := by omega
  obtain ⟨m, hm⟩ : ∃ m, P.length = m := ⟨_, rfl⟩
  rw [hm] at hPL
  have HMM := Lib.hid hm
  clear hm
  have hmi : (m : Int) ≤ 1000 := by omega
  cases b
  all_goals
    go_enter Try.func5, Try.ntmps5
    go_wp2_with fail
    refine (HZ1.out _ HA1.out (by omega) (by omega)).mono ?_
    rintro e w0 ⟨rfl, rfl⟩
    clear HZ1
    go_wp2_with fail
    refine (HS1.out _ HA1.out).mono ?_
    rintro e w1 ⟨va1, rfl, hn1, hb1⟩
    have B1 := Lib.hid hb1
    have Ta1_1 := Lib.hid hn1
    clear hn1 hb1
    go_wp2_with fail
    refine (HM.out va1 _ Ta1_1.out.own.txts).mono ?_
    rintro e w2 ⟨v2, rfl, hn2, hb2⟩
    have B2 := Lib.hid (B1.out.trans (hb2.mono B1.out.size))
    have Ta1_2 := Lib.hid (Ta1_1.out.kept hb2)
    have R_2 := Lib.hid hn2.own
    clear hn2 hb2 B1 Ta1_1
    clear Ta1_2
    have BB := B2
    clear B2
    have R0 := R_2
    go_wp2_with fail
    refine (HS1.out _ (HA1.out.kept BB.out)).mono ?_
    rintro e w3 ⟨vx1, rfl, hn3, hb3⟩
    have B3 := Lib.hid hb3
    have R_3 := Lib.hid (R_2.out.kept hb3)
    have Tx1_3 := Lib.hid hn3
    clear hn3 hb3 R_2
    have SZX := Lib.hid B3.out.size
    go_wp2_with fail
    refine (HI.out vx1 _ Tx1_3.out.own.txts).mono ?_
    rintro e w4 ⟨v4, rfl, hn4, hb4⟩
    have AP1 : Hid (∀ g, v4.ownBlock = some g → vx1.ownBlock ≠ some g) := Lib.hid (fun g hg h3 => by
      have h1 := hn4.base g hg
      have h2 := Tx1_3.out.own.lt g h3
      omega)
    have SZ4 := Lib.hid hb4.size
    have B4 := Lib.hid (B3.out.trans (hb4.mono B3.out.size))
    have R_4 := Lib.hid (R_3.out.kept hb4)
    have Tx1_4 := Lib.hid (Tx1_3.out.kept hb4)
    have G_4 := Lib.hid hn4
    clear hn4 hb4 B3 R_3 Tx1_3
    go_wp2_with fail
    refine (eqStringS_same v4 v2 P _ G_4.out.own R_4.out (by rw [HMM.out]; omega)).mono ?_
    rintro e w5 ⟨rfl, d5, hd5⟩
    have B5 : Hid (Below w2.heap.size w2 w5) := by rw [hd5]; exact below_drewN B4.out _
    have R_5 := Lib.hid (R_4.out.drewN d5)
    rw [← hd5] at R_5
    have Tx1_5 := Lib.hid (Tx1_4.out.drewN d5)
    rw [← hd5] at Tx1_5
    have G_5 := Lib.hid (G_4.out.drewN d5)
    rw [← hd5] at G_5
    have SZ5 : Hid (w3.heap.size ≤ w5.heap.size) := by rw [hd5]; exact SZ4.out
    clear hd5 SZ4 B4 R_4 Tx1_4 G_4
    go_wp2_with fail
    refine (HS1.out _ (HA1.out.kept (BB.out.trans (B5.out.mono BB.out.size)))).mono ?_
    rintro e w6 ⟨vy1, rfl, hn6, hb6⟩
    have B6 := Lib.hid (B5.out.trans (hb6.mono B5.out.size))
    have R_6 := Lib.hid (R_5.out.kept hb6)
    have Tx1_6 := Lib.hid (Tx1_5.out.kept hb6)
    have G_6 := Lib.hid (G_5.out.kept hb6)
    have Ty_6 := Lib.hid hn6.own
    have SZ6 := Lib.hid (Nat.le_trans SZ5.out hb6.size)
    clear hn6 hb6 B5 SZ5 R_5 Tx1_5 G_5
    go_wp2_with fail
    refine (eqStringS_same vx1 vy1 L1 _ Tx1_6.out.own Ty_6.out (by rw [HQ1.out]; omega)).mono ?_
    rintro e w7 ⟨rfl, d7, hd7⟩
    have B7 : Hid (Below w2.heap.size w2 w7) := by rw [hd7]; exact below_drewN B6.out _
    have R_7 := Lib.hid (R_6.out.drewN d7)
    rw [← hd7] at R_7
    have Tx1_7 := Lib.hid (Tx1_6.out.drewN d7)
    rw [← hd7] at Tx1_7
    have G_7 := Lib.hid (G_6.out.drewN d7)
    rw [← hd7] at G_7
    have Ty_7 := Lib.hid (Ty_6.out.drewN d7)
    rw [← hd7] at Ty_7
    have SZ7 : Hid (w3.heap.size ≤ w7.heap.size) := by rw [hd7]; exact SZ6.out
    clear hd7 SZ6 B6 R_6 Tx1_6 G_6 Ty_6
    clear Ty_7
    go_wp2_with fail
    refine (markStringS_full w2.heap.size vx1 L1 1 _ Tx1_7.out B7.out.size (by rw [HQ1.out]; omega) (by omega) (by omega)).mono ?_
    rintro e w8 ⟨rfl, _, hb8, hk8⟩
    have B8 := Lib.hid (B7.out.trans hb8)
    have R_8 := Lib.hid (R_7.out.under R0.out.lt hb8)
    have G_8 : Hid (New w3.heap.size w8 9 v4 (strs P)) := Lib.hid ⟨G_7.out.own.besides hk8 AP1.out, G_7.out.base⟩
    have SZ8 := Lib.hid (Nat.le_trans SZ7.out hb8.size)
    rw [HQ1.out]
    clear hb8 hk8 B7 SZ7 R_7 G_7 Tx1_7
    have hnn : ¬ ((1 : Int) + (q1 : Nat) < 0) := by omega
    go_wp2_with fail
    refine (eqStringS_same v4 v2 P _ G_8.out.own R_8.out (by rw [HMM.out]; omega)).mono ?_
    rintro e w9 ⟨rfl, d9, hd9⟩
    have B9 : Hid (Below w2.heap.size w2 w9) := by rw [hd9]; exact below_drewN B8.out _
    have R_9 := Lib.hid (R_8.out.drewN d9)
    rw [← hd9] at R_9
    have G_9 := Lib.hid (G_8.out.drewN d9)
    rw [← hd9] at G_9
    have SZ9 : Hid (w3.heap.size ≤ w9.heap.size) := by rw [hd9]; exact SZ8.out
    clear hd9 SZ8 B8 R_8 G_8
    go_wp2_with fail
    refine (markStringS_full w3.heap.size v4 P 1 _ G_9.out SZ9.out (by rw [HMM.out]; omega) (by omega) (by omega)).mono ?_
    rintro e w10 ⟨rfl, hn10, hb10, _⟩
    rw [HMM.out] at hn10
    have B10 := Lib.hid (B9.out.trans (hb10.mono SZX.out))
    have R_10 := Lib.hid (R_9.out.under (fun g hg => Nat.lt_of_lt_of_le (R0.out.lt g hg) SZX.out) hb10)
    have G_10 := Lib.hid hn10
    rw [HMM.out]
    clear hn10 hb10 B9 R_9 G_9
    go_wp2_with fail
    refine (heldStringS_any v4 m 1 _ G_10.out.own (by omega) (by omega) (by omega)).mono ?_
    rintro e w11 ⟨rfl, hb11⟩
    have B11 := Lib.hid (B10.out.trans (hb11.mono B10.out.size))
    have R_11 := Lib.hid (R_10.out.kept hb11)
    have G_11 := Lib.hid (G_10.out.kept hb11)
    clear hb11 B10 R_10 G_10
    have hmm : ¬ ((1 : Int) + (m : Nat) < 0) := by omega
    go_wp2_with fail
    refine (HS1.out _ (HA1.out.kept (BB.out.trans (B11.out.mono BB.out.size)))).mono ?_
    rintro e w12 ⟨vh1, rfl, hn12, hb12⟩
    have B12 := Lib.hid (B11.out.trans (hb12.mono B11.out.size))
    have R_12 := Lib.hid (R_11.out.kept hb12)
    have G_12 := Lib.hid (G_11.out.kept hb12)
    have Th1_12 := Lib.hid hn12
    clear hn12 hb12 B11 R_11 G_11
    go_wp2_with fail
    refine (HI.out vh1 _ Th1_12.out.own.txts).mono ?_
    rintro e w13 ⟨v13, rfl, hn13, hb13⟩
    have B13 := Lib.hid (B12.out.trans (hb13.mono B12.out.size))
    have R_13 := Lib.hid (R_12.out.kept hb13)
    have G_13 := Lib.hid (G_12.out.kept hb13)
    have Th1_13 := Lib.hid (Th1_12.out.kept hb13)
    have H_13 := Lib.hid hn13.own
    clear hn13 hb13 B12 R_12 G_12 Th1_12
    clear Th1_13
    go_wp2_with fail
    refine (eqStringS_same v13 v2 P _ H_13.out R_13.out (by rw [HMM.out]; omega)).mono ?_
    rintro e w14 ⟨rfl, d14, hd14⟩
    have B14 : Hid (Below w2.heap.size w2 w14) := by rw [hd14]; exact below_drewN B13.out _
    have G_14 : Hid (New w3.heap.size w14 9 v4 (strs (smarks 1 m))) := by rw [hd14]; exact G_13.out.drewN _
    clear hd14 B13 R_13 G_13 H_13
    go_wp2_with fail
    refine (heldStringS_any v4 m 1 _ G_14.out.own (by omega) (by omega) (by omega)).mono ?_
    rintro e w15 ⟨rfl, hb15⟩
    have B15 := Lib.hid (B14.out.trans (hb15.mono B14.out.size))
    have G_15 := Lib.hid (G_14.out.kept hb15)
    clear hb15 B14 G_14
    go_wp2
    go_ret
    exact ⟨rfl, BB.out.trans (B15.out.mono BB.out.size)⟩
end Go.Proofs.Ytapcfojnljnoaaa
