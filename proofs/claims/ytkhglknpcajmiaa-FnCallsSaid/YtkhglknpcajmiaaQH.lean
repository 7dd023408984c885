/- MovedBells in the program and in the model. -/
import Derived.Test.YtkhglknpcajmiaaQG
import Derived.Test.YtkhglknpcajmiaaQF
import Derived.Test.YtkhglknpcajmiaaDA
namespace Go.Proofs.Ytkhglknpcajmiaa
open Go.RowKit
set_option linter.unusedSimpArgs false
set_option linter.unusedVariables false

/-- the bells that a row moves -/
def movd (n : Nat) (f : Nat → Nat) : List Nat := ((List.range n).filter fun i => !(f i == 49 + i)).map (· + 1)
theorem movd_len (n : Nat) (f : Nat → Nat) : (movd n f).length ≤ n := by
  unfold movd
  rw [List.length_map]
  refine Nat.le_trans (List.length_filter_le _ _) ?_
  simp
def movR (f : Nat → Nat) (i k : Nat) : List Nat := ((List.range' i k).filter fun i => !(f i == 49 + i)).map (· + 1)
theorem movR_all (n : Nat) (f : Nat → Nat) : movR f 0 n = movd n f := by unfold movR movd; rw [List.range_eq_range']
theorem movR_yes {f : Nat → Nat} {i k : Nat} (h : (f i == 49 + i) = false) : movR f i (k + 1) = (i + 1) :: movR f (i + 1) k := by
  unfold movR
  rw [List.range'_succ, List.filter_cons_of_pos (by simp [h])]
  rfl
theorem movR_no {f : Nat → Nat} {i k : Nat} (h : (f i == 49 + i) = true) : movR f i (k + 1) = movR f (i + 1) k := by
  unfold movR
  rw [List.range'_succ, List.filter_cons_of_neg (by simp [h])]


set_option maxRecDepth 100000 in
set_option maxHeartbeats 1000000 in
theorem iMovedBells_no (s : ByteArray) (hs : s.size ≤ maxLen) (n : Int) (v : Value) (L : List (List Nat)) (b q r : ByteArray) (w : World) (h : Txts w v L) (hl : L.length ≤ 2000000) (hk : askK s n L b q r = false) :
    Calls Try.prog 25 #[.agg #[.string s, .int .i64 n, v], .agg #[.string b, .string q], .string r] w (NumsAny [] false w) := by
  obtain ⟨a, cap, rfl, hcap, -⟩ := id h
  have HT := Lib.hid h
  have HR0 := Lib.hid ((RowAt.new w 25 #[.string s, .int .i64 n, .slice a L.length cap]).push (.cells #[.string b, .string q] 27))
  have HK0 : Hid (RowAt ((w.alloc (.cells #[.string s, .int .i64 n, .slice a L.length cap] 25)).alloc (.cells #[.string b, .string q] 27)) (w.heap.size + 1) 27 #[.string b, .string q]) := Lib.hid (by
    have := RowAt.new (w.alloc (.cells #[.string s, .int .i64 n, .slice a L.length cap] 25)) 27 #[.string b, .string q]
    simpa using this)
  have HB0 := Lib.hid (((Below.refl _ w).alloc (Nat.le_refl _) (.cells #[.string s, .int .i64 n, .slice a L.length cap] 25)).alloc (by simp) (.cells #[.string b, .string q] 27))
  have HC := Lib.hid (fun w h => callEffect_no s hs n (.slice a L.length cap) L b q r w h hl hk)
  clear h hcap hl hk hs
  generalize L.length = m at *
  simp only [zero8] at HC
  go_enter Try.func25, Try.ntmps25
  go_wp2_with (first | (refine wpList_load_row rfl 25 _ rfl _ rfl 25 _ _ _ (HR0.out) Try.underlying25 rfl (by kernel_rfl) ?_) | (refine wpList_load_row rfl 27 _ rfl _ rfl 27 _ _ _ (HK0.out) Try.underlying27 rfl (by kernel_rfl) ?_) | fail)
  refine (HC.out _ (HT.out.kept HB0.out)).mono ?_
  rintro e w1 ⟨rfl, hb1⟩
  have HB1 := Lib.hid (HB0.out.trans (hb1.mono HB0.out.size))
  clear hb1 HR0 HK0 HB0 HC HT
  go_wp2_with (first | (refine wpList_store_row rfl 87 _ _ rfl _ _ rfl rfl 87 _ (heap_at _ _ _ (by simp)) (by kernel_rfl) rfl (by kernel_rfl) ?_; rw [setRow_at _ _ _ _ _ (by simp)]) | fail)
  go_ret2
  exact ⟨_, rfl, New.nil _ _ _, HB1.out.alloc HB1.out.size _⟩

set_option maxRecDepth 100000 in
set_option maxHeartbeats 1000000 in
theorem iMovedBells_yes (s : ByteArray) (hs : s.size ≤ maxLen) (n : Nat) (v : Value) (L : List (List Nat)) (b q r : ByteArray) (w : World) (h : Txts w v L) (hl : L.length ≤ 2000000) (hg : goodK s n L b q = true) (hk : kB r = true) :
    Calls Try.prog 25 #[.agg #[.string s, .int .i64 n, v], .agg #[.string b, .string q], .string r] w (NumsAny (movd n (efK n L b q (kN r))) true w) := by
  obtain ⟨a, cap, rfl, hcap, -⟩ := id h
  have HT := Lib.hid h
  have HR0 := Lib.hid ((RowAt.new w 25 #[.string s, .int .i64 n, .slice a L.length cap]).push (.cells #[.string b, .string q] 27))
  have HK0 : Hid (RowAt ((w.alloc (.cells #[.string s, .int .i64 n, .slice a L.length cap] 25)).alloc (.cells #[.string b, .string q] 27)) (w.heap.size + 1) 27 #[.string b, .string q]) := Lib.hid (by
    have := RowAt.new (w.alloc (.cells #[.string s, .int .i64 n, .slice a L.length cap] 25)) 27 #[.string b, .string q]
    simpa using this)
  have HB0 := Lib.hid (((Below.refl _ w).alloc (Nat.le_refl _) (.cells #[.string s, .int .i64 n, .slice a L.length cap] 25)).alloc (by simp) (.cells #[.string b, .string q] 27))
  have HC := Lib.hid (fun w h => callEffect_yes s hs n (.slice a L.length cap) L b q r w h hl hg hk)
  have hrw := isRow_efK hg (kN r)
  generalize efK n L b q (kN r) = f at *
  have h8 : n ≤ 8 := hrw.eight
  have HF := Lib.hid hrw
  have hlen := movd_len n f
  obtain ⟨i0, hi0, hz0, hz1, hz2⟩ := info_parts infoInt
  have I0 := Lib.hid (⟨hi0, hz0, hz1, hz2⟩ : _ ∧ _ ∧ _ ∧ _)
  have hall := movR_all n f
  generalize movd n f = res at *
  have HALL := Lib.hid hall
  clear hrw hall hi0 hz0 hz1 hz2 h hcap hg hk hl hs
  generalize L.length = m at *
  go_enter Try.func25, Try.ntmps25
  go_wp2_with (first | (refine wpList_load_row rfl 25 _ rfl _ rfl 25 _ _ _ (HR0.out) Try.underlying25 rfl (by kernel_rfl) ?_) | (refine wpList_load_row rfl 27 _ rfl _ rfl 27 _ _ _ (HK0.out) Try.underlying27 rfl (by kernel_rfl) ?_) | fail)
  refine (HC.out _ (HT.out.kept HB0.out)).mono ?_
  rintro e w1 ⟨rfl, hb1⟩
  have HB1 := Lib.hid (HB0.out.trans (hb1.mono HB0.out.size))
  have HR2 := Lib.hid ((HR0.out.kept hb1).push (.cells (dig8 f) 87))
  have HX2 := Lib.hid (RowAt.new w1 87 (dig8 f))
  have HB2 := Lib.hid (HB1.out.alloc HB1.out.size (.cells (dig8 f) 87))
  clear hb1 HR0 HK0 HB0 HC HT HB1
  go_wp2_with (first | (refine wpList_store_row rfl 87 _ _ rfl _ _ rfl rfl 87 _ (heap_at _ _ _ (by simp)) (by kernel_rfl) rfl (by kernel_rfl) ?_; rw [setRow_at _ _ _ _ _ (by simp)]) | fail)
  go_loopg [10, 11] n (fun q' bl x wr => ∃ (i : Nat) (acc : List Nat), q' + i = n ∧ x = .int .i64 ((i : Int) + 1) ∧ New w.heap.size wr 3 bl (nums acc) ∧ acc ++ movR f i q' = res ∧ acc.length ≤ 8 ∧ RowAt wr w.heap.size 25 #[.string s, .int .i64 n, .slice a m cap] ∧ RowAt wr w1.heap.size 87 (dig8 f) ∧ Below w.heap.size w wr)
  case atStart => exact ⟨0, [], by omega, rfl, New.nil _ _ _, by simpa using HALL.out, by simp, HR2.out, HX2.out, HB2.out⟩
  case round =>
    clear HR2 HX2 HB2 HALL
    obtain ⟨i, acc, hq, rfl, hn, hacc, hal, hr, hx, hb⟩ := hrel
    have HN := Lib.hid hn
    have HACC := Lib.hid hacc
    have HR := Lib.hid hr
    have HX := Lib.hid hx
    have c1 := hr.cell 1 rfl
    clear hr hx
    have HB := Lib.hid hb
    obtain ⟨a9, c9, hv9, -⟩ := hn.own.view
    rw [nums_len] at hv9
    subst hv9
    clear hn hacc hb
    by_cases hlt : i < n
    · obtain ⟨q', rfl⟩ : ∃ q', gk = q' + 1 := ⟨gk - 1, by omega⟩
      have hli : (i : Int) + 1 ≤ n := by omega
      go_wp2_with (first | (refine wpList_load_row rfl 87 _ rfl _ rfl 87 _ _ _ (HX.out) Try.underlying87 rfl (by kernel_rfl) ?_) | fail)
      refine (isHome_any f i (by omega) (by have := HF.out.lo i hlt; omega) (by have := HF.out.hi i hlt; omega) _ rfl _).mono ?_
      rintro e w2 ⟨rfl, hb2⟩
      have HR3 := Lib.hid (HR.out.kept hb2)
      have HX3 := Lib.hid (HX.out.kept hb2)
      have HB3 := Lib.hid (HB.out.trans (hb2.mono HB.out.size))
      have HN3 := Lib.hid (HN.out.kept hb2)
      clear hb2 HR HX HB HN c1
      cases hh : (f i == 49 + i)
      · have hacc := HACC.out
        rw [movR_yes hh] at hacc
        have hle : (acc ++ ((i + 1) :: movR f (i + 1) q')).length ≤ 8 := by rw [hacc]; omega
        simp only [List.length_append, List.length_cons] at hle
        have hacc2 : (acc ++ [i + 1]) ++ movR f (i + 1) q' = res := by rw [← hacc]; simp
        have HACC2 := Lib.hid hacc2
        clear hh hacc hacc2 HACC
        go_wp2_with (at_builtin; refine wpList_app1 rfl (.tmp 31) (.tmp 33) 36 rfl 3 i0 (.int .i64 0) 8 Try.underlying36 I0.out.1 I0.out.2.1 I0.out.2.2.1 I0.out.2.2.2 rfl w.heap.size w _ (nums acc) rfl HN3.out rfl rfl HB3.out.size HB3.out (by rw [nums_len]; omega) (by omega) ?_)
        intro v4 w4 hn4 hk4 hb4 _
        have e4 : nums acc ++ [.int .i64 ((i : Int) + 1)] = nums (acc ++ [i + 1]) := nums_snoc acc (i + 1)
        rw [e4] at hn4
        have HN4 := Lib.hid hn4
        have HB4 := Lib.hid hb4
        have HR4 := Lib.hid (hk4.row HR3.out (HN3.out.apartRow HR3.out (by decide)))
        have HX4 := Lib.hid (hk4.row HX3.out (HN3.out.apartRow HX3.out (by decide)))
        clear hn4 hk4 hb4 HN3 HB3 HR3 HX3
        go_wp2
        go_roundg q'
        case measure => omega
        case rel => exact ⟨i + 1, acc ++ [i + 1], by omega, by go_num, HN4.out, HACC2.out, by simp; omega, HR4.out, HX4.out, HB4.out⟩
      · have hacc := HACC.out
        rw [movR_no hh] at hacc
        have HACC2 := Lib.hid hacc
        clear hh hacc HACC
        go_wp2
        go_roundg q'
        case measure => omega
        case rel => exact ⟨i + 1, acc, by omega, by go_num, HN3.out, HACC2.out, hal, HR3.out, HX3.out, HB3.out⟩
    · obtain rfl : gk = 0 := by omega
      obtain rfl : i = n := by omega
      have hli : ¬ ((i : Int) + 1 ≤ i) := by omega
      have hacc := HACC.out
      have e0 : movR f i 0 = [] := rfl
      rw [e0, List.append_nil] at hacc
      subst hacc
      go_wp2
      go_ret2
      exact ⟨_, rfl, HN.out, HB.out⟩

set_option maxRecDepth 100000 in
set_option maxHeartbeats 1000000 in
theorem sMovedBells_no (s : ByteArray) (hs : s.size ≤ maxLen) (n : Int) (v : Value) (L : List (List Nat)) (b q r : ByteArray) (hb : b.size ≤ maxLen) (hq : q.size ≤ maxLen) (w : World) (h : Txts w v L) (hl : L.length ≤ 2000000) (hsm : Small L) (hk : askK s n L b q r = false) :
    Calls Try.prog 26 #[.agg #[.string s, .int .i64 n, v], .agg #[.string b, .string q], .string r] w (NumsAny [] false w) := by
  obtain ⟨a, cap, rfl, hcap, -⟩ := id h
  have HT := Lib.hid h
  have HR0 := Lib.hid ((RowAt.new w 25 #[.string s, .int .i64 n, .slice a L.length cap]).push (.cells #[.string b, .string q] 27))
  have HK0 : Hid (RowAt ((w.alloc (.cells #[.string s, .int .i64 n, .slice a L.length cap] 25)).alloc (.cells #[.string b, .string q] 27)) (w.heap.size + 1) 27 #[.string b, .string q]) := Lib.hid (by
    have := RowAt.new (w.alloc (.cells #[.string s, .int .i64 n, .slice a L.length cap] 25)) 27 #[.string b, .string q]
    simpa using this)
  have HB0 := Lib.hid (((Below.refl _ w).alloc (Nat.le_refl _) (.cells #[.string s, .int .i64 n, .slice a L.length cap] 25)).alloc (by simp) (.cells #[.string b, .string q] 27))
  have HA := Lib.hid (fun w h => l8Asked_any s hs n (.slice a L.length cap) L b q r hb hq w h hl hsm)
  rw [hk] at HA
  clear h hcap hl hsm hb hq hk hs
  generalize L.length = m at *
  go_enter Try.func26, Try.ntmps26
  go_wp2_with (first | (refine wpList_load_row rfl 25 _ rfl _ rfl 25 _ _ _ (HR0.out) Try.underlying25 rfl (by kernel_rfl) ?_) | (refine wpList_load_row rfl 27 _ rfl _ rfl 27 _ _ _ (HK0.out) Try.underlying27 rfl (by kernel_rfl) ?_) | fail)
  refine (HA.out _ (HT.out.kept HB0.out)).mono ?_
  rintro e w1 ⟨rfl, hb1⟩
  have HR1 := Lib.hid (HR0.out.kept hb1)
  have HK1 := Lib.hid (HK0.out.kept hb1)
  have HB1 := Lib.hid (HB0.out.trans (hb1.mono HB0.out.size))
  clear hb1 HR0 HK0 HB0
  go_wp2
  go_ret2
  exact ⟨_, rfl, New.nil _ _ _, HB1.out⟩

set_option maxRecDepth 100000 in
set_option maxHeartbeats 1000000 in
theorem sMovedBells_yes (s : ByteArray) (hs : s.size ≤ maxLen) (n : Nat) (v : Value) (L : List (List Nat)) (b q r : ByteArray) (hb : b.size ≤ maxLen) (hq : q.size ≤ maxLen) (w : World) (h : Txts w v L) (hl : L.length ≤ 2000000) (hsm : Small L) (hg : goodK s n L b q = true) (hk : kB r = true) :
    Calls Try.prog 26 #[.agg #[.string s, .int .i64 n, v], .agg #[.string b, .string q], .string r] w (NumsAny (movd n (efK n L b q (kN r))) true w) := by
  obtain ⟨a, cap, rfl, hcap, -⟩ := id h
  have HT := Lib.hid h
  have HR0 := Lib.hid ((RowAt.new w 25 #[.string s, .int .i64 n, .slice a L.length cap]).push (.cells #[.string b, .string q] 27))
  have HK0 : Hid (RowAt ((w.alloc (.cells #[.string s, .int .i64 n, .slice a L.length cap] 25)).alloc (.cells #[.string b, .string q] 27)) (w.heap.size + 1) 27 #[.string b, .string q]) := Lib.hid (by
    have := RowAt.new (w.alloc (.cells #[.string s, .int .i64 n, .slice a L.length cap] 25)) 27 #[.string b, .string q]
    simpa using this)
  have HB0 := Lib.hid (((Below.refl _ w).alloc (Nat.le_refl _) (.cells #[.string s, .int .i64 n, .slice a L.length cap] 25)).alloc (by simp) (.cells #[.string b, .string q] 27))
  have HA := Lib.hid (fun w h => l8Asked_any s hs n (.slice a L.length cap) L b q r hb hq w h hl hsm)
  rw [show askK s n L b q r = true by unfold askK; rw [hg, hk]; rfl] at HA
  have HH := Lib.hid (fun w h => l8Row_any s n (.slice a L.length cap) L b q r hg hk w h)
  have hrw := isRow_efK hg (kN r)
  generalize efK n L b q (kN r) = f at *
  have h8 : n ≤ 8 := hrw.eight
  have HF := Lib.hid hrw
  have hlen := movd_len n f
  obtain ⟨i0, hi0, hz0, hz1, hz2⟩ := info_parts infoInt
  have I0 := Lib.hid (⟨hi0, hz0, hz1, hz2⟩ : _ ∧ _ ∧ _ ∧ _)
  have hall := movR_all n f
  generalize movd n f = res at *
  have HALL := Lib.hid hall
  have HAT := Lib.hid (fun p h1 h2 h48 w => l1At_any n f (strOf n f) (isStr_row hrw) p h1 h2 h8 h48 w)
  have hsz := strOf_size n f
  generalize strOf n f = th at *
  clear hrw hall hi0 hz0 hz1 hz2 h hcap hg hk hl hs hsm hb hq
  generalize L.length = m at *
  go_enter Try.func26, Try.ntmps26
  go_wp2_with (first | (refine wpList_load_row rfl 25 _ rfl _ rfl 25 _ _ _ (HR0.out) Try.underlying25 rfl (by kernel_rfl) ?_) | (refine wpList_load_row rfl 27 _ rfl _ rfl 27 _ _ _ (HK0.out) Try.underlying27 rfl (by kernel_rfl) ?_) | fail)
  refine (HA.out _ (HT.out.kept HB0.out)).mono ?_
  rintro e w1 ⟨rfl, hb1⟩
  have HR1 := Lib.hid (HR0.out.kept hb1)
  have HK1 := Lib.hid (HK0.out.kept hb1)
  have HB1 := Lib.hid (HB0.out.trans (hb1.mono HB0.out.size))
  clear hb1 HR0 HK0 HB0
  go_wp2_with (first | (refine wpList_load_row rfl 25 _ rfl _ rfl 25 _ _ _ (HR1.out) Try.underlying25 rfl (by kernel_rfl) ?_) | (refine wpList_load_row rfl 27 _ rfl _ rfl 27 _ _ _ (HK1.out) Try.underlying27 rfl (by kernel_rfl) ?_) | fail)
  refine (HH.out _ (HT.out.kept HB1.out)).mono ?_
  rintro e w2 ⟨rfl, hb2⟩
  have HR2 := Lib.hid (HR1.out.kept hb2)
  have HK2 := Lib.hid (HK1.out.kept hb2)
  have HB2 := Lib.hid (HB1.out.trans (hb2.mono HB1.out.size))
  clear hb2 HR1 HK1 HB1
  clear HR2 HK2 HH HT HA
  go_wp2
  go_loopg [9, 10] n (fun q' bl x wr => ∃ (i : Nat) (acc : List Nat), q' + i = n ∧ x = .int .i64 ((i : Int) + 1) ∧ New w.heap.size wr 3 bl (nums acc) ∧ acc ++ movR f i q' = res ∧ acc.length ≤ 8 ∧ Below w.heap.size w wr)
  case atStart => exact ⟨0, [], by omega, rfl, New.nil _ _ _, by simpa using HALL.out, by simp, HB2.out⟩
  case round =>
    clear HB2 HALL
    obtain ⟨i, acc, hq, rfl, hn, hacc, hal, hb⟩ := hrel
    have HN := Lib.hid hn
    have HACC := Lib.hid hacc
    have HB := Lib.hid hb
    obtain ⟨a9, c9, hv9, -⟩ := hn.own.view
    rw [nums_len] at hv9
    subst hv9
    clear hn hacc hb
    by_cases hlt : i < n
    · obtain ⟨q', rfl⟩ : ∃ q', gk = q' + 1 := ⟨gk - 1, by omega⟩
      have hli : (i : Int) + 1 ≤ n := by omega
      have hii : ((i : Int) + 1).toNat - 1 = i := by omega
      have hlo := HF.out.lo i hlt
      have hhi := HF.out.hi i hlt
      have HAT2 := Lib.hid (HAT.out ((i : Int) + 1) (by omega) hli (by rw [hii]; omega))
      rw [hii] at HAT2
      cases hh : (f i == 49 + i)
      · have hacc := HACC.out
        rw [movR_yes hh] at hacc
        have hle : (acc ++ ((i + 1) :: movR f (i + 1) q')).length ≤ 8 := by rw [hacc]; omega
        simp only [List.length_append, List.length_cons] at hle
        have hacc2 : (acc ++ [i + 1]) ++ movR f (i + 1) q' = res := by rw [← hacc]; simp
        have HACC2 := Lib.hid hacc2
        have hne : ¬ ((f i : Int) - 48 = (i : Int) + 1) := by
          intro he
          have : f i = 49 + i := by omega
          rw [this] at hh
          simp at hh
        clear hh hacc hacc2 HACC
        go_wp2_with (first | (go_at_call 93; refine (HAT2.out _).mono ?_; rintro e w2 ⟨rfl, rfl⟩) | (at_builtin; refine wpList_app1 rfl (.tmp 31) (.tmp 33) 36 rfl 3 i0 (.int .i64 0) 8 Try.underlying36 I0.out.1 I0.out.2.1 I0.out.2.2.1 I0.out.2.2.2 rfl w.heap.size w _ (nums acc) rfl HN.out rfl rfl HB.out.size HB.out (by rw [nums_len]; omega) (by omega) ?_) | fail)
        intro v4 w4 hn4 hk4 hb4 _
        have e4 : nums acc ++ [.int .i64 ((i : Int) + 1)] = nums (acc ++ [i + 1]) := nums_snoc acc (i + 1)
        rw [e4] at hn4
        have HN4 := Lib.hid hn4
        have HB4 := Lib.hid hb4
        clear hn4 hk4 hb4 HN HB
        go_wp2
        go_roundg q'
        case measure => omega
        case rel => exact ⟨i + 1, acc ++ [i + 1], by omega, by go_num, HN4.out, HACC2.out, by simp; omega, HB4.out⟩
      · have hacc := HACC.out
        rw [movR_no hh] at hacc
        have HACC2 := Lib.hid hacc
        have hne : (f i : Int) - 48 = (i : Int) + 1 := by
          have : f i = 49 + i := by simpa using hh
          omega
        rw [hne] at HAT2
        clear hh hacc HACC hne
        go_wp2_with (first | (go_at_call 93; refine (HAT2.out _).mono ?_; rintro e w2 ⟨rfl, rfl⟩) | fail)
        go_roundg q'
        case measure => omega
        case rel => exact ⟨i + 1, acc, by omega, by go_num, HN.out, HACC2.out, hal, HB.out⟩
    · obtain rfl : gk = 0 := by omega
      obtain rfl : i = n := by omega
      have hli : ¬ ((i : Int) + 1 ≤ i) := by omega
      have hacc := HACC.out
      have e0 : movR f i 0 = [] := rfl
      rw [e0, List.append_nil] at hacc
      subst hacc
      go_wp2
      go_ret2
      exact ⟨_, rfl, HN.out, HB.out⟩

theorem bothMovedBells (s : ByteArray) (hs : s.size ≤ maxLen) (n : Int) (L : List (List Nat)) (hl : L.length ≤ 2000000) (hsm : Small L) (b q : ByteArray) (hb : b.size ≤ maxLen) (hq : q.size ≤ maxLen) (r : ByteArray) (hr : r.size ≤ maxLen) :
    ∃ (P : List Int) (f : Bool), P.length ≤ 1000 ∧ (∀ u w, Txts w u L → Calls Try.prog 25 #[.agg #[.string s, .int .i64 n, u], .agg #[.string b, .string q], .string r] w (IntsAny P f w)) ∧
      (∀ u w, Txts w u L → Calls Try.prog 26 #[.agg #[.string s, .int .i64 n, u], .agg #[.string b, .string q], .string r] w (IntsAny P f w)) := by
  cases hk : askK s n L b q r
  · exact ⟨([] : List Nat).map fun (k : Nat) => (k : Int), _, by simp, fun u w h => iMovedBells_no s hs n u L b q r w h hl hk, fun u w h => sMovedBells_no s hs n u L b q r hb hq w h hl hsm hk⟩
  · unfold askK at hk
    rw [Bool.and_eq_true] at hk
    obtain ⟨k, rfl⟩ := goodK_cast hk.1
    refine ⟨(movd k (efK k L b q (kN r))).map fun (k : Nat) => (k : Int), _, ?_, fun u w h => iMovedBells_yes s hs k u L b q r w h hl hk.1 hk.2, fun u w h => sMovedBells_yes s hs k u L b q r hb hq w h hl hsm hk.1 hk.2⟩
    have h9 := (isRow_efK hk.1 (kN r)).eight
    have := movd_len k (efK k L b q (kN r))
    simp
    omega
end Go.Proofs.Ytkhglknpcajmiaa
