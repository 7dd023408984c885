/- ChangeRow in the program and in the model, and the law on it. -/
import Derived.Test.YtkeighlcdnfjcaaB5
import Derived.Test.YtkeighlcdnfjcaaQ3
namespace Go.Proofs.Ytkeighlcdnfjcaa
open Go.RowKit

theorem isStr_rnds (n : Nat) (h8 : n ≤ 8) : IsStr n (rdf n) (rnds n) := by
  have e : rnds n = strOf n (rdf n) := strOf_congr (f := fun i => 49 + i) (g := rdf n) fun i hi => by simp [rdf, hi]
  rw [e]
  exact isStr_strOf n _ fun i hi => by simp only [rdf, hi, if_true]; omega

set_option maxRecDepth 100000 in
set_option maxHeartbeats 1000000 in
theorem l2Row_any (n : Nat) (s : ByteArray) (hs : s.size ≤ maxLen) (hg : goodL n (lets s) = true) (w : World) :
    Calls Try.prog 57 #[.int .i64 n, .string s] w fun e w' => e = .returned (.string (strOf n (cf n (lets s)))) ∧ Below w.heap.size w w' := by
  have h3 := goodL_three hg
  have h8 := goodL_eight hg
  have h3' : (3 : Int) ≤ n := by omega
  have h8' : (n : Int) ≤ 8 := by omega
  have hrd := (chs_roads n h3 h8 _ (mem_chs hg)).1
  generalize hres : mR n (lets s) n 1 (rdf n) = res at hrd
  have hstr : strOf n (cf n (lets s)) = strOf n res := strOf_congr fun i hi => (to8_at hrd i (by omega)).symm
  rw [hstr]
  clear hstr hrd hg
  have HS := Lib.hid hs
  have HRES := Lib.hid hres
  clear hs hres
  obtain ⟨cap, W1, hconv, hbytes, hbel⟩ := bytes_made (rnds n) w
  have hsz : (rnds n).size = n := by simp [rnds, ByteArray.size]
  have hdg : ∀ i, i < n → dg (rnds n) i = rdf n i := fun i hi => by
    have := (isStr_rnds n h8).2 i (by rw [hsz]; exact hi)
    simp only [dg, hsz, hi, dif_pos]
    exact this
  rw [hsz] at hconv hbytes
  have HY := Lib.hid (show BytesAt W1 w.heap.size n (rdf n) from ⟨hbytes.lt, fun i hi => by rw [← hdg i hi]; exact hbytes.cell i hi, hbytes.free⟩)
  have HB := Lib.hid hbel
  clear hbytes hbel hdg
  go_enter Try.func57, Try.ntmps57
  go_wp2_with (first | (go_at_call 79; refine (l1Rounds_any n h8 _).mono ?_; rintro e w' ⟨rfl, rfl⟩))
  clear hconv
  go_loopg [6] n (fun q i wr => ∃ (p : Nat) (h : Nat → Nat), n ≤ q + (p + 1) ∧ i = .int .i64 ((p : Int) + 1) ∧ p ≤ n ∧ mR n (lets s) q (p + 1) h = res ∧ BytesAt wr w.heap.size n h ∧ Below w.heap.size w wr)
  case atStart => exact ⟨0, rdf n, by omega, rfl, Nat.zero_le _, HRES.out, HY.out, HB.out⟩
  case round =>
    clear HY HB HRES
    obtain ⟨p, h, hq, rfl, hpn, hm, hY, hbel⟩ := hrel
    have HM := Lib.hid hm
    have HY := Lib.hid hY
    have HB := Lib.hid hbel
    clear hm hY hbel
    by_cases hlt : p + 1 < n
    · obtain ⟨q, rfl⟩ : ∃ q, gk = q + 1 := ⟨gk - 1, by omega⟩
      have hm := HM.out
      unfold mR at hm
      rw [if_pos hlt] at hm
      have hpi : (p : Int) + 1 < n := by omega
      cases hst : (lets s).contains (48 + (p + 1))
      · rw [hst] at hm
        have HM2 := Lib.hid hm
        have HST := Lib.hid hst
        clear hm HM hst
        have c1 := HY.out.cell p (by omega)
        have c2 := HY.out.cell (p + 1) hlt
        have f1 := HY.out.free p (by omega)
        have f2 := HY.out.free (p + 1) hlt
        go_wp2_with fail
        refine (l2Stays_any s HS.out (p + 1) _).mono ?_
        rintro e w' ⟨rfl, rfl⟩
        rw [HST.out]
        go_wp2
        go_roundg q
        case measure => omega
        case rel =>
          refine ⟨p + 2, setF (setF h p (49 + (p + 1))) (p + 1) (48 + (p + 1)), by omega, by go_num, by omega, HM2.out, ?_, (HB.out.setCell (by simp) _).setCell (by simp) _⟩
          rw [show (49 + ((p : Int) + 1)) = ((49 + (p + 1) : Nat) : Int) by omega, show (48 + ((p : Int) + 1)) = ((48 + (p + 1) : Nat) : Int) by omega]
          exact (HY.out.set p (49 + (p + 1)) (by omega)).set (p + 1) (48 + (p + 1)) hlt
      · rw [hst] at hm
        have HM2 := Lib.hid hm
        have HST := Lib.hid hst
        clear hm HM hst
        go_wp2_with fail
        refine (l2Stays_any s HS.out (p + 1) _).mono ?_
        rintro e w' ⟨rfl, rfl⟩
        rw [HST.out]
        go_wp2
        go_roundg q
        case measure => omega
        case rel => exact ⟨p + 1, h, by omega, by go_num, by omega, HM2.out, HY.out, HB.out⟩
    · have hpi : ¬ (p : Int) + 1 < n := by omega
      have hm := HM.out
      rw [mR_end n _ _ _ _ hlt] at hm
      subst hm
      have hconv := conv_dig wr w.heap.size n cap _ HY.out.cell
      go_wp2
      go_ret
      exact ⟨rfl, HB.out⟩

set_option maxRecDepth 100000 in
set_option maxHeartbeats 1000000 in
theorem sChangeRow_no (n : Int) (s : ByteArray) (hs : s.size ≤ maxLen) (hg : goodC n s = false) (w : World) :
    Calls Try.prog 22 #[.int .i64 n, .string s] w fun e w' => e = .returned (.tuple #[.string ⟨#[]⟩, .bool false]) ∧ w = w' := by
  go_enter Try.func22, Try.ntmps22
  go_wp2_with fail
  refine (l2Change_any n s hs _).mono ?_
  rintro e w1 ⟨rfl, rfl⟩
  rw [hg]
  go_wp2
  go_ret2
  exact ⟨rfl, rfl⟩

set_option maxRecDepth 100000 in
set_option maxHeartbeats 1000000 in
theorem sChangeRow_yes (n : Nat) (s : ByteArray) (hs : s.size ≤ maxLen) (hg : goodL n (lets s) = true) (w : World) :
    Calls Try.prog 22 #[.int .i64 n, .string s] w fun e w' => e = .returned (.tuple #[.string (strOf n (cf n (lets s))), .bool true]) ∧ Below w.heap.size w w' := by
  have HG := Lib.hid hg
  have HC := Lib.hid (show goodC n s = true by rw [goodC_in]; exact hg)
  clear hg
  go_enter Try.func22, Try.ntmps22
  go_wp2_with fail
  refine (l2Change_any n s hs _).mono ?_
  rintro e w1 ⟨rfl, rfl⟩
  rw [HC.out]
  go_wp2_with fail
  refine (l2Row_any n s hs HG.out _).mono ?_
  rintro e w1 ⟨rfl, hb1⟩
  go_wp2
  go_ret2
  exact ⟨rfl, hb1⟩

set_option maxRecDepth 100000 in
set_option maxHeartbeats 1000000 in
theorem iChangeRow_no (n : Int) (s : ByteArray) (hg : goodC n s = false) (w : World) :
    Calls Try.prog 21 #[.int .i64 n, .string s] w fun e w' => e = .returned (.tuple #[.string ⟨#[]⟩, .bool false]) ∧ Below w.heap.size w w' := by
  go_enter Try.func21, Try.ntmps21
  go_wp2_with fail
  refine (changeDigits_no n s hg _).mono ?_
  rintro e w1 ⟨rfl, hb1⟩
  go_wp2_with (refine wpList_store_row rfl 56 _ _ rfl _ _ rfl rfl 56 _ (heap_at _ _ _ (by simp)) (by kernel_rfl) rfl (by kernel_rfl) ?_; rw [setRow_at _ _ _ _ _ (by simp)])
  go_ret2
  exact ⟨rfl, hb1.alloc hb1.size _⟩

set_option maxRecDepth 100000 in
set_option maxHeartbeats 1000000 in
theorem iChangeRow_yes (n : Nat) (s : ByteArray) (hg : goodL n (lets s) = true) (w : World) :
    Calls Try.prog 21 #[.int .i64 n, .string s] w fun e w' => e = .returned (.tuple #[.string (strOf n (cf n (lets s))), .bool true]) ∧ Below w.heap.size w w' := by
  have HF := Lib.hid (isRow_cf hg)
  have HG := Lib.hid hg
  clear hg
  go_enter Try.func21, Try.ntmps21
  go_wp2_with fail
  refine (changeDigits_yes n s HG.out _).mono ?_
  rintro e w1 ⟨rfl, hb1⟩
  have HB1 := Lib.hid hb1
  clear hb1
  go_wp2_with (first | (refine wpList_store_row rfl 56 _ _ rfl _ _ rfl rfl 56 _ (heap_at _ _ _ (by simp)) (by kernel_rfl) rfl (by kernel_rfl) ?_; rw [setRow_at _ _ _ _ _ (by simp)]) | (refine wpList_load_row rfl 56 _ rfl _ rfl 56 _ _ _ (heap_at _ _ _ (by simp)) Try.underlying56 rfl (by kernel_rfl) ?_) | fail)
  refine (row_any n _ (isDig_of HF.out) _).mono ?_
  rintro e w2 ⟨rfl, hb2⟩
  go_wp2
  go_ret2
  exact ⟨rfl, (HB1.out.alloc HB1.out.size _).trans (hb2.mono (by simp; have := HB1.out.size; omega))⟩

set_option maxRecDepth 100000 in
set_option maxHeartbeats 1000000 in
theorem lawChangeRow (n : Int) (s : ByteArray) (w : World) (hs : s.size ≤ maxLen) :
    Calls Try.prog 6 #[.int .i64 n, .string s] w fun e w' => e = .returned (.bool true) ∧ Below w.heap.size w w' := by
  by_cases hbig : 1048576 < s.size
  · have hbig' : (1048576 : Int) < s.size := by omega
    go_enter Try.func6, Try.ntmps6
    go_wp2
    go_ret
    exact ⟨rfl, Below.refl _ _⟩
  · have hbig' : (s.size : Int) ≤ 1048576 := by omega
    cases h : goodC n s
    · have H := Lib.hid h
      clear h
      go_enter Try.func6, Try.ntmps6
      go_wp2_with fail
      refine (sChangeRow_no n s hs H.out _).mono ?_
      rintro e w1 ⟨rfl, rfl⟩
      go_wp2_with fail
      refine (iChangeRow_no n s H.out _).mono ?_
      rintro e w2 ⟨rfl, hb2⟩
      go_wp2
      go_ret
      exact ⟨rfl, hb2⟩
    · obtain ⟨m, rfl, hg⟩ := goodC_stage h
      have H := Lib.hid hg
      clear h hg
      go_enter Try.func6, Try.ntmps6
      go_wp2_with fail
      refine (sChangeRow_yes m s hs H.out _).mono ?_
      rintro e w1 ⟨rfl, hb1⟩
      go_wp2_with fail
      refine (iChangeRow_yes m s H.out _).mono ?_
      rintro e w2 ⟨rfl, hb2⟩
      go_wp2
      go_ret
      exact ⟨rfl, hb1.trans (hb2.mono hb1.size)⟩
end Go.Proofs.Ytkeighlcdnfjcaa
