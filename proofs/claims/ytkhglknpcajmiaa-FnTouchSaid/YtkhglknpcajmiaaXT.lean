/- TouchRows in the model; all four in both. -/
import Derived.Test.YtkhglknpcajmiaaXS
import Derived.Test.YtkhglknpcajmiaaXP
import Derived.Test.YtkhglknpcajmiaaDA
namespace Go.Proofs.Ytkhglknpcajmiaa
open Go.RowKit
set_option linter.unusedSimpArgs false
set_option linter.unusedVariables false

set_option maxRecDepth 100000 in
set_option maxHeartbeats 1000000 in
theorem sTouchRows_big (s : ByteArray) (hs : s.size ≤ maxLen) (n : Nat) (v : Value) (L : List (List Nat)) (b q t : ByteArray) (hb : b.size ≤ maxLen) (hq : q.size ≤ maxLen) (ht : t.size ≤ maxLen) (w : World) (h : Txts w v L) (hl : L.length ≤ 2000000) (hsm : Small L) (hg : goodK s n L b q = true) (hgt : goodT t = true) (hbig : 800 < t.size * L.length) :
    Calls Try.prog 45 #[.agg #[.string s, .int .i64 n, v], .agg #[.string b, .string q], .string t] w (TextsAny [] false w) := by
  obtain ⟨a, cap, rfl, hcap, -⟩ := id h
  have HT := Lib.hid h
  have HR0 := Lib.hid ((RowAt.new w 25 #[.string s, .int .i64 n, .slice a L.length cap]).push (.cells #[.string b, .string q] 27))
  have HK0 : Hid (RowAt ((w.alloc (.cells #[.string s, .int .i64 n, .slice a L.length cap] 25)).alloc (.cells #[.string b, .string q] 27)) (w.heap.size + 1) 27 #[.string b, .string q]) := Lib.hid (by
    have := RowAt.new (w.alloc (.cells #[.string s, .int .i64 n, .slice a L.length cap] 25)) 27 #[.string b, .string q]
    simpa using this)
  have HB0 := Lib.hid (((Below.refl _ w).alloc (Nat.le_refl _) (.cells #[.string s, .int .i64 n, .slice a L.length cap] 25)).alloc (by simp) (.cells #[.string b, .string q] 27))
  have HA := Lib.hid (fun w h => l9Asked_any s hs n (.slice a L.length cap) L b q t hb hq ht w h hl hsm)
  rw [show askT s n L b q t = true by unfold askT; rw [hg, hgt]; rfl] at HA
  unfold TextsAny
  have h60 := (goodT_parts hgt).2.1
  have h40 := (goodM_nat (goodK_parts hg).1).2.2.2.1
  rw [chR_len] at h40
  obtain ⟨x, hx⟩ : ∃ x, t.size * L.length = x := ⟨_, rfl⟩
  have hmul : (t.size : Int) * (L.length : Int) = (x : Int) := by rw [← hx]; exact (Int.natCast_mul t.size L.length).symm
  have hx2 : x ≤ 2400 := by rw [← hx]; exact Nat.mul_le_mul h60 h40
  have hxb : (800 : Int) < x := by omega
  have hwp : IntKind.i64.wrap (x : Int) = (x : Int) := IntWalk.i64_in _ (by omega)
  clear hx hx2 h60 h40 hbig
  clear h hcap hl hsm hb hq ht hg hgt hs
  generalize L.length = m at *
  go_enter Try.func45, Try.ntmps45
  go_wp2_with (first | (refine wpList_load_row rfl 25 _ rfl _ rfl 25 _ _ _ (HR0.out) Try.underlying25 rfl (by kernel_rfl) ?_) | (refine wpList_load_row rfl 27 _ rfl _ rfl 27 _ _ _ (HK0.out) Try.underlying27 rfl (by kernel_rfl) ?_) | fail)
  refine (HA.out _ (HT.out.kept HB0.out)).mono ?_
  rintro e w1 ⟨rfl, hb1⟩
  have HR1 := Lib.hid (HR0.out.kept hb1)
  have HK1 := Lib.hid (HK0.out.kept hb1)
  have HB1 := Lib.hid (HB0.out.trans (hb1.mono HB0.out.size))
  clear hb1 HR0 HK0 HB0 HA
  have c2 := HR1.out.cell 2 rfl
  go_wp2
  go_ret2
  exact ⟨_, rfl, New.nil _ _ _, HB1.out⟩

set_option maxRecDepth 100000 in
set_option maxHeartbeats 1000000 in
theorem sTouchRows_yes (s : ByteArray) (hs : s.size ≤ maxLen) (n : Nat) (v : Value) (L : List (List Nat)) (b q t : ByteArray) (hb : b.size ≤ maxLen) (hq : q.size ≤ maxLen) (ht : t.size ≤ maxLen) (w : World) (h : Txts w v L) (hl : L.length ≤ 2000000) (hsm : Small L) (hg : goodK s n L b q = true) (hgt : goodT t = true) (hbig : t.size * L.length ≤ 800) :
    Calls Try.prog 45 #[.agg #[.string s, .int .i64 n, v], .agg #[.string b, .string q], .string t] w (TextsAny (rowsL n (rowsT n (chR n L) (leadF n (turnsT n L b q t) (rdf n)))) true w) := by
  obtain ⟨a, cap, rfl, hcap, -⟩ := id h
  have HT := Lib.hid h
  have HR0 := Lib.hid ((RowAt.new w 25 #[.string s, .int .i64 n, .slice a L.length cap]).push (.cells #[.string b, .string q] 27))
  have HK0 : Hid (RowAt ((w.alloc (.cells #[.string s, .int .i64 n, .slice a L.length cap] 25)).alloc (.cells #[.string b, .string q] 27)) (w.heap.size + 1) 27 #[.string b, .string q]) := Lib.hid (by
    have := RowAt.new (w.alloc (.cells #[.string s, .int .i64 n, .slice a L.length cap] 25)) 27 #[.string b, .string q]
    simpa using this)
  have HB0 := Lib.hid (((Below.refl _ w).alloc (Nat.le_refl _) (.cells #[.string s, .int .i64 n, .slice a L.length cap] 25)).alloc (by simp) (.cells #[.string b, .string q] 27))
  have HA := Lib.hid (fun w h => l9Asked_any s hs n (.slice a L.length cap) L b q t hb hq ht w h hl hsm)
  rw [show askT s n L b q t = true by unfold askT; rw [hg, hgt]; rfl] at HA
  have HH := Lib.hid (fun w h => l9Rows_any s n (.slice a L.length cap) L b q t hg hgt hbig w h)
  unfold TextsOut at HH
  unfold TextsAny
  have h60 := (goodT_parts hgt).2.1
  have h40 := (goodM_nat (goodK_parts hg).1).2.2.2.1
  rw [chR_len] at h40
  obtain ⟨x, hx⟩ : ∃ x, t.size * L.length = x := ⟨_, rfl⟩
  have hmul : (t.size : Int) * (L.length : Int) = (x : Int) := by rw [← hx]; exact (Int.natCast_mul t.size L.length).symm
  have hx2 : x ≤ 2400 := by rw [← hx]; exact Nat.mul_le_mul h60 h40
  have hxb : ¬ (800 : Int) < x := by omega
  have hwp : IntKind.i64.wrap (x : Int) = (x : Int) := IntWalk.i64_in _ (by omega)
  clear hx hx2 h60 h40 hbig
  generalize rowsL n (rowsT n (chR n L) (leadF n (turnsT n L b q t) (rdf n))) = rl at *
  clear h hcap hl hsm hb hq ht hg hgt hs
  generalize L.length = m at *
  go_enter Try.func45, Try.ntmps45
  go_wp2_with (first | (refine wpList_load_row rfl 25 _ rfl _ rfl 25 _ _ _ (HR0.out) Try.underlying25 rfl (by kernel_rfl) ?_) | (refine wpList_load_row rfl 27 _ rfl _ rfl 27 _ _ _ (HK0.out) Try.underlying27 rfl (by kernel_rfl) ?_) | fail)
  refine (HA.out _ (HT.out.kept HB0.out)).mono ?_
  rintro e w1 ⟨rfl, hb1⟩
  have HR1 := Lib.hid (HR0.out.kept hb1)
  have HK1 := Lib.hid (HK0.out.kept hb1)
  have HB1 := Lib.hid (HB0.out.trans (hb1.mono HB0.out.size))
  clear hb1 HR0 HK0 HB0 HA
  have c2 := HR1.out.cell 2 rfl
  go_wp2_with (first | (refine wpList_load_row rfl 25 _ rfl _ rfl 25 _ _ _ (HR1.out) Try.underlying25 rfl (by kernel_rfl) ?_) | (refine wpList_load_row rfl 27 _ rfl _ rfl 27 _ _ _ (HK1.out) Try.underlying27 rfl (by kernel_rfl) ?_) | fail)
  refine (HH.out _ (HT.out.kept HB1.out)).mono ?_
  rintro e w2 ⟨v2, rfl, hn2, hb2⟩
  have HN2 := Lib.hid (hn2.lower HB1.out.size)
  have HB2 := Lib.hid (HB1.out.trans (hb2.mono HB1.out.size))
  clear hn2 hb2
  go_wp2
  go_ret2
  exact ⟨_, rfl, HN2.out, HB2.out⟩
theorem bothTouchHeads (s : ByteArray) (hs : s.size ≤ maxLen) (n : Int) (L : List (List Nat)) (hl : L.length ≤ 2000000) (hsm : Small L) (b q : ByteArray) (hb : b.size ≤ maxLen) (hq : q.size ≤ maxLen) (t : ByteArray) (ht : t.size ≤ maxLen) :
    ∃ (P : List (List Nat)) (f : Bool), P.length ≤ 1000 ∧ (∀ u w, Txts w u L → Calls Try.prog 42 #[.agg #[.string s, .int .i64 n, u], .agg #[.string b, .string q], .string t] w (TextsAny P f w)) ∧
      (∀ u w, Txts w u L → Calls Try.prog 43 #[.agg #[.string s, .int .i64 n, u], .agg #[.string b, .string q], .string t] w (TextsAny P f w)) := by
  cases hk : askT s n L b q t
  · exact ⟨[], false, by simp, fun u w h => iTouchHeads_no s hs n u L b q t ht w h hl hk, fun u w h => sTouchHeads_no s hs n u L b q t hb hq ht w h hl hsm hk⟩
  · unfold askT at hk
    rw [Bool.and_eq_true] at hk
    obtain ⟨hg, hgt⟩ := hk
    obtain ⟨k, rfl⟩ := goodK_cast hg
    refine ⟨_, true, ?_, fun u w h => iTouchHeads_yes s hs k u L b q t w h hl hg hgt, fun u w h => sTouchHeads_yes s hs k u L b q t hb hq ht w h hl hsm hg hgt⟩
    rw [rowsL_len, headsT_len]
    have := (goodT_parts hgt).2.1
    omega
theorem bothTouchEnd (s : ByteArray) (hs : s.size ≤ maxLen) (n : Int) (L : List (List Nat)) (hl : L.length ≤ 2000000) (hsm : Small L) (b q : ByteArray) (hb : b.size ≤ maxLen) (hq : q.size ≤ maxLen) (t : ByteArray) (ht : t.size ≤ maxLen) :
    ∃ (res : ByteArray) (flag : Bool), (∀ u w, Txts w u L → Calls Try.prog 46 #[.agg #[.string s, .int .i64 n, u], .agg #[.string b, .string q], .string t] w fun e w' => e = .returned (.tuple #[.string res, .bool flag]) ∧ Below w.heap.size w w') ∧
      (∀ u w, Txts w u L → Calls Try.prog 47 #[.agg #[.string s, .int .i64 n, u], .agg #[.string b, .string q], .string t] w fun e w' => e = .returned (.tuple #[.string res, .bool flag]) ∧ Below w.heap.size w w') := by
  cases hk : askT s n L b q t
  · exact ⟨⟨#[]⟩, false, fun u w h => iTouchEnd_no s hs n u L b q t ht w h hl hk, fun u w h => sTouchEnd_no s hs n u L b q t hb hq ht w h hl hsm hk⟩
  · unfold askT at hk
    rw [Bool.and_eq_true] at hk
    obtain ⟨hg, hgt⟩ := hk
    obtain ⟨k, rfl⟩ := goodK_cast hg
    exact ⟨_, true, fun u w h => iTouchEnd_yes s hs k u L b q t w h hl hg hgt, fun u w h => sTouchEnd_yes s hs k u L b q t hb hq ht w h hl hsm hg hgt⟩
theorem bothIsRound (s : ByteArray) (hs : s.size ≤ maxLen) (n : Int) (L : List (List Nat)) (hl : L.length ≤ 2000000) (hsm : Small L) (b q : ByteArray) (hb : b.size ≤ maxLen) (hq : q.size ≤ maxLen) (t : ByteArray) (ht : t.size ≤ maxLen) :
    ∃ (res : Bool) (flag : Bool), (∀ u w, Txts w u L → Calls Try.prog 48 #[.agg #[.string s, .int .i64 n, u], .agg #[.string b, .string q], .string t] w fun e w' => e = .returned (.tuple #[.bool res, .bool flag]) ∧ Below w.heap.size w w') ∧
      (∀ u w, Txts w u L → Calls Try.prog 49 #[.agg #[.string s, .int .i64 n, u], .agg #[.string b, .string q], .string t] w fun e w' => e = .returned (.tuple #[.bool res, .bool flag]) ∧ Below w.heap.size w w') := by
  cases hk : askT s n L b q t
  · exact ⟨false, false, fun u w h => iIsRound_no s hs n u L b q t ht w h hl hk, fun u w h => sIsRound_no s hs n u L b q t hb hq ht w h hl hsm hk⟩
  · unfold askT at hk
    rw [Bool.and_eq_true] at hk
    obtain ⟨hg, hgt⟩ := hk
    obtain ⟨k, rfl⟩ := goodK_cast hg
    exact ⟨_, true, fun u w h => iIsRound_yes s hs k u L b q t w h hl hg hgt, fun u w h => sIsRound_yes s hs k u L b q t hb hq ht w h hl hsm hg hgt⟩
theorem bothTouchRows (s : ByteArray) (hs : s.size ≤ maxLen) (n : Int) (L : List (List Nat)) (hl : L.length ≤ 2000000) (hsm : Small L) (b q : ByteArray) (hb : b.size ≤ maxLen) (hq : q.size ≤ maxLen) (t : ByteArray) (ht : t.size ≤ maxLen) :
    ∃ (P : List (List Nat)) (f : Bool), P.length ≤ 1000 ∧ (∀ u w, Txts w u L → Calls Try.prog 44 #[.agg #[.string s, .int .i64 n, u], .agg #[.string b, .string q], .string t] w (TextsAny P f w)) ∧
      (∀ u w, Txts w u L → Calls Try.prog 45 #[.agg #[.string s, .int .i64 n, u], .agg #[.string b, .string q], .string t] w (TextsAny P f w)) := by
  cases hk : askT s n L b q t
  · exact ⟨[], false, by simp, fun u w h => iTouchRows_no s hs n u L b q t ht w h hl hk, fun u w h => sTouchRows_no s hs n u L b q t hb hq ht w h hl hsm hk⟩
  · unfold askT at hk
    rw [Bool.and_eq_true] at hk
    obtain ⟨hg, hgt⟩ := hk
    obtain ⟨k, rfl⟩ := goodK_cast hg
    by_cases hbig : t.size * L.length ≤ 800
    · refine ⟨_, true, ?_, fun u w h => iTouchRows_yes s hs k u L b q t w h hl hg hgt hbig, fun u w h => sTouchRows_yes s hs k u L b q t hb hq ht w h hl hsm hg hgt hbig⟩
      rw [rowsL_len, rowsT_len, leadF_len, turnsT_len, chR_len]
      omega
    · exact ⟨[], false, by simp, fun u w h => iTouchRows_big s hs k u L b q t w h hl hg hgt (by omega), fun u w h => sTouchRows_big s hs k u L b q t hb hq ht w h hl hsm hg hgt (by omega)⟩
end Go.Proofs.Ytkhglknpcajmiaa
