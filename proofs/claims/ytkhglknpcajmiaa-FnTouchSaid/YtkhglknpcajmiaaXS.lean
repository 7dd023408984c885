/- TouchHeads, TouchEnd, IsRound, TouchRows in the model. -/
import Derived.Test.YtkhglknpcajmiaaXR
namespace Go.Proofs.Ytkhglknpcajmiaa
open Go.RowKit
set_option linter.unusedSimpArgs false
set_option linter.unusedVariables false

set_option maxRecDepth 100000 in
set_option maxHeartbeats 1000000 in
theorem sTouchHeads_no (s : ByteArray) (hs : s.size ≤ maxLen) (n : Int) (v : Value) (L : List (List Nat)) (b q t : ByteArray) (hb : b.size ≤ maxLen) (hq : q.size ≤ maxLen) (ht : t.size ≤ maxLen) (w : World) (h : Txts w v L) (hl : L.length ≤ 2000000) (hsm : Small L) (hk : askT s n L b q t = false) :
    Calls Try.prog 43 #[.agg #[.string s, .int .i64 n, v], .agg #[.string b, .string q], .string t] w (TextsAny [] false w) := by
  obtain ⟨a, cap, rfl, hcap, -⟩ := id h
  have HT := Lib.hid h
  have HR0 := Lib.hid ((RowAt.new w 25 #[.string s, .int .i64 n, .slice a L.length cap]).push (.cells #[.string b, .string q] 27))
  have HK0 : Hid (RowAt ((w.alloc (.cells #[.string s, .int .i64 n, .slice a L.length cap] 25)).alloc (.cells #[.string b, .string q] 27)) (w.heap.size + 1) 27 #[.string b, .string q]) := Lib.hid (by
    have := RowAt.new (w.alloc (.cells #[.string s, .int .i64 n, .slice a L.length cap] 25)) 27 #[.string b, .string q]
    simpa using this)
  have HB0 := Lib.hid (((Below.refl _ w).alloc (Nat.le_refl _) (.cells #[.string s, .int .i64 n, .slice a L.length cap] 25)).alloc (by simp) (.cells #[.string b, .string q] 27))
  have HA := Lib.hid (fun w h => l9Asked_any s hs n (.slice a L.length cap) L b q t hb hq ht w h hl hsm)
  rw [hk] at HA
  clear h hcap hl hsm hb hq ht hk hs
  generalize L.length = m at *
  go_enter Try.func43, Try.ntmps43
  go_wp2_with (first | (refine wpList_load_row rfl 25 _ rfl _ rfl 25 _ _ _ (HR0.out) Try.underlying25 rfl (by kernel_rfl) ?_) | (refine wpList_load_row rfl 27 _ rfl _ rfl 27 _ _ _ (HK0.out) Try.underlying27 rfl (by kernel_rfl) ?_) | fail)
  refine (HA.out _ (HT.out.kept HB0.out)).mono ?_
  rintro e w1 ⟨rfl, hb1⟩
  have HB1 := Lib.hid (HB0.out.trans (hb1.mono HB0.out.size))
  clear hb1 HR0 HK0 HB0 HA HT
  go_wp2
  go_ret2
  exact ⟨_, rfl, New.nil _ _ _, HB1.out⟩

set_option maxRecDepth 100000 in
set_option maxHeartbeats 1000000 in
theorem sTouchEnd_no (s : ByteArray) (hs : s.size ≤ maxLen) (n : Int) (v : Value) (L : List (List Nat)) (b q t : ByteArray) (hb : b.size ≤ maxLen) (hq : q.size ≤ maxLen) (ht : t.size ≤ maxLen) (w : World) (h : Txts w v L) (hl : L.length ≤ 2000000) (hsm : Small L) (hk : askT s n L b q t = false) :
    Calls Try.prog 47 #[.agg #[.string s, .int .i64 n, v], .agg #[.string b, .string q], .string t] w (fun e w' => e = .returned (.tuple #[.string ⟨#[]⟩, .bool false]) ∧ Below w.heap.size w w') := by
  obtain ⟨a, cap, rfl, hcap, -⟩ := id h
  have HT := Lib.hid h
  have HR0 := Lib.hid ((RowAt.new w 25 #[.string s, .int .i64 n, .slice a L.length cap]).push (.cells #[.string b, .string q] 27))
  have HK0 : Hid (RowAt ((w.alloc (.cells #[.string s, .int .i64 n, .slice a L.length cap] 25)).alloc (.cells #[.string b, .string q] 27)) (w.heap.size + 1) 27 #[.string b, .string q]) := Lib.hid (by
    have := RowAt.new (w.alloc (.cells #[.string s, .int .i64 n, .slice a L.length cap] 25)) 27 #[.string b, .string q]
    simpa using this)
  have HB0 := Lib.hid (((Below.refl _ w).alloc (Nat.le_refl _) (.cells #[.string s, .int .i64 n, .slice a L.length cap] 25)).alloc (by simp) (.cells #[.string b, .string q] 27))
  have HA := Lib.hid (fun w h => l9Asked_any s hs n (.slice a L.length cap) L b q t hb hq ht w h hl hsm)
  rw [hk] at HA
  clear h hcap hl hsm hb hq ht hk hs
  generalize L.length = m at *
  go_enter Try.func47, Try.ntmps47
  go_wp2_with (first | (refine wpList_load_row rfl 25 _ rfl _ rfl 25 _ _ _ (HR0.out) Try.underlying25 rfl (by kernel_rfl) ?_) | (refine wpList_load_row rfl 27 _ rfl _ rfl 27 _ _ _ (HK0.out) Try.underlying27 rfl (by kernel_rfl) ?_) | fail)
  refine (HA.out _ (HT.out.kept HB0.out)).mono ?_
  rintro e w1 ⟨rfl, hb1⟩
  have HB1 := Lib.hid (HB0.out.trans (hb1.mono HB0.out.size))
  clear hb1 HR0 HK0 HB0 HA HT
  go_wp2
  go_ret2
  exact ⟨rfl, HB1.out⟩

set_option maxRecDepth 100000 in
set_option maxHeartbeats 1000000 in
theorem sIsRound_no (s : ByteArray) (hs : s.size ≤ maxLen) (n : Int) (v : Value) (L : List (List Nat)) (b q t : ByteArray) (hb : b.size ≤ maxLen) (hq : q.size ≤ maxLen) (ht : t.size ≤ maxLen) (w : World) (h : Txts w v L) (hl : L.length ≤ 2000000) (hsm : Small L) (hk : askT s n L b q t = false) :
    Calls Try.prog 49 #[.agg #[.string s, .int .i64 n, v], .agg #[.string b, .string q], .string t] w (fun e w' => e = .returned (.tuple #[.bool false, .bool false]) ∧ Below w.heap.size w w') := by
  obtain ⟨a, cap, rfl, hcap, -⟩ := id h
  have HT := Lib.hid h
  have HR0 := Lib.hid ((RowAt.new w 25 #[.string s, .int .i64 n, .slice a L.length cap]).push (.cells #[.string b, .string q] 27))
  have HK0 : Hid (RowAt ((w.alloc (.cells #[.string s, .int .i64 n, .slice a L.length cap] 25)).alloc (.cells #[.string b, .string q] 27)) (w.heap.size + 1) 27 #[.string b, .string q]) := Lib.hid (by
    have := RowAt.new (w.alloc (.cells #[.string s, .int .i64 n, .slice a L.length cap] 25)) 27 #[.string b, .string q]
    simpa using this)
  have HB0 := Lib.hid (((Below.refl _ w).alloc (Nat.le_refl _) (.cells #[.string s, .int .i64 n, .slice a L.length cap] 25)).alloc (by simp) (.cells #[.string b, .string q] 27))
  have HA := Lib.hid (fun w h => l9Asked_any s hs n (.slice a L.length cap) L b q t hb hq ht w h hl hsm)
  rw [hk] at HA
  clear h hcap hl hsm hb hq ht hk hs
  generalize L.length = m at *
  go_enter Try.func49, Try.ntmps49
  go_wp2_with (first | (refine wpList_load_row rfl 25 _ rfl _ rfl 25 _ _ _ (HR0.out) Try.underlying25 rfl (by kernel_rfl) ?_) | (refine wpList_load_row rfl 27 _ rfl _ rfl 27 _ _ _ (HK0.out) Try.underlying27 rfl (by kernel_rfl) ?_) | fail)
  refine (HA.out _ (HT.out.kept HB0.out)).mono ?_
  rintro e w1 ⟨rfl, hb1⟩
  have HB1 := Lib.hid (HB0.out.trans (hb1.mono HB0.out.size))
  clear hb1 HR0 HK0 HB0 HA HT
  go_wp2
  go_ret2
  exact ⟨rfl, HB1.out⟩

set_option maxRecDepth 100000 in
set_option maxHeartbeats 1000000 in
theorem sTouchRows_no (s : ByteArray) (hs : s.size ≤ maxLen) (n : Int) (v : Value) (L : List (List Nat)) (b q t : ByteArray) (hb : b.size ≤ maxLen) (hq : q.size ≤ maxLen) (ht : t.size ≤ maxLen) (w : World) (h : Txts w v L) (hl : L.length ≤ 2000000) (hsm : Small L) (hk : askT s n L b q t = false) :
    Calls Try.prog 45 #[.agg #[.string s, .int .i64 n, v], .agg #[.string b, .string q], .string t] w (TextsAny [] false w) := by
  obtain ⟨a, cap, rfl, hcap, -⟩ := id h
  have HT := Lib.hid h
  have HR0 := Lib.hid ((RowAt.new w 25 #[.string s, .int .i64 n, .slice a L.length cap]).push (.cells #[.string b, .string q] 27))
  have HK0 : Hid (RowAt ((w.alloc (.cells #[.string s, .int .i64 n, .slice a L.length cap] 25)).alloc (.cells #[.string b, .string q] 27)) (w.heap.size + 1) 27 #[.string b, .string q]) := Lib.hid (by
    have := RowAt.new (w.alloc (.cells #[.string s, .int .i64 n, .slice a L.length cap] 25)) 27 #[.string b, .string q]
    simpa using this)
  have HB0 := Lib.hid (((Below.refl _ w).alloc (Nat.le_refl _) (.cells #[.string s, .int .i64 n, .slice a L.length cap] 25)).alloc (by simp) (.cells #[.string b, .string q] 27))
  have HA := Lib.hid (fun w h => l9Asked_any s hs n (.slice a L.length cap) L b q t hb hq ht w h hl hsm)
  rw [hk] at HA
  clear h hcap hl hsm hb hq ht hk hs
  generalize L.length = m at *
  go_enter Try.func45, Try.ntmps45
  go_wp2_with (first | (refine wpList_load_row rfl 25 _ rfl _ rfl 25 _ _ _ (HR0.out) Try.underlying25 rfl (by kernel_rfl) ?_) | (refine wpList_load_row rfl 27 _ rfl _ rfl 27 _ _ _ (HK0.out) Try.underlying27 rfl (by kernel_rfl) ?_) | fail)
  refine (HA.out _ (HT.out.kept HB0.out)).mono ?_
  rintro e w1 ⟨rfl, hb1⟩
  have HB1 := Lib.hid (HB0.out.trans (hb1.mono HB0.out.size))
  clear hb1 HR0 HK0 HB0 HA HT
  go_wp2
  go_ret2
  exact ⟨_, rfl, New.nil _ _ _, HB1.out⟩

set_option maxRecDepth 100000 in
set_option maxHeartbeats 1000000 in
theorem sTouchHeads_yes (s : ByteArray) (hs : s.size ≤ maxLen) (n : Nat) (v : Value) (L : List (List Nat)) (b q t : ByteArray) (hb : b.size ≤ maxLen) (hq : q.size ≤ maxLen) (ht : t.size ≤ maxLen) (w : World) (h : Txts w v L) (hl : L.length ≤ 2000000) (hsm : Small L) (hg : goodK s n L b q = true) (hgt : goodT t = true) :
    Calls Try.prog 43 #[.agg #[.string s, .int .i64 n, v], .agg #[.string b, .string q], .string t] w (TextsAny (rowsL n (headsT n L b q t)) true w) := by
  obtain ⟨a, cap, rfl, hcap, -⟩ := id h
  have HT := Lib.hid h
  have HR0 := Lib.hid ((RowAt.new w 25 #[.string s, .int .i64 n, .slice a L.length cap]).push (.cells #[.string b, .string q] 27))
  have HK0 : Hid (RowAt ((w.alloc (.cells #[.string s, .int .i64 n, .slice a L.length cap] 25)).alloc (.cells #[.string b, .string q] 27)) (w.heap.size + 1) 27 #[.string b, .string q]) := Lib.hid (by
    have := RowAt.new (w.alloc (.cells #[.string s, .int .i64 n, .slice a L.length cap] 25)) 27 #[.string b, .string q]
    simpa using this)
  have HB0 := Lib.hid (((Below.refl _ w).alloc (Nat.le_refl _) (.cells #[.string s, .int .i64 n, .slice a L.length cap] 25)).alloc (by simp) (.cells #[.string b, .string q] 27))
  have HA := Lib.hid (fun w h => l9Asked_any s hs n (.slice a L.length cap) L b q t hb hq ht w h hl hsm)
  rw [show askT s n L b q t = true by unfold askT; rw [hg, hgt]; rfl] at HA
  have HH := Lib.hid (fun w h => l9Heads_any s n (.slice a L.length cap) L b q t hg hgt w h)
  unfold TextsOut at HH
  unfold TextsAny
  generalize rowsL n (headsT n L b q t) = rl at *
  clear h hcap hl hsm hb hq ht hg hgt hs
  generalize L.length = m at *
  go_enter Try.func43, Try.ntmps43
  go_wp2_with (first | (refine wpList_load_row rfl 25 _ rfl _ rfl 25 _ _ _ (HR0.out) Try.underlying25 rfl (by kernel_rfl) ?_) | (refine wpList_load_row rfl 27 _ rfl _ rfl 27 _ _ _ (HK0.out) Try.underlying27 rfl (by kernel_rfl) ?_) | fail)
  refine (HA.out _ (HT.out.kept HB0.out)).mono ?_
  rintro e w1 ⟨rfl, hb1⟩
  have HR1 := Lib.hid (HR0.out.kept hb1)
  have HK1 := Lib.hid (HK0.out.kept hb1)
  have HB1 := Lib.hid (HB0.out.trans (hb1.mono HB0.out.size))
  clear hb1 HR0 HK0 HB0 HA
  go_wp2_with (first | (refine wpList_load_row rfl 25 _ rfl _ rfl 25 _ _ _ (HR1.out) Try.underlying25 rfl (by kernel_rfl) ?_) | (refine wpList_load_row rfl 27 _ rfl _ rfl 27 _ _ _ (HK1.out) Try.underlying27 rfl (by kernel_rfl) ?_) | fail)
  refine (HH.out _ (HT.out.kept HB1.out)).mono ?_
  rintro e w2 ⟨v2, rfl, hn2, hb2⟩
  have HN2 := Lib.hid (hn2.lower HB1.out.size)
  have HB2 := Lib.hid (HB1.out.trans (hb2.mono HB1.out.size))
  clear hn2 hb2
  go_wp2
  go_ret2
  exact ⟨_, rfl, HN2.out, HB2.out⟩

theorem strs_end (n : Nat) (A : List (Nat → Nat)) (e : Nat → Nat) : (strs (rowsL n (A ++ [e])))[A.length]? = some (.string (strOf n e)) := by
  rw [← txt_rowL]
  simp [strs, rowsL]
set_option maxRecDepth 100000 in
set_option maxHeartbeats 1000000 in
theorem l9End_any (s : ByteArray) (n : Nat) (v : Value) (L : List (List Nat)) (b q t : ByteArray) (hg : goodK s n L b q = true) (hgt : goodT t = true) (w : World) (h : Txts w v L) :
    Calls Try.prog 115 #[.agg #[.string s, .int .i64 n, v], .agg #[.string b, .string q], .string t] w fun e w' => e = .returned (.string (strOf n (headF n (turnsT n L b q t)))) ∧ Below w.heap.size w w' := by
  obtain ⟨a, cap, rfl, hcap, -⟩ := id h
  have HT := Lib.hid h
  have HR0 := Lib.hid ((RowAt.new w 25 #[.string s, .int .i64 n, .slice a L.length cap]).push (.cells #[.string b, .string q] 27))
  have HK0 : Hid (RowAt ((w.alloc (.cells #[.string s, .int .i64 n, .slice a L.length cap] 25)).alloc (.cells #[.string b, .string q] 27)) (w.heap.size + 1) 27 #[.string b, .string q]) := Lib.hid (by
    have := RowAt.new (w.alloc (.cells #[.string s, .int .i64 n, .slice a L.length cap] 25)) 27 #[.string b, .string q]
    simpa using this)
  have HB0 := Lib.hid (((Below.refl _ w).alloc (Nat.le_refl _) (.cells #[.string s, .int .i64 n, .slice a L.length cap] 25)).alloc (by simp) (.cells #[.string b, .string q] 27))
  have HH := Lib.hid (fun w h => l9Heads_any s n (.slice a L.length cap) L b q t hg hgt w h)
  unfold TextsOut at HH
  have h60 := (goodT_parts hgt).2.1
  have hti : (t.size : Int) ≤ 60 := by omega
  have hlast : (strs (rowsL n (headsT n L b q t)))[t.size]? = some (.string (strOf n (headF n (turnsT n L b q t)))) := by
    have := strs_end n (leadF n (turnsT n L b q t) (rdf n)) (headF n (turnsT n L b q t))
    rwa [leadF_len, turnsT_len] at this
  have hlen : (rowsL n (headsT n L b q t)).length = t.size + 1 := by rw [rowsL_len, headsT_len]
  generalize strOf n (headF n (turnsT n L b q t)) = te at *
  generalize rowsL n (headsT n L b q t) = rl at *
  have HLAST := Lib.hid hlast
  have HLEN := Lib.hid hlen
  clear h hcap hg hgt hlast hlen h60
  generalize L.length = m at *
  go_enter Try.func115, Try.ntmps115
  go_wp2_with (first | (refine wpList_load_row rfl 25 _ rfl _ rfl 25 _ _ _ (HR0.out) Try.underlying25 rfl (by kernel_rfl) ?_) | (refine wpList_load_row rfl 27 _ rfl _ rfl 27 _ _ _ (HK0.out) Try.underlying27 rfl (by kernel_rfl) ?_) | fail)
  refine (HH.out _ (HT.out.kept HB0.out)).mono ?_
  rintro e w1 ⟨v1, rfl, hn1, hb1⟩
  have HB1 := Lib.hid (HB0.out.trans (hb1.mono HB0.out.size))
  obtain ⟨a1, k1, rfl, ha1⟩ := hn1.own.view
  have hn9 := hn1.own
  rw [strs_len, HLEN.out] at ha1 hn9 ⊢
  obtain ⟨g1, rfl⟩ := ha1 (by omega)
  have c1 := hn9.cell t.size _ HLAST.out
  have hp1 : (t.size : Int) < t.size + 1 := by omega
  clear hn1 hn9 hb1 HR0 HK0 HB0 HH HT ha1
  go_wp2
  go_ret
  exact ⟨rfl, HB1.out⟩

set_option maxRecDepth 100000 in
set_option maxHeartbeats 1000000 in
theorem sTouchEnd_yes (s : ByteArray) (hs : s.size ≤ maxLen) (n : Nat) (v : Value) (L : List (List Nat)) (b q t : ByteArray) (hb : b.size ≤ maxLen) (hq : q.size ≤ maxLen) (ht : t.size ≤ maxLen) (w : World) (h : Txts w v L) (hl : L.length ≤ 2000000) (hsm : Small L) (hg : goodK s n L b q = true) (hgt : goodT t = true) :
    Calls Try.prog 47 #[.agg #[.string s, .int .i64 n, v], .agg #[.string b, .string q], .string t] w (fun e w' => e = .returned (.tuple #[.string (strOf n (headF n (turnsT n L b q t))), .bool true]) ∧ Below w.heap.size w w') := by
  obtain ⟨a, cap, rfl, hcap, -⟩ := id h
  have HT := Lib.hid h
  have HR0 := Lib.hid ((RowAt.new w 25 #[.string s, .int .i64 n, .slice a L.length cap]).push (.cells #[.string b, .string q] 27))
  have HK0 : Hid (RowAt ((w.alloc (.cells #[.string s, .int .i64 n, .slice a L.length cap] 25)).alloc (.cells #[.string b, .string q] 27)) (w.heap.size + 1) 27 #[.string b, .string q]) := Lib.hid (by
    have := RowAt.new (w.alloc (.cells #[.string s, .int .i64 n, .slice a L.length cap] 25)) 27 #[.string b, .string q]
    simpa using this)
  have HB0 := Lib.hid (((Below.refl _ w).alloc (Nat.le_refl _) (.cells #[.string s, .int .i64 n, .slice a L.length cap] 25)).alloc (by simp) (.cells #[.string b, .string q] 27))
  have HA := Lib.hid (fun w h => l9Asked_any s hs n (.slice a L.length cap) L b q t hb hq ht w h hl hsm)
  rw [show askT s n L b q t = true by unfold askT; rw [hg, hgt]; rfl] at HA
  have HH := Lib.hid (fun w h => l9End_any s n (.slice a L.length cap) L b q t hg hgt w h)
  generalize strOf n (headF n (turnsT n L b q t)) = te at *
  clear h hcap hl hsm hb hq ht hg hgt hs
  generalize L.length = m at *
  go_enter Try.func47, Try.ntmps47
  go_wp2_with (first | (refine wpList_load_row rfl 25 _ rfl _ rfl 25 _ _ _ (HR0.out) Try.underlying25 rfl (by kernel_rfl) ?_) | (refine wpList_load_row rfl 27 _ rfl _ rfl 27 _ _ _ (HK0.out) Try.underlying27 rfl (by kernel_rfl) ?_) | fail)
  refine (HA.out _ (HT.out.kept HB0.out)).mono ?_
  rintro e w1 ⟨rfl, hb1⟩
  have HR1 := Lib.hid (HR0.out.kept hb1)
  have HK1 := Lib.hid (HK0.out.kept hb1)
  have HB1 := Lib.hid (HB0.out.trans (hb1.mono HB0.out.size))
  clear hb1 HR0 HK0 HB0 HA
  go_wp2_with (first | (refine wpList_load_row rfl 25 _ rfl _ rfl 25 _ _ _ (HR1.out) Try.underlying25 rfl (by kernel_rfl) ?_) | (refine wpList_load_row rfl 27 _ rfl _ rfl 27 _ _ _ (HK1.out) Try.underlying27 rfl (by kernel_rfl) ?_) | fail)
  refine (HH.out _ (HT.out.kept HB1.out)).mono ?_
  rintro e w2 ⟨rfl, hb2⟩
  have HB2 := Lib.hid (HB1.out.trans (hb2.mono HB1.out.size))
  go_wp2
  go_ret2
  exact ⟨rfl, HB2.out⟩

set_option maxRecDepth 100000 in
set_option maxHeartbeats 1000000 in
theorem sIsRound_yes (s : ByteArray) (hs : s.size ≤ maxLen) (n : Nat) (v : Value) (L : List (List Nat)) (b q t : ByteArray) (hb : b.size ≤ maxLen) (hq : q.size ≤ maxLen) (ht : t.size ≤ maxLen) (w : World) (h : Txts w v L) (hl : L.length ≤ 2000000) (hsm : Small L) (hg : goodK s n L b q = true) (hgt : goodT t = true) :
    Calls Try.prog 49 #[.agg #[.string s, .int .i64 n, v], .agg #[.string b, .string q], .string t] w (fun e w' => e = .returned (.tuple #[.bool (roundT n L b q t), .bool true]) ∧ Below w.heap.size w w') := by
  obtain ⟨a, cap, rfl, hcap, -⟩ := id h
  have HT := Lib.hid h
  have HR0 := Lib.hid ((RowAt.new w 25 #[.string s, .int .i64 n, .slice a L.length cap]).push (.cells #[.string b, .string q] 27))
  have HK0 : Hid (RowAt ((w.alloc (.cells #[.string s, .int .i64 n, .slice a L.length cap] 25)).alloc (.cells #[.string b, .string q] 27)) (w.heap.size + 1) 27 #[.string b, .string q]) := Lib.hid (by
    have := RowAt.new (w.alloc (.cells #[.string s, .int .i64 n, .slice a L.length cap] 25)) 27 #[.string b, .string q]
    simpa using this)
  have HB0 := Lib.hid (((Below.refl _ w).alloc (Nat.le_refl _) (.cells #[.string s, .int .i64 n, .slice a L.length cap] 25)).alloc (by simp) (.cells #[.string b, .string q] 27))
  have HA := Lib.hid (fun w h => l9Asked_any s hs n (.slice a L.length cap) L b q t hb hq ht w h hl hsm)
  rw [show askT s n L b q t = true by unfold askT; rw [hg, hgt]; rfl] at HA
  have HH := Lib.hid (fun w h => l9End_any s n (.slice a L.length cap) L b q t hg hgt w h)
  have HRD := Lib.hid (l1Rounds_any n (goodM_nat (goodK_parts hg).1).2.1)
  unfold roundT
  generalize strOf n (headF n (turnsT n L b q t)) = te at *
  generalize rnds n = rn at *
  clear h hcap hl hsm hb hq ht hg hgt hs
  generalize L.length = m at *
  go_enter Try.func49, Try.ntmps49
  go_wp2_with (first | (refine wpList_load_row rfl 25 _ rfl _ rfl 25 _ _ _ (HR0.out) Try.underlying25 rfl (by kernel_rfl) ?_) | (refine wpList_load_row rfl 27 _ rfl _ rfl 27 _ _ _ (HK0.out) Try.underlying27 rfl (by kernel_rfl) ?_) | fail)
  refine (HA.out _ (HT.out.kept HB0.out)).mono ?_
  rintro e w1 ⟨rfl, hb1⟩
  have HR1 := Lib.hid (HR0.out.kept hb1)
  have HK1 := Lib.hid (HK0.out.kept hb1)
  have HB1 := Lib.hid (HB0.out.trans (hb1.mono HB0.out.size))
  clear hb1 HR0 HK0 HB0 HA
  have HXA : Hid (∀ W', Below w1.heap.size w1 W' → (W'.cell? ⟨w.heap.size, 0, none⟩ = some (.string s) ∧ W'.cell? ⟨w.heap.size, 1, none⟩ = some (.int .i64 n) ∧ W'.cell? ⟨w.heap.size, 2, none⟩ = some (.slice a m cap) ∧ W'.cell? ⟨w.heap.size + 1, 0, none⟩ = some (.string b) ∧ W'.cell? ⟨w.heap.size + 1, 1, none⟩ = some (.string q) ∧ Below w1.heap.size w1 W')) := Lib.hid (fun W' h => by
    have h1 := HR1.out.keep h HR1.out.lt
    have h2 := HK1.out.keep h HK1.out.lt
    exact ⟨h1.cell 0 rfl, h1.cell 1 rfl, h1.cell 2 rfl, h2.cell 0 rfl, h2.cell 1 rfl, h⟩)
  have HF1 : Hid (∀ W', Below w1.heap.size w1 W' → Calls Try.prog 115 #[.agg #[.string s, .int .i64 n, .slice a m cap], .agg #[.string b, .string q], .string t] W' fun e w' => e = .returned (.string te) ∧ Below w1.heap.size w1 w') := Lib.hid (fun W' h => (HH.out W' ((HT.out.kept HB1.out).kept h)).mono fun e w' hw => ⟨hw.1, h.trans (hw.2.mono h.size)⟩)
  go_wp2
  go_region_held3 (fun w' => w'.cell? ⟨w.heap.size, 0, none⟩ = some (.string s) ∧ w'.cell? ⟨w.heap.size, 1, none⟩ = some (.int .i64 n) ∧ w'.cell? ⟨w.heap.size, 2, none⟩ = some (.slice a m cap) ∧ w'.cell? ⟨w.heap.size + 1, 0, none⟩ = some (.string b) ∧ w'.cell? ⟨w.heap.size + 1, 1, none⟩ = some (.string q) ∧ Below w1.heap.size w1 w') (first | assumption | exact HXA.out _ (Below.refl _ _).drew) (first
    | (go_at_call 115; refine (HF1.out _ (by first | exact (Below.refl _ _).drew | exact Below.refl _ _)).mono ?_; rintro e4 w4 ⟨rfl, hb4⟩; have hS4 := HXA.out _ hb4)
    | (go_at_call 101; refine (HRD.out _).mono ?_; rintro e3 w3 ⟨rfl, rfl⟩)
    | fail)
  have HB4 := Lib.hid (HB1.out.trans (hb4.mono HB1.out.size))
  clear hS4 hb4 HXA HF1
  go_wp2
  go_ret2
  exact ⟨rfl, HB4.out⟩

theorem strs_row (n : Nat) (fs : List (Nat → Nat)) (j : Nat) (h : j < fs.length) : (strs (rowsL n fs))[j]? = some (.string (strOf n fs[j])) := by
  rw [← txt_rowL]
  simp [strs, rowsL, h]
theorem Own.cap_leT {W : World} {e : TypeId} {a : Option Addr} {n cap : Nat} {xs : List Value} (h : Own W e (.slice a n cap) xs) : xs.length ≤ cap := by
  obtain ⟨-, h2⟩ := h
  rcases h2 with ⟨_, h0⟩ | ⟨g, cap', cur, hv, _, _, hle, _⟩
  · omega
  · injection hv with e1 e2 e3
    omega

set_option maxRecDepth 100000 in
set_option maxHeartbeats 1000000 in
set_option maxHeartbeats 4000000 in
theorem l9Rows_any (s : ByteArray) (n : Nat) (v : Value) (L : List (List Nat)) (b q t : ByteArray) (hg : goodK s n L b q = true) (hgt : goodT t = true) (hbig : t.size * L.length ≤ 800) (w : World) (h : Txts w v L) :
    Calls Try.prog 113 #[.agg #[.string s, .int .i64 n, v], .agg #[.string b, .string q], .string t] w (TextsOut (rowsL n (rowsT n (chR n L) (leadF n (turnsT n L b q t) (rdf n)))) w) := by
  obtain ⟨a, cap, rfl, hcap, -⟩ := id h
  have HT := Lib.hid h
  have HR0 := Lib.hid ((RowAt.new w 25 #[.string s, .int .i64 n, .slice a L.length cap]).push (.cells #[.string b, .string q] 27))
  have HK0 : Hid (RowAt ((w.alloc (.cells #[.string s, .int .i64 n, .slice a L.length cap] 25)).alloc (.cells #[.string b, .string q] 27)) (w.heap.size + 1) 27 #[.string b, .string q]) := Lib.hid (by
    have := RowAt.new (w.alloc (.cells #[.string s, .int .i64 n, .slice a L.length cap] 25)) 27 #[.string b, .string q]
    simpa using this)
  have HB0 := Lib.hid (((Below.refl _ w).alloc (Nat.le_refl _) (.cells #[.string s, .int .i64 n, .slice a L.length cap] 25)).alloc (by simp) (.cells #[.string b, .string q] 27))
  have HH := Lib.hid (fun w h => l9Heads_any s n (.slice a L.length cap) L b q t hg hgt w h)
  unfold headsT at HH
  obtain ⟨h3, h8, hrows, h40, h1⟩ := goodM_nat (goodK_parts hg).1
  obtain ⟨ht1, ht60, hall⟩ := goodT_parts hgt
  have HL := Lib.hid (fun g hgr w h => l4Lead_any n (.slice a L.length cap) L g hgr (goodM_parts (goodK_parts hg).1).1 w h)
  unfold TextsOut LeadOut at *
  have HRR : Hid (Rows n (leadF n (turnsT n L b q t) (rdf n))) := Lib.hid (rows_lead (rows_turnsT hg t) (isRow_rdf h3 h8))
  have HLL : Hid ((leadF n (turnsT n L b q t) (rdf n)).length = t.size) := Lib.hid (by rw [leadF_len, turnsT_len])
  have hcl := chR_len n L
  have HLN := Lib.hid (fun hs => by have := rowsT_len n (chR n L) hs; rwa [hcl] at this)
  have HSN := Lib.hid (fun hs f => show rowsL n (rowsT n (chR n L) (hs ++ [f])) = rowsL n (rowsT n (chR n L) hs) ++ rowsL n (leadF n (chR n L) f) from by rw [rowsT_snoc]; simp [rowsL])
  have HLF : Hid (∀ g, (rowsL n (leadF n (chR n L) g)).length = L.length) := Lib.hid (fun g => by rw [rowsL_len, leadF_len, hcl])
  have HRL : Hid (∀ hs, (rowsL n (rowsT n (chR n L) hs)).length = hs.length * L.length) := Lib.hid (fun hs => by rw [rowsL_len]; exact HLN.out hs)
  have H00 : Hid (rowsL n (rowsT n (chR n L) []) = []) := Lib.hid rfl
  have HHL : Hid ((rowsL n (leadF n (turnsT n L b q t) (rdf n) ++ [headF n (turnsT n L b q t)])).length = t.size + 1) := Lib.hid (by rw [rowsL_len, List.length_append, HLL.out]; rfl)
  have HAT : Hid (∀ j (h : j < (leadF n (turnsT n L b q t) (rdf n)).length), (strs (rowsL n (leadF n (turnsT n L b q t) (rdf n) ++ [headF n (turnsT n L b q t)])))[j]? = some (.string (strOf n (leadF n (turnsT n L b q t) (rdf n))[j]))) := Lib.hid (fun j h => by
    have := strs_row n (leadF n (turnsT n L b q t) (rdf n) ++ [headF n (turnsT n L b q t)]) j (by rw [List.length_append]; omega)
    rwa [List.getElem_append_left h] at this)
  generalize rowsL n (leadF n (turnsT n L b q t) (rdf n) ++ [headF n (turnsT n L b q t)]) = H at *
  generalize leadF n (turnsT n L b q t) (rdf n) = D at *
  generalize hRT : (fun hs => rowsL n (rowsT n (chR n L) hs)) = RT at *
  have HRT : Hid (∀ hs, rowsL n (rowsT n (chR n L) hs) = RT hs) := Lib.hid (fun hs => by rw [← hRT])
  simp only [HRT.out] at HSN HRL H00 ⊢
  clear hRT HRT HLN
  generalize chR n L = cs at *
  have HPM := Lib.hid hbig
  have h40' : L.length ≤ 40 := by omega
  have h1' : 1 ≤ L.length := by omega
  have HM4 := Lib.hid h40'
  have HM1 := Lib.hid h1'
  obtain ⟨p, hp⟩ : ∃ p, t.size = p := ⟨_, rfl⟩
  have HP := Lib.hid hp
  have hti : (t.size : Int) ≤ 60 := by omega
  have hti0 : (0 : Int) ≤ t.size := by omega
  rw [hp] at HLL HHL HPM
  obtain ⟨i0, hi0, hz0, hz1, hz2⟩ := info_parts infoText
  have I0 := Lib.hid (⟨hi0, hz0, hz1, hz2⟩ : _ ∧ _ ∧ _ ∧ _)
  clear h hcap hg hgt hbig h3 h8 hrows h40 h1 ht1 ht60 hall hcl h40' h1' hp hi0 hz0 hz1 hz2
  generalize L.length = m at *
  go_enter Try.func113, Try.ntmps113
  go_wp2_with (first | (refine wpList_load_row rfl 25 _ rfl _ rfl 25 _ _ _ (HR0.out) Try.underlying25 rfl (by kernel_rfl) ?_) | (refine wpList_load_row rfl 27 _ rfl _ rfl 27 _ _ _ (HK0.out) Try.underlying27 rfl (by kernel_rfl) ?_) | fail)
  refine (HH.out _ (HT.out.kept HB0.out)).mono ?_
  rintro e w1 ⟨v1, rfl, hn1, hb1⟩
  have HR1 := Lib.hid (HR0.out.kept hb1)
  have HB1 := Lib.hid (HB0.out.trans (hb1.mono HB0.out.size))
  have ho1 := hn1.own
  obtain ⟨a1, k1, rfl, ha1⟩ := hn1.own.view
  have hk1 := ho1.cap_leT
  rw [strs_len, HHL.out] at ho1 ha1 hk1 ⊢
  obtain ⟨g1, rfl⟩ := ha1 (by omega)
  have HO1 := Lib.hid ho1
  have hpk : (t.size : Int) ≤ k1 := by have := HP.out; omega
  have hpk2 : t.size ≤ k1 := by have := HP.out; omega
  clear ho1 ha1 hn1 hb1 HR0 HK0 HB0 HH
  go_wp2
  have HG1 : Hid (g1 < w1.heap.size) := Lib.hid (HO1.out.lt g1 rfl)
  go_loopg [7, 20] p (fun qq v i wr => ∃ j : Nat, qq + j = p ∧ i = .int .i64 j ∧ New w1.heap.size wr 9 v (strs (RT (D.take j))) ∧ Below w1.heap.size w1 wr)
  case atStart => exact ⟨0, by omega, rfl, by rw [List.take_zero, H00.out]; exact New.nil _ _ _, Below.refl _ _⟩
  case round =>
    obtain ⟨j, hq, rfl, hn, hb⟩ := hrel
    have HQ := Lib.hid hq
    have HB := Lib.hid hb
    obtain ⟨a9, c9, rfl, -⟩ := hn.own.view
    rw [strs_len] at hn ⊢
    have HN := Lib.hid hn
    clear hq hn hb
    by_cases hlt : j < p
    · have hjx : j < D.length := by rw [HLL.out]; exact hlt
      have c1 := (HO1.out.kept HB.out).cell j _ (HAT.out j hjx)
      have c2 : wr.cell? ⟨w.heap.size, 2, none⟩ = some (.slice a m cap) := (HR1.out.keep HB.out HR1.out.lt).cell 2 rfl
      have hrow := HRR.out _ (List.getElem_mem hjx)
      have htk : D.take (j + 1) = D.take j ++ [D[j]] := List.take_succ_eq_append_getElem hjx
      have hsn := HSN.out (D.take j) D[j]
      rw [← htk] at hsn
      have hlen : (RT (D.take j)).length ≤ 800 := by
        rw [HRL.out, List.length_take, HLL.out, Nat.min_eq_left (by omega)]
        exact Nat.le_trans (Nat.mul_le_mul_right m (by omega)) HPM.out
      have HLZ := Lib.hid (HLF.out D[j])
      have HLC := Lib.hid (fun w h => HL.out D[j] hrow w h)
      generalize rowsL n (leadF n cs D[j]) = lz at *
      generalize strOf n (endF n cs D[j]) = ge at *
      generalize strOf n D[j] = tg at *
      have HSN1 := Lib.hid hsn
      have HLEN := Lib.hid hlen
      clear hrow htk hsn hlen hjx
      have hji : (j : Int) < t.size := by have := HP.out; omega
      have hjp : (j : Int) < p := by omega
      generalize RT (D.take j) = A at *
      go_wp2_with fail
      refine (HLC.out _ (HT.out.kept (HB1.out.trans (HB.out.mono HB1.out.size)))).mono ?_
      rintro e w5 ⟨v5, rfl, hn5, hb5⟩
      have HB5 := Lib.hid (HB.out.trans (hb5.mono HB.out.size))
      have HN5 := Lib.hid (HN.out.kept hb5)
      have hov := hn5.own
      obtain ⟨a5, c5, rfl, ha5⟩ := hn5.own.view
      rw [strs_len, HLZ.out] at hov ha5 ⊢
      obtain ⟨g5, rfl⟩ := ha5 (by have := HM1.out; omega)
      have HV5 := Lib.hid hov
      have hone : ∀ u ∈ strs lz, u.oneCell' = true := by
        intro u hu
        simp only [strs, List.mem_map] at hu
        obtain ⟨x, _, rfl⟩ := hu
        rfl
      have HONE := Lib.hid hone
      clear hb5 HN HB hn5 hov ha5 c1 c2 hone HLC
      go_wp2_with (at_builtin; refine wpList_appN rfl (.tmp 31) (.tmp 32) 23 rfl 9 i0 (.string ⟨#[]⟩) 16 Try.underlying23 I0.out.1 I0.out.2.1 I0.out.2.2.1 I0.out.2.2.2 rfl w1.heap.size w1 _ (strs A) rfl HN5.out ⟨g5, 0, none⟩ m c5 (strs lz) rfl (by rw [strs_len, HLZ.out]) (fun j u hj => by rw [add_at, Nat.zero_add]; exact HV5.out.cell j u hj) HONE.out HB5.out.size HB5.out (by rw [strs_len]; have := HLEN.out; have := HM4.out; omega) (by omega) ?_)
      intro v6 w6 hn6 hk6 hb6 _ _
      rw [show strs A ++ strs lz = strs (A ++ lz) by simp [strs], ← HSN1.out] at hn6
      have HN6 := Lib.hid hn6
      have HB6 := Lib.hid hb6
      clear hn6 hk6 hb6 HN5 HB5 HV5
      go_wp2
      go_roundg (p - (j + 1))
      case measure => have := HQ.out; omega
      case rel => exact ⟨j + 1, by have := HQ.out; omega, by go_num, HN6.out, HB6.out⟩
    · obtain rfl : j = p := by have := HQ.out; omega
      have hji : ¬ (j : Int) < t.size := by have := HP.out; omega
      have hn := HN.out
      rw [List.take_of_length_le (by rw [HLL.out]; exact Nat.le_refl _)] at hn ⊢
      have HN2 := Lib.hid (hn.lower HB1.out.size)
      have HB2 := Lib.hid (HB1.out.trans (HB.out.mono HB1.out.size))
      clear hn HN HB
      go_wp2
      go_ret
      exact ⟨_, rfl, HN2.out, HB2.out⟩
end Go.Proofs.Ytkhglknpcajmiaa
