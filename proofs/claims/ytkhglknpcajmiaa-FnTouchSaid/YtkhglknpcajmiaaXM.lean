/- TouchHeads, TouchEnd in the program. -/
import Derived.Test.YtkhglknpcajmiaaXL
namespace Go.Proofs.Ytkhglknpcajmiaa
open Go.RowKit
set_option linter.unusedSimpArgs false
set_option linter.unusedVariables false

theorem eq8_strT {n : Nat} {f g : Nat → Nat} (hf : IsRow n f) (hg : IsRow n g) : ((List.range 8).map (fun i => UInt8.ofNat (f i)) == (List.range 8).map (fun i => UInt8.ofNat (g i))) = ((strOf n f).toList == (strOf n g).toList) := by
  by_cases e : f = g
  · subst e
    rw [dig8_same, str_same rfl]
  · rw [dig8_other hf hg e, str_other hf hg e]
theorem pk3_hdK (n : Nat) (L : List (List Nat)) (b q : ByteArray) (k : Nat) (hk : k < 3) : pk3 (hdK n L b q 0) (hdK n L b q 1) (hdK n L b q 2) k = hdK n L b q k := by
  have : k = 0 ∨ k = 1 ∨ k = 2 := by omega
  rcases this with rfl | rfl | rfl <;> rfl
theorem pk3_turns (n : Nat) (L : List (List Nat)) (b q t : ByteArray) : (kindsT t).map (pk3 (hdK n L b q 0) (hdK n L b q 1) (hdK n L b q 2)) = turnsT n L b q t := by
  unfold turnsT
  exact List.map_congr_left fun k hk => pk3_hdK n L b q k (kindsT_lt t k hk)

set_option maxRecDepth 100000 in
set_option maxHeartbeats 1000000 in
theorem iTouchHeads_no (s : ByteArray) (hs : s.size ≤ maxLen) (n : Int) (v : Value) (L : List (List Nat)) (b q t : ByteArray) (ht : t.size ≤ maxLen) (w : World) (h : Txts w v L) (hl : L.length ≤ 2000000) (hk : (goodK s n L b q && goodT t) = false) :
    Calls Try.prog 42 #[.agg #[.string s, .int .i64 n, v], .agg #[.string b, .string q], .string t] w (TextsAny [] false w) := by
  obtain ⟨a, cap, rfl, hcap, -⟩ := id h
  have HT := Lib.hid h
  have HR0 := Lib.hid ((RowAt.new w 25 #[.string s, .int .i64 n, .slice a L.length cap]).push (.cells #[.string b, .string q] 27))
  have HK0 : Hid (RowAt ((w.alloc (.cells #[.string s, .int .i64 n, .slice a L.length cap] 25)).alloc (.cells #[.string b, .string q] 27)) (w.heap.size + 1) 27 #[.string b, .string q]) := Lib.hid (by
    have := RowAt.new (w.alloc (.cells #[.string s, .int .i64 n, .slice a L.length cap] 25)) 27 #[.string b, .string q]
    simpa using this)
  have HB0 := Lib.hid (((Below.refl _ w).alloc (Nat.le_refl _) (.cells #[.string s, .int .i64 n, .slice a L.length cap] 25)).alloc (by simp) (.cells #[.string b, .string q] 27))
  have HC := Lib.hid (fun w h => touchOf_no s hs n (.slice a L.length cap) L b q t ht w h hl hk)
  unfold TouNo at HC
  clear h hcap hl hk ht
  generalize L.length = m at *
  simp only [zero34] at HC
  go_enter Try.func42, Try.ntmps42
  go_wp2_with (first | (refine wpList_load_row rfl 25 _ rfl _ rfl 25 _ _ _ (HR0.out) Try.underlying25 rfl (by kernel_rfl) ?_) | (refine wpList_load_row rfl 27 _ rfl _ rfl 27 _ _ _ (HK0.out) Try.underlying27 rfl (by kernel_rfl) ?_) | fail)
  refine (HC.out _ (HT.out.kept HB0.out)).mono ?_
  rintro e w1 ⟨rfl, hb1⟩
  have HB1 := Lib.hid (HB0.out.trans (hb1.mono HB0.out.size))
  clear hb1 HR0 HK0 HB0 HC HT
  go_wp2_with (first | (refine wpList_store_row rfl 116 _ _ rfl _ _ rfl rfl 116 _ (heap_at _ _ _ (by simp)) (by kernel_rfl) rfl (by kernel_rfl) ?_; rw [setRow_at _ _ _ _ _ (by simp)]) | fail)
  go_ret2
  exact ⟨_, rfl, New.nil _ _ _, HB1.out.alloc HB1.out.size _⟩

set_option maxRecDepth 100000 in
set_option maxHeartbeats 1000000 in
theorem iTouchEnd_no (s : ByteArray) (hs : s.size ≤ maxLen) (n : Int) (v : Value) (L : List (List Nat)) (b q t : ByteArray) (ht : t.size ≤ maxLen) (w : World) (h : Txts w v L) (hl : L.length ≤ 2000000) (hk : (goodK s n L b q && goodT t) = false) :
    Calls Try.prog 46 #[.agg #[.string s, .int .i64 n, v], .agg #[.string b, .string q], .string t] w (fun e w' => e = .returned (.tuple #[.string ⟨#[]⟩, .bool false]) ∧ Below w.heap.size w w') := by
  obtain ⟨a, cap, rfl, hcap, -⟩ := id h
  have HT := Lib.hid h
  have HR0 := Lib.hid ((RowAt.new w 25 #[.string s, .int .i64 n, .slice a L.length cap]).push (.cells #[.string b, .string q] 27))
  have HK0 : Hid (RowAt ((w.alloc (.cells #[.string s, .int .i64 n, .slice a L.length cap] 25)).alloc (.cells #[.string b, .string q] 27)) (w.heap.size + 1) 27 #[.string b, .string q]) := Lib.hid (by
    have := RowAt.new (w.alloc (.cells #[.string s, .int .i64 n, .slice a L.length cap] 25)) 27 #[.string b, .string q]
    simpa using this)
  have HB0 := Lib.hid (((Below.refl _ w).alloc (Nat.le_refl _) (.cells #[.string s, .int .i64 n, .slice a L.length cap] 25)).alloc (by simp) (.cells #[.string b, .string q] 27))
  have HC := Lib.hid (fun w h => touchOf_no s hs n (.slice a L.length cap) L b q t ht w h hl hk)
  unfold TouNo at HC
  clear h hcap hl hk ht
  generalize L.length = m at *
  simp only [zero34] at HC
  go_enter Try.func46, Try.ntmps46
  go_wp2_with (first | (refine wpList_load_row rfl 25 _ rfl _ rfl 25 _ _ _ (HR0.out) Try.underlying25 rfl (by kernel_rfl) ?_) | (refine wpList_load_row rfl 27 _ rfl _ rfl 27 _ _ _ (HK0.out) Try.underlying27 rfl (by kernel_rfl) ?_) | fail)
  refine (HC.out _ (HT.out.kept HB0.out)).mono ?_
  rintro e w1 ⟨rfl, hb1⟩
  have HB1 := Lib.hid (HB0.out.trans (hb1.mono HB0.out.size))
  clear hb1 HR0 HK0 HB0 HC HT
  go_wp2_with (first | (refine wpList_store_row rfl 116 _ _ rfl _ _ rfl rfl 116 _ (heap_at _ _ _ (by simp)) (by kernel_rfl) rfl (by kernel_rfl) ?_; rw [setRow_at _ _ _ _ _ (by simp)]) | fail)
  go_ret2
  exact ⟨rfl, HB1.out.alloc HB1.out.size _⟩

set_option maxRecDepth 100000 in
set_option maxHeartbeats 1000000 in
theorem iIsRound_no (s : ByteArray) (hs : s.size ≤ maxLen) (n : Int) (v : Value) (L : List (List Nat)) (b q t : ByteArray) (ht : t.size ≤ maxLen) (w : World) (h : Txts w v L) (hl : L.length ≤ 2000000) (hk : (goodK s n L b q && goodT t) = false) :
    Calls Try.prog 48 #[.agg #[.string s, .int .i64 n, v], .agg #[.string b, .string q], .string t] w (fun e w' => e = .returned (.tuple #[.bool false, .bool false]) ∧ Below w.heap.size w w') := by
  obtain ⟨a, cap, rfl, hcap, -⟩ := id h
  have HT := Lib.hid h
  have HR0 := Lib.hid ((RowAt.new w 25 #[.string s, .int .i64 n, .slice a L.length cap]).push (.cells #[.string b, .string q] 27))
  have HK0 : Hid (RowAt ((w.alloc (.cells #[.string s, .int .i64 n, .slice a L.length cap] 25)).alloc (.cells #[.string b, .string q] 27)) (w.heap.size + 1) 27 #[.string b, .string q]) := Lib.hid (by
    have := RowAt.new (w.alloc (.cells #[.string s, .int .i64 n, .slice a L.length cap] 25)) 27 #[.string b, .string q]
    simpa using this)
  have HB0 := Lib.hid (((Below.refl _ w).alloc (Nat.le_refl _) (.cells #[.string s, .int .i64 n, .slice a L.length cap] 25)).alloc (by simp) (.cells #[.string b, .string q] 27))
  have HC := Lib.hid (fun w h => touchOf_no s hs n (.slice a L.length cap) L b q t ht w h hl hk)
  unfold TouNo at HC
  clear h hcap hl hk ht
  generalize L.length = m at *
  simp only [zero34] at HC
  go_enter Try.func48, Try.ntmps48
  go_wp2_with (first | (refine wpList_load_row rfl 25 _ rfl _ rfl 25 _ _ _ (HR0.out) Try.underlying25 rfl (by kernel_rfl) ?_) | (refine wpList_load_row rfl 27 _ rfl _ rfl 27 _ _ _ (HK0.out) Try.underlying27 rfl (by kernel_rfl) ?_) | fail)
  refine (HC.out _ (HT.out.kept HB0.out)).mono ?_
  rintro e w1 ⟨rfl, hb1⟩
  have HB1 := Lib.hid (HB0.out.trans (hb1.mono HB0.out.size))
  clear hb1 HR0 HK0 HB0 HC HT
  go_wp2_with (first | (refine wpList_store_row rfl 116 _ _ rfl _ _ rfl rfl 116 _ (heap_at _ _ _ (by simp)) (by kernel_rfl) rfl (by kernel_rfl) ?_; rw [setRow_at _ _ _ _ _ (by simp)]) | fail)
  go_ret2
  exact ⟨rfl, HB1.out.alloc HB1.out.size _⟩

set_option maxRecDepth 100000 in
set_option maxHeartbeats 1000000 in
theorem iTouchRows_no (s : ByteArray) (hs : s.size ≤ maxLen) (n : Int) (v : Value) (L : List (List Nat)) (b q t : ByteArray) (ht : t.size ≤ maxLen) (w : World) (h : Txts w v L) (hl : L.length ≤ 2000000) (hk : (goodK s n L b q && goodT t) = false) :
    Calls Try.prog 44 #[.agg #[.string s, .int .i64 n, v], .agg #[.string b, .string q], .string t] w (TextsAny [] false w) := by
  obtain ⟨a, cap, rfl, hcap, -⟩ := id h
  have HT := Lib.hid h
  have HR0 := Lib.hid ((RowAt.new w 25 #[.string s, .int .i64 n, .slice a L.length cap]).push (.cells #[.string b, .string q] 27))
  have HK0 : Hid (RowAt ((w.alloc (.cells #[.string s, .int .i64 n, .slice a L.length cap] 25)).alloc (.cells #[.string b, .string q] 27)) (w.heap.size + 1) 27 #[.string b, .string q]) := Lib.hid (by
    have := RowAt.new (w.alloc (.cells #[.string s, .int .i64 n, .slice a L.length cap] 25)) 27 #[.string b, .string q]
    simpa using this)
  have HB0 := Lib.hid (((Below.refl _ w).alloc (Nat.le_refl _) (.cells #[.string s, .int .i64 n, .slice a L.length cap] 25)).alloc (by simp) (.cells #[.string b, .string q] 27))
  have HC := Lib.hid (fun w h => touchOf_no s hs n (.slice a L.length cap) L b q t ht w h hl hk)
  unfold TouNo at HC
  clear h hcap hl hk ht
  generalize L.length = m at *
  simp only [zero34] at HC
  go_enter Try.func44, Try.ntmps44
  go_wp2_with (first | (refine wpList_load_row rfl 25 _ rfl _ rfl 25 _ _ _ (HR0.out) Try.underlying25 rfl (by kernel_rfl) ?_) | (refine wpList_load_row rfl 27 _ rfl _ rfl 27 _ _ _ (HK0.out) Try.underlying27 rfl (by kernel_rfl) ?_) | fail)
  refine (HC.out _ (HT.out.kept HB0.out)).mono ?_
  rintro e w1 ⟨rfl, hb1⟩
  have HB1 := Lib.hid (HB0.out.trans (hb1.mono HB0.out.size))
  clear hb1 HR0 HK0 HB0 HC HT
  go_wp2_with (first | (refine wpList_store_row rfl 116 _ _ rfl _ _ rfl rfl 116 _ (heap_at _ _ _ (by simp)) (by kernel_rfl) rfl (by kernel_rfl) ?_; rw [setRow_at _ _ _ _ _ (by simp)]) | fail)
  go_ret2
  exact ⟨_, rfl, New.nil _ _ _, HB1.out.alloc HB1.out.size _⟩

set_option maxRecDepth 100000 in
set_option maxHeartbeats 1000000 in
theorem iTouchHeads_yes (s : ByteArray) (hs : s.size ≤ maxLen) (n : Nat) (v : Value) (L : List (List Nat)) (b q t : ByteArray) (w : World) (h : Txts w v L) (hl : L.length ≤ 2000000) (hg : goodK s n L b q = true) (hgt : goodT t = true) :
    Calls Try.prog 42 #[.agg #[.string s, .int .i64 n, v], .agg #[.string b, .string q], .string t] w (TextsAny (rowsL n (headsT n L b q t)) true w) := by
  obtain ⟨a, cap, rfl, hcap, -⟩ := id h
  have HT := Lib.hid h
  have HR0 := Lib.hid ((RowAt.new w 25 #[.string s, .int .i64 n, .slice a L.length cap]).push (.cells #[.string b, .string q] 27))
  have HK0 : Hid (RowAt ((w.alloc (.cells #[.string s, .int .i64 n, .slice a L.length cap] 25)).alloc (.cells #[.string b, .string q] 27)) (w.heap.size + 1) 27 #[.string b, .string q]) := Lib.hid (by
    have := RowAt.new (w.alloc (.cells #[.string s, .int .i64 n, .slice a L.length cap] 25)) 27 #[.string b, .string q]
    simpa using this)
  have HB0 := Lib.hid (((Below.refl _ w).alloc (Nat.le_refl _) (.cells #[.string s, .int .i64 n, .slice a L.length cap] 25)).alloc (by simp) (.cells #[.string b, .string q] 27))
  have HC := Lib.hid (fun w h => touchOf_yes s hs n (.slice a L.length cap) L b q t w h hl hg hgt)
  unfold TouYes at HC
  have hlen := goodM_nat (goodK_parts hg).1
  have h60 := (goodT_parts hgt).2.1
  have hks := kindsT_lt t
  have hkl := kindsT_len t
  have r0 := isRow_hdK hg 0
  have r1 := isRow_hdK hg 1
  have r2 := isRow_hdK hg 2
  have hrs := rows_headsT hg t
  have hhl := headsT_len n L b q t
  have HLH : Hid (∀ a m cap a2 k2 W, Own W 3 (.slice a2 t.size k2) (nums (kindsT t)) → Calls Try.prog 109 #[.agg (touV (.slice a m cap) (rdf n) (hdK n L b q 0) (hdK n L b q 1) (hdK n L b q 2) (.slice a2 t.size k2))] W (RowsOut (headsT n L b q t) W)) := Lib.hid (fun a m cap a2 k2 W hW => by
    have := leadHeads_any n a m cap _ _ _ hlen.1 hlen.2.1 r0 r1 r2 (kindsT t) hks a2 k2 W (by rw [hkl]; exact hW) (by omega)
    rw [pk3_turns, hkl] at this
    exact this)
  have HRT := Lib.hid (fun v w h => rowTexts_any n v (headsT n L b q t) hrs (by omega) w h)
  unfold RowsOut at HLH
  unfold TextsOut at HRT
  unfold TextsAny
  generalize rowsL n (headsT n L b q t) = rl at *
  generalize headsT n L b q t = D at *
  generalize hdK n L b q 0 = h0 at *
  generalize hdK n L b q 1 = h1 at *
  generalize hdK n L b q 2 = h2 at *
  generalize rdf n = f at *
  generalize chR n L = cs at *
  generalize kindsT t = ks at *
  generalize t.size = p at *
  clear h hcap hl hg hgt hlen hks hrs hhl
  generalize L.length = m at *
  go_enter Try.func42, Try.ntmps42
  go_wp2_with (first | (refine wpList_load_row rfl 25 _ rfl _ rfl 25 _ _ _ (HR0.out) Try.underlying25 rfl (by kernel_rfl) ?_) | (refine wpList_load_row rfl 27 _ rfl _ rfl 27 _ _ _ (HK0.out) Try.underlying27 rfl (by kernel_rfl) ?_) | fail)
  refine (HC.out _ (HT.out.kept HB0.out)).mono ?_
  rintro e w1 ⟨a1, k1, a2, k2, rfl, hn1, hq1, hb1⟩
  have HB1 := Lib.hid (HB0.out.trans (hb1.mono HB0.out.size))
  have hal := (Below.refl w1.heap.size w1).alloc (Nat.le_refl _) (.cells (touV (.slice a1 m k1) f h0 h1 h2 (.slice a2 p k2)) 116)
  have HX2 := Lib.hid (RowAt.new w1 116 (touV (.slice a1 m k1) f h0 h1 h2 (.slice a2 p k2)))
  have HB2 := Lib.hid (HB1.out.trans (hal.mono HB1.out.size))
  have HN2 := Lib.hid (hn1.kept hal)
  have HQ2 := Lib.hid (hq1.kept hal)
  clear hb1 hn1 hq1 HR0 HK0 HB0 HC HT HB1 hal
  simp only [touV] at HX2 HB2 HN2 HQ2 HLH ⊢
  go_wp2_with (first | (refine wpList_store_row rfl 116 _ _ rfl _ _ rfl rfl 116 _ (heap_at _ _ _ (by simp)) (by kernel_rfl) rfl (by kernel_rfl) ?_; rw [setRow_at _ _ _ _ _ (by simp)]) | (refine wpList_load_row rfl 116 _ rfl _ rfl 116 _ _ _ (HX2.out) Try.underlying116 rfl (by kernel_rfl) ?_) | fail)
  refine (HLH.out _ _ _ _ _ _ HQ2.out.own).mono ?_
  rintro e3 w3 ⟨v3, rfl, hn3, hb3⟩
  have HB3 := Lib.hid (HB2.out.trans (hb3.mono HB2.out.size))
  have HN3 := Lib.hid hn3
  clear hb3 hn3
  go_wp2_with fail
  refine (HRT.out _ _ HN3.out.digs).mono ?_
  rintro e4 w4 ⟨v4, rfl, hn4, hb4⟩
  have HN4 := Lib.hid (hn4.lower HB3.out.size)
  have HB4 := Lib.hid (HB3.out.trans (hb4.mono HB3.out.size))
  clear hb4 hn4
  go_wp2
  go_ret2
  exact ⟨_, rfl, HN4.out, HB4.out⟩

set_option maxRecDepth 100000 in
set_option maxHeartbeats 1000000 in
theorem iTouchEnd_yes (s : ByteArray) (hs : s.size ≤ maxLen) (n : Nat) (v : Value) (L : List (List Nat)) (b q t : ByteArray) (w : World) (h : Txts w v L) (hl : L.length ≤ 2000000) (hg : goodK s n L b q = true) (hgt : goodT t = true) :
    Calls Try.prog 46 #[.agg #[.string s, .int .i64 n, v], .agg #[.string b, .string q], .string t] w fun e w' => e = .returned (.tuple #[.string (strOf n (headF n (turnsT n L b q t))), .bool true]) ∧ Below w.heap.size w w' := by
  obtain ⟨a, cap, rfl, hcap, -⟩ := id h
  have HT := Lib.hid h
  have HR0 := Lib.hid ((RowAt.new w 25 #[.string s, .int .i64 n, .slice a L.length cap]).push (.cells #[.string b, .string q] 27))
  have HK0 : Hid (RowAt ((w.alloc (.cells #[.string s, .int .i64 n, .slice a L.length cap] 25)).alloc (.cells #[.string b, .string q] 27)) (w.heap.size + 1) 27 #[.string b, .string q]) := Lib.hid (by
    have := RowAt.new (w.alloc (.cells #[.string s, .int .i64 n, .slice a L.length cap] 25)) 27 #[.string b, .string q]
    simpa using this)
  have HB0 := Lib.hid (((Below.refl _ w).alloc (Nat.le_refl _) (.cells #[.string s, .int .i64 n, .slice a L.length cap] 25)).alloc (by simp) (.cells #[.string b, .string q] 27))
  have HC := Lib.hid (fun w h => touchOf_yes s hs n (.slice a L.length cap) L b q t w h hl hg hgt)
  unfold TouYes at HC
  have hlen := goodM_nat (goodK_parts hg).1
  have h60 := (goodT_parts hgt).2.1
  have hks := kindsT_lt t
  have hkl := kindsT_len t
  have r0 := isRow_hdK hg 0
  have r1 := isRow_hdK hg 1
  have r2 := isRow_hdK hg 2
  have HLH : Hid (∀ a m cap a2 k2 W, Own W 3 (.slice a2 t.size k2) (nums (kindsT t)) → Calls Try.prog 114 #[.agg (touV (.slice a m cap) (rdf n) (hdK n L b q 0) (hdK n L b q 1) (hdK n L b q 2) (.slice a2 t.size k2))] W fun e w' => e = .returned (.agg (dig8 (headF n (turnsT n L b q t)))) ∧ Below W.heap.size W w') := Lib.hid (fun a m cap a2 k2 W hW => by
    have := lastHead_any n a m cap _ _ _ hlen.1 hlen.2.1 r0 r1 r2 (kindsT t) hks a2 k2 W (by rw [hkl]; exact hW) (by omega)
    rw [pk3_turns, hkl] at this
    exact this)
  have hre := isRow_head hlen.1 hlen.2.1 (rows_turnsT hg t)
  have HRW := Lib.hid (row_any n (headF n (turnsT n L b q t)) (isDig_of hre))
  generalize strOf n (headF n (turnsT n L b q t)) = tx at *
  generalize headF n (turnsT n L b q t) = z at *
  generalize rdf n = f at *
  generalize hdK n L b q 0 = h0 at *
  generalize hdK n L b q 1 = h1 at *
  generalize hdK n L b q 2 = h2 at *
  generalize chR n L = cs at *
  generalize kindsT t = ks at *
  generalize t.size = p at *
  clear h hcap hl hg hgt hlen hks hre
  generalize L.length = m at *
  go_enter Try.func46, Try.ntmps46
  go_wp2_with (first | (refine wpList_load_row rfl 25 _ rfl _ rfl 25 _ _ _ (HR0.out) Try.underlying25 rfl (by kernel_rfl) ?_) | (refine wpList_load_row rfl 27 _ rfl _ rfl 27 _ _ _ (HK0.out) Try.underlying27 rfl (by kernel_rfl) ?_) | fail)
  refine (HC.out _ (HT.out.kept HB0.out)).mono ?_
  rintro e w1 ⟨a1, k1, a2, k2, rfl, hn1, hq1, hb1⟩
  have HB1 := Lib.hid (HB0.out.trans (hb1.mono HB0.out.size))
  have hal := (Below.refl w1.heap.size w1).alloc (Nat.le_refl _) (.cells (touV (.slice a1 m k1) f h0 h1 h2 (.slice a2 p k2)) 116)
  have HX2 := Lib.hid (RowAt.new w1 116 (touV (.slice a1 m k1) f h0 h1 h2 (.slice a2 p k2)))
  have HB2 := Lib.hid (HB1.out.trans (hal.mono HB1.out.size))
  have HN2 := Lib.hid (hn1.kept hal)
  have HQ2 := Lib.hid (hq1.kept hal)
  clear hb1 hn1 hq1 HR0 HK0 HB0 HC HT HB1 hal
  simp only [touV] at HX2 HB2 HN2 HQ2 HLH ⊢
  go_wp2_with (first | (refine wpList_store_row rfl 116 _ _ rfl _ _ rfl rfl 116 _ (heap_at _ _ _ (by simp)) (by kernel_rfl) rfl (by kernel_rfl) ?_; rw [setRow_at _ _ _ _ _ (by simp)]) | (refine wpList_load_row rfl 116 _ rfl _ rfl 116 _ _ _ (HX2.out) Try.underlying116 rfl (by kernel_rfl) ?_) | fail)
  refine (HLH.out _ _ _ _ _ _ HQ2.out.own).mono ?_
  rintro e3 w3 ⟨rfl, hb3⟩
  have HB3 := Lib.hid (HB2.out.trans (hb3.mono HB2.out.size))
  clear hb3
  go_wp2_with fail
  refine (HRW.out _).mono ?_
  rintro e4 w4 ⟨rfl, hb4⟩
  have HB4 := Lib.hid (HB3.out.trans (hb4.mono HB3.out.size))
  go_wp2
  go_ret2
  exact ⟨rfl, HB4.out⟩
end Go.Proofs.Ytkhglknpcajmiaa
