/- TouchRows in the program. -/
import Derived.Test.YtkhglknpcajmiaaXO
namespace Go.Proofs.Ytkhglknpcajmiaa
open Go.RowKit
set_option linter.unusedSimpArgs false
set_option linter.unusedVariables false

set_option maxRecDepth 100000 in
set_option maxHeartbeats 1000000 in
theorem iTouchRows_big (s : ByteArray) (hs : s.size ≤ maxLen) (n : Nat) (v : Value) (L : List (List Nat)) (b q t : ByteArray) (w : World) (h : Txts w v L) (hl : L.length ≤ 2000000) (hg : goodK s n L b q = true) (hgt : goodT t = true) (hbig : 800 < t.size * L.length) :
    Calls Try.prog 44 #[.agg #[.string s, .int .i64 n, v], .agg #[.string b, .string q], .string t] w (TextsAny [] false w) := by
  obtain ⟨a, cap, rfl, hcap, -⟩ := id h
  have HT := Lib.hid h
  have HR0 := Lib.hid ((RowAt.new w 25 #[.string s, .int .i64 n, .slice a L.length cap]).push (.cells #[.string b, .string q] 27))
  have HK0 : Hid (RowAt ((w.alloc (.cells #[.string s, .int .i64 n, .slice a L.length cap] 25)).alloc (.cells #[.string b, .string q] 27)) (w.heap.size + 1) 27 #[.string b, .string q]) := Lib.hid (by
    have := RowAt.new (w.alloc (.cells #[.string s, .int .i64 n, .slice a L.length cap] 25)) 27 #[.string b, .string q]
    simpa using this)
  have HB0 := Lib.hid (((Below.refl _ w).alloc (Nat.le_refl _) (.cells #[.string s, .int .i64 n, .slice a L.length cap] 25)).alloc (by simp) (.cells #[.string b, .string q] 27))
  have HC := Lib.hid (fun w h => touchOf_yes s hs n (.slice a L.length cap) L b q t w h hl hg hgt)
  unfold TouYes at HC
  have hlen := goodM_nat (goodK_parts hg).1
  have h60 := (goodT_parts hgt).2.1
  have hks := kindsT_lt t
  have hkl := kindsT_len t
  have r0 := isRow_hdK hg 0
  have r1 := isRow_hdK hg 1
  have r2 := isRow_hdK hg 2
  have HLH : Hid (∀ a cap a2 k2 W, Calls Try.prog 112 #[.agg (touV (.slice a L.length cap) (rdf n) (hdK n L b q 0) (hdK n L b q 1) (hdK n L b q 2) (.slice a2 t.size k2))] W fun e w' => e = .returned (.tuple #[.slice none 0 0, .bool false]) ∧ Below W.heap.size W w') := Lib.hid (fun a cap a2 k2 W => by
    have := allRows_big n a L.length cap (hdK n L b q 0) (hdK n L b q 1) (hdK n L b q 2) hlen.1 hlen.2.1 r0 r1 r2 (kindsT t) hks a2 k2 W (by rw [hkl]; exact hbig) (by omega) (by have := hlen.2.2.2.1; rwa [chR_len] at this)
    rw [hkl] at this
    exact this)
  unfold TextsAny
  clear hbig
  generalize rdf n = f at *
  generalize hdK n L b q 0 = h0 at *
  generalize hdK n L b q 1 = h1 at *
  generalize hdK n L b q 2 = h2 at *
  generalize chR n L = cs at *
  generalize kindsT t = ks at *
  generalize t.size = p at *
  clear h hcap hl hg hgt hlen hks r0 r1 r2 hkl h60
  generalize L.length = m at *
  go_enter Try.func44, Try.ntmps44
  go_wp2_with (first | (refine wpList_load_row rfl 25 _ rfl _ rfl 25 _ _ _ (HR0.out) Try.underlying25 rfl (by kernel_rfl) ?_) | (refine wpList_load_row rfl 27 _ rfl _ rfl 27 _ _ _ (HK0.out) Try.underlying27 rfl (by kernel_rfl) ?_) | fail)
  refine (HC.out _ (HT.out.kept HB0.out)).mono ?_
  rintro e w1 ⟨a1, k1, a2, k2, rfl, hn1, hq1, hb1⟩
  have HB1 := Lib.hid (HB0.out.trans (hb1.mono HB0.out.size))
  have hal := (Below.refl w1.heap.size w1).alloc (Nat.le_refl _) (.cells (touV (.slice a1 m k1) f h0 h1 h2 (.slice a2 p k2)) 116)
  have HX2 := Lib.hid (RowAt.new w1 116 (touV (.slice a1 m k1) f h0 h1 h2 (.slice a2 p k2)))
  have HB2 := Lib.hid (HB1.out.trans (hal.mono HB1.out.size))
  have HN2 := Lib.hid (hn1.kept hal)
  have HQ2 := Lib.hid (hq1.kept hal)
  clear hb1 hn1 hq1 HR0 HK0 HB0 HC HT HB1 hal
  simp only [touV] at HX2 HB2 HN2 HQ2 HLH ⊢
  go_wp2_with (first | (refine wpList_store_row rfl 116 _ _ rfl _ _ rfl rfl 116 _ (heap_at _ _ _ (by simp)) (by kernel_rfl) rfl (by kernel_rfl) ?_; rw [setRow_at _ _ _ _ _ (by simp)]) | (refine wpList_load_row rfl 116 _ rfl _ rfl 116 _ _ _ (HX2.out) Try.underlying116 rfl (by kernel_rfl) ?_) | fail)
  refine (HLH.out _ _ _ _ _).mono ?_
  rintro e3 w3 ⟨rfl, hb3⟩
  have HB3 := Lib.hid (HB2.out.trans (hb3.mono HB2.out.size))
  go_wp2
  go_ret2
  exact ⟨_, rfl, New.nil _ _ _, HB3.out⟩

set_option maxRecDepth 100000 in
set_option maxHeartbeats 1000000 in
theorem iTouchRows_yes (s : ByteArray) (hs : s.size ≤ maxLen) (n : Nat) (v : Value) (L : List (List Nat)) (b q t : ByteArray) (w : World) (h : Txts w v L) (hl : L.length ≤ 2000000) (hg : goodK s n L b q = true) (hgt : goodT t = true) (hbig : t.size * L.length ≤ 800) :
    Calls Try.prog 44 #[.agg #[.string s, .int .i64 n, v], .agg #[.string b, .string q], .string t] w (TextsAny (rowsL n (rowsT n (chR n L) (leadF n (turnsT n L b q t) (rdf n)))) true w) := by
  obtain ⟨a, cap, rfl, hcap, -⟩ := id h
  have HT := Lib.hid h
  have HR0 := Lib.hid ((RowAt.new w 25 #[.string s, .int .i64 n, .slice a L.length cap]).push (.cells #[.string b, .string q] 27))
  have HK0 : Hid (RowAt ((w.alloc (.cells #[.string s, .int .i64 n, .slice a L.length cap] 25)).alloc (.cells #[.string b, .string q] 27)) (w.heap.size + 1) 27 #[.string b, .string q]) := Lib.hid (by
    have := RowAt.new (w.alloc (.cells #[.string s, .int .i64 n, .slice a L.length cap] 25)) 27 #[.string b, .string q]
    simpa using this)
  have HB0 := Lib.hid (((Below.refl _ w).alloc (Nat.le_refl _) (.cells #[.string s, .int .i64 n, .slice a L.length cap] 25)).alloc (by simp) (.cells #[.string b, .string q] 27))
  have HC := Lib.hid (fun w h => touchOf_yes s hs n (.slice a L.length cap) L b q t w h hl hg hgt)
  unfold TouYes at HC
  have hlen := goodM_nat (goodK_parts hg).1
  have h60 := (goodT_parts hgt).2.1
  have hks := kindsT_lt t
  have hkl := kindsT_len t
  have r0 := isRow_hdK hg 0
  have r1 := isRow_hdK hg 1
  have r2 := isRow_hdK hg 2
  have HLH : Hid (∀ a cap a2 k2 W, Own W 3 (.slice a2 t.size k2) (nums (kindsT t)) → Digs W (.slice a L.length cap) (chR n L) → Calls Try.prog 112 #[.agg (touV (.slice a L.length cap) (rdf n) (hdK n L b q 0) (hdK n L b q 1) (hdK n L b q 2) (.slice a2 t.size k2))] W (RowsYes (rowsT n (chR n L) (leadF n (turnsT n L b q t) (rdf n))) W)) := Lib.hid (fun a cap a2 k2 W hW hD => by
    have := allRows_ok n a L.length cap (hdK n L b q 0) (hdK n L b q 1) (hdK n L b q 2) hlen.1 hlen.2.1 r0 r1 r2 (kindsT t) hks a2 k2 W (chR n L) hlen.2.2.1 (chR_len n L) hD (by rw [hkl]; exact hW) (by rw [hkl]; exact hbig) (by omega) (by have := hlen.2.2.2.1; rwa [chR_len] at this) (by have := hlen.2.2.2.2; rwa [chR_len] at this)
    rw [pk3_turns, hkl] at this
    exact this)
  have hlead : Rows n (leadF n (turnsT n L b q t) (rdf n)) := rows_lead (rows_turnsT hg t) (isRow_rdf hlen.1 hlen.2.1)
  have hrl : (rowsT n (chR n L) (leadF n (turnsT n L b q t) (rdf n))).length ≤ 800 := by
    rw [rowsT_len, leadF_len, turnsT_len, chR_len]
    exact hbig
  have HRT := Lib.hid (fun v w h => rowTexts_any n v (rowsT n (chR n L) (leadF n (turnsT n L b q t) (rdf n))) (rows_rowsT hlen.2.2.1 hlead) (by omega) w h)
  unfold RowsYes at HLH
  unfold TextsOut at HRT
  unfold TextsAny
  clear hbig hlead hrl
  generalize rowsL n (rowsT n (chR n L) (leadF n (turnsT n L b q t) (rdf n))) = rl at *
  generalize (rowsT n (chR n L) (leadF n (turnsT n L b q t) (rdf n))) = RR at *
  generalize rdf n = f at *
  generalize hdK n L b q 0 = h0 at *
  generalize hdK n L b q 1 = h1 at *
  generalize hdK n L b q 2 = h2 at *
  generalize chR n L = cs at *
  generalize kindsT t = ks at *
  generalize t.size = p at *
  clear h hcap hl hg hgt hlen hks r0 r1 r2 hkl h60
  generalize L.length = m at *
  go_enter Try.func44, Try.ntmps44
  go_wp2_with (first | (refine wpList_load_row rfl 25 _ rfl _ rfl 25 _ _ _ (HR0.out) Try.underlying25 rfl (by kernel_rfl) ?_) | (refine wpList_load_row rfl 27 _ rfl _ rfl 27 _ _ _ (HK0.out) Try.underlying27 rfl (by kernel_rfl) ?_) | fail)
  refine (HC.out _ (HT.out.kept HB0.out)).mono ?_
  rintro e w1 ⟨a1, k1, a2, k2, rfl, hn1, hq1, hb1⟩
  have HB1 := Lib.hid (HB0.out.trans (hb1.mono HB0.out.size))
  have hal := (Below.refl w1.heap.size w1).alloc (Nat.le_refl _) (.cells (touV (.slice a1 m k1) f h0 h1 h2 (.slice a2 p k2)) 116)
  have HX2 := Lib.hid (RowAt.new w1 116 (touV (.slice a1 m k1) f h0 h1 h2 (.slice a2 p k2)))
  have HB2 := Lib.hid (HB1.out.trans (hal.mono HB1.out.size))
  have HN2 := Lib.hid (hn1.kept hal)
  have HQ2 := Lib.hid (hq1.kept hal)
  clear hb1 hn1 hq1 HR0 HK0 HB0 HC HT HB1 hal
  simp only [touV] at HX2 HB2 HN2 HQ2 HLH ⊢
  go_wp2_with (first | (refine wpList_store_row rfl 116 _ _ rfl _ _ rfl rfl 116 _ (heap_at _ _ _ (by simp)) (by kernel_rfl) rfl (by kernel_rfl) ?_; rw [setRow_at _ _ _ _ _ (by simp)]) | (refine wpList_load_row rfl 116 _ rfl _ rfl 116 _ _ _ (HX2.out) Try.underlying116 rfl (by kernel_rfl) ?_) | fail)
  refine (HLH.out _ _ _ _ _ HQ2.out.own HN2.out.digs).mono ?_
  rintro e3 w3 ⟨v3, rfl, hn3, hb3⟩
  have HB3 := Lib.hid (HB2.out.trans (hb3.mono HB2.out.size))
  have HN3 := Lib.hid hn3
  clear hb3 hn3
  go_wp2_with fail
  refine (HRT.out _ _ HN3.out.digs).mono ?_
  rintro e4 w4 ⟨v4, rfl, hn4, hb4⟩
  have HN4 := Lib.hid (hn4.lower HB3.out.size)
  have HB4 := Lib.hid (HB3.out.trans (hb4.mono HB3.out.size))
  clear hb4 hn4
  go_wp2
  go_ret2
  exact ⟨_, rfl, HN4.out, HB4.out⟩
end Go.Proofs.Ytkhglknpcajmiaa
