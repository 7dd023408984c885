/- The place of a bell and its path, in the model. Paths and place bells in the model. PathOf and PlaceBells in the model. -/
import Derived.Test.YtpfnamiacagocaaEB
import Derived.Test.YtpfnamiacagocaaNA
namespace Go.Proofs.Ytpfnamiacagocaa
open Go.RowKit
set_option linter.unusedSimpArgs false
set_option linter.unusedVariables false

set_option maxRecDepth 100000 in
set_option maxHeartbeats 1000000 in
theorem l5Place_any (n : Nat) (f : Nat → Nat) (hf : IsRow n f) (b : Nat) (h1 : 1 ≤ b) (hb : b ≤ n) (w : World) :
    Calls Try.prog 105 #[.string (strOf n f), .int .i64 b] w fun e w' => e = .returned (.int .i64 (plc n f b)) ∧ w = w' := by
  have h8 := hf.eight
  obtain ⟨p1, p2, p3⟩ := plc_spec hf h1 hb
  have HF := Lib.hid hf
  have HAT := Lib.hid (fun p a1 a2 a48 w => l1At_any n f (strOf n f) (isStr_row hf) p a1 a2 h8 a48 w)
  have HP : Hid (∀ i, i < n → f i = 48 + b → plc n f b = i + 1) := Lib.hid (fun i hi e => plc_uniq hf h1 hb hi e)
  have hsz := strOf_size n f
  have HP3 := Lib.hid p3
  generalize plc n f b = pp at *
  generalize strOf n f = th at *
  subst hsz
  clear hf p3
  go_enter Try.func105, Try.ntmps105
  go_wp2
  go_loopg [5] pp (fun q x wr => ∃ i : Nat, q + i = pp + 1 ∧ 1 ≤ i ∧ i ≤ pp ∧ x = .int .i64 i ∧ w = wr)
  case atStart => exact ⟨1, rfl, by omega, by omega, rfl, rfl⟩
  case round =>
    obtain ⟨i, hq, hi1, hip, rfl, rfl⟩ := hrel
    have hii : (i : Int) ≤ th.size := by omega
    have hlo := HF.out.lo (i - 1) (by omega)
    have HA := Lib.hid (HAT.out (i : Int) (by omega) (by omega) (by rw [show ((i : Int)).toNat - 1 = i - 1 by omega]; omega) w)
    rw [show ((i : Int)).toNat - 1 = i - 1 by omega] at HA
    by_cases he : i = pp
    · subst he
      have e3 : ((f (i - 1) : Int) - 48 == (b : Int)) = true := by rw [HP3.out]; simp; omega
      go_wp2_with (first | (go_at_call 124; refine HA.out.mono ?_; rintro e w1 ⟨rfl, rfl⟩) | fail)
      go_ret
      exact ⟨rfl, rfl⟩
    · have e3 : ((f (i - 1) : Int) - 48 == (b : Int)) = false := by
        rw [beq_eq_false_iff_ne]
        intro e
        have := HP.out (i - 1) (by omega) (by omega)
        omega
      go_wp2_with (first | (go_at_call 124; refine HA.out.mono ?_; rintro e w1 ⟨rfl, rfl⟩) | fail)
      go_roundg (pp - i)
      case measure => omega
      case rel => exact ⟨i + 1, by omega, by omega, by omega, by go_num, rfl⟩

set_option maxRecDepth 100000 in
set_option maxHeartbeats 1000000 in
theorem l5Asked_any (s : ByteArray) (hs : s.size ≤ maxLen) (n : Int) (v : Value) (L : List (List Nat)) (b : Int) (w : World) (h : Txts w v L) (hl : L.length ≤ 2000000) (hsm : Small L) :
    Calls Try.prog 81 #[.agg #[.string s, .int .i64 n, v], .int .i64 b] w fun e w' => e = .returned (.bool (askB s n L b)) ∧ Below w.heap.size w w' := by
  obtain ⟨a, cap, rfl, hcap, -⟩ := id h
  have HT := Lib.hid h
  have HR0 := Lib.hid (RowAt.new w 26 #[.string s, .int .i64 n, .slice a L.length cap])
  have HB0 := Lib.hid ((Below.refl _ w).alloc (Nat.le_refl _) (.cells #[.string s, .int .i64 n, .slice a L.length cap] 26))
  have HG := Lib.hid (fun w h => l4Good_any s hs n (.slice a L.length cap) L w h hl hsm)
  unfold askB
  clear h hcap hl hsm
  generalize goodM s n L = gm at *
  generalize L.length = m at *
  have HIN := Lib.hid (fun w => l1In_any b 1 n w)
  generalize (decide (1 ≤ b) && decide (b ≤ n)) = ib at *
  cases gm
  · rw [Bool.false_and]
    go_enter Try.func81, Try.ntmps81
    go_wp2_with (first | (refine wpList_load_row rfl 26 _ rfl _ rfl 26 _ _ _ (HR0.out) Try.underlying26 rfl (by kernel_rfl) ?_) | fail)
    refine (HG.out _ (HT.out.kept HB0.out)).mono ?_
    rintro e w1 ⟨rfl, hb1⟩
    have HB1 := Lib.hid (HB0.out.trans (hb1.mono HB0.out.size))
    go_wp2
    go_ret
    exact ⟨rfl, HB1.out⟩
  · rw [Bool.true_and]
    go_enter Try.func81, Try.ntmps81
    go_wp2_with (first | (refine wpList_load_row rfl 26 _ rfl _ rfl 26 _ _ _ (HR0.out) Try.underlying26 rfl (by kernel_rfl) ?_) | fail)
    refine (HG.out _ (HT.out.kept HB0.out)).mono ?_
    rintro e w1 ⟨rfl, hb1⟩
    have HB1 := Lib.hid (HB0.out.trans (hb1.mono HB0.out.size))
    have c1 := (HR0.out.kept hb1).cell 1 rfl
    go_wp2_with (first | (go_at_call 77; refine (HIN.out _).mono ?_; rintro e w2 ⟨rfl, rfl⟩) | fail)
    go_ret
    exact ⟨rfl, HB1.out⟩
end Go.Proofs.Ytpfnamiacagocaa
namespace Go.Proofs.Ytpfnamiacagocaa
open Go.RowKit
set_option linter.unusedSimpArgs false
set_option linter.unusedVariables false

theorem plc_le (n : Nat) (f : Nat → Nat) (b : Nat) (h : IsRow n f) (h1 : 1 ≤ b) (hb : b ≤ n) : plc n f b ≤ 8 := by
  have := plc_spec h h1 hb
  have := h.eight
  omega
set_option maxRecDepth 100000 in
set_option maxHeartbeats 1000000 in
theorem l5Path_any (s : ByteArray) (n : Nat) (v : Value) (L : List (List Nat)) (hg : goodAll n L = true) (h40 : L.length ≤ 40) (b : Nat) (h1 : 1 ≤ b) (hb : b ≤ n) (w : World) (h : Txts w v L) :
    Calls Try.prog 63 #[.agg #[.string s, .int .i64 n, v], .int .i64 b] w (NumsOut (pathF n (chR n L) (rdf n) b) w) := by
  obtain ⟨a, cap, rfl, hcap, -⟩ := id h
  have hr := goodAll_range hg
  have HT := Lib.hid h
  have HR0 := Lib.hid (RowAt.new w 26 #[.string s, .int .i64 n, .slice a L.length cap])
  have HB0 := Lib.hid ((Below.refl _ w).alloc (Nat.le_refl _) (.cells #[.string s, .int .i64 n, .slice a L.length cap] 26))
  have HR := Lib.hid (l1Rounds_any n (by omega))
  have hrd : IsRow n (rdf n) := isRow_rdf (by omega) (by omega)
  have HL := Lib.hid (fun w h => l4Lead_any n (.slice a L.length cap) L (rdf n) hrd hg w h)
  rw [strOf_rdf] at HL
  unfold LeadOut at HL
  have hrows := goodAll_rows hg
  have hlead := rows_lead hrows hrd
  have hend := isRow_end hrows hrd
  have hpath : pathF n (chR n L) (rdf n) b = (leadF n (chR n L) (rdf n)).map (fun g => plc n g b) ++ [plc n (endF n (chR n L) (rdf n)) b] := by simp [pathF]
  rw [hpath]
  have HPE := Lib.hid (fun w => l5Place_any n _ hend b h1 hb w)
  have hpe8 := plc_le n _ b hend h1 hb
  have hll : (leadF n (chR n L) (rdf n)).length = L.length := by rw [leadF_len, chR_len]
  have HLR : Hid (∀ i (hi : i < (leadF n (chR n L) (rdf n)).length) w, Calls Try.prog 105 #[.string (strOf n (leadF n (chR n L) (rdf n))[i]), .int .i64 b] w fun e w' => e = .returned (.int .i64 (plc n (leadF n (chR n L) (rdf n))[i] b)) ∧ w = w') := Lib.hid (fun i hi w => l5Place_any n _ (hlead _ (List.getElem_mem hi)) b h1 hb w)
  generalize plc n (endF n (chR n L) (rdf n)) b = pe at *
  generalize strOf n (endF n (chR n L) (rdf n)) = th at *
  generalize leadF n (chR n L) (rdf n) = lf at *
  generalize rnds n = rn at *
  have HLL := Lib.hid hll
  obtain ⟨i0, hi0, hz0, hz1, hz2⟩ := info_parts infoInt
  have I0 := Lib.hid (⟨hi0, hz0, hz1, hz2⟩ : _ ∧ _ ∧ _ ∧ _)
  have c1 := HR0.out.cell 1 rfl
  have c2 := HR0.out.cell 2 rfl
  clear h hcap hg hr hrows hlead hend hpath hll hi0 hz0 hz1 hz2 hrd
  unfold NumsOut
  have hm40 : (L.length : Int) ≤ 40 := by omega
  generalize L.length = m at *
  go_enter Try.func63, Try.ntmps63
  go_wp2
  generalize w.alloc (.cells #[.string s, .int .i64 n, .slice a m cap] 26) = w0 at *
  have hlt : w.heap.size < w0.heap.size := HR0.out.lt
  have HS : Hid (∀ W, (W.cell? ⟨w.heap.size, 1, none⟩ = some (.int .i64 n) ∧ W.cell? ⟨w.heap.size, 2, none⟩ = some (.slice a m cap) ∧ Below w0.heap.size w0 W) → Calls Try.prog 103 #[.slice a m cap, .string rn] W fun e w' => (∃ v, (∃ b c, v = .slice b m c) ∧ New w0.heap.size w' 9 v (strs (rowsL n lf)) ∧ e = .returned (.tuple #[v, .string th])) ∧ (w'.cell? ⟨w.heap.size, 1, none⟩ = some (.int .i64 n) ∧ w'.cell? ⟨w.heap.size, 2, none⟩ = some (.slice a m cap) ∧ Below w0.heap.size w0 w')) := Lib.hid (fun W hW => by
    obtain ⟨h1, h2, hW⟩ := hW
    refine (HL.out W ((HT.out.kept HB0.out).kept hW)).mono fun e w' h => ?_
    obtain ⟨v, rfl, hn, hb⟩ := h
    obtain ⟨b, c, rfl, -⟩ := hn.own.view
    have hlt2 := Nat.lt_of_lt_of_le hlt hW.size
    exact ⟨⟨_, ⟨b, c, by rw [strs_len, rowsL_len, HLL.out]⟩, hn.lower hW.size, rfl⟩, (hb.cell (p := ⟨w.heap.size, 1, none⟩) hlt2).trans h1, (hb.cell (p := ⟨w.heap.size, 2, none⟩) hlt2).trans h2, hW.trans (hb.mono hW.size)⟩)
  clear HL
  go_region_held3 (fun w' => w'.cell? ⟨w.heap.size, 1, none⟩ = some (.int .i64 n) ∧ w'.cell? ⟨w.heap.size, 2, none⟩ = some (.slice a m cap) ∧ Below w0.heap.size w0 w') (first | exact ⟨c1, c2, Below.refl _ _⟩ | exact ⟨c1, c2, (Below.refl _ _).drew⟩ | assumption) (first | (go_at_call 104; refine (HR.out _).mono ?_; rintro e4 w4 ⟨rfl, rfl⟩) | (go_at_call 103; refine (HS.out _ (by first | assumption | exact ⟨c1, c2, Below.refl _ _⟩ | exact ⟨c1, c2, (Below.refl _ _).drew⟩)).mono ?_; rintro e5 w5 ⟨⟨_, ⟨b5, k5, rfl⟩, hn5, rfl⟩, hS5⟩) | fail)
  have HN5 := Lib.hid hn5
  have HB5 := Lib.hid (HB0.out.trans (hS5.2.2.mono HB0.out.size))
  have HW5 := Lib.hid (Nat.le_trans HB0.out.size (Nat.le_refl w0.heap.size))
  have hw5 : w.heap.size ≤ w5.heap.size := HB5.out.size
  clear hn5 hS5 c1 c2
  go_wp2
  go_loopg [7, 21] m (fun q ov x wr => ∃ (j : Nat) (acc : List Nat), q + j = m ∧ x = .int .i64 j ∧ acc.length = j ∧ acc ++ ((lf.map fun g => plc n g b).drop j) = lf.map (fun g => plc n g b) ∧ New w5.heap.size wr 3 ov (nums acc) ∧ Below w5.heap.size w5 wr)
  case atStart => exact ⟨0, [], by omega, rfl, rfl, rfl, New.nil _ _ _, Below.refl _ _⟩
  case round =>
    obtain ⟨j, acc, hq, rfl, hac, hall, hn, hbl⟩ := hrel
    have HALL := Lib.hid hall
    have HAC := Lib.hid hac
    have HN := Lib.hid hn
    have HB := Lib.hid hbl
    have hsz : w5.heap.size ≤ wr.heap.size := hbl.size
    have hlen : (nums acc).length ≤ 100000 := by rw [nums_len]; omega
    have HLEN := Lib.hid hlen
    obtain ⟨a9, c9, hv9, -⟩ := hn.own.view
    subst hv9
    clear hn hbl hlen hall hac
    by_cases hlt2 : j < m
    · have hj : j < lf.length := by rw [HLL.out]; exact hlt2
      have hji : (j : Int) < m := by omega
      have HC := Lib.hid (fun w => HLR.out j hj w)
      have HT2 : Hid (nums acc ++ [.int .i64 (plc n lf[j] b)] = nums (acc ++ [plc n lf[j] b])) := Lib.hid (by simp [nums, ints])
      have HALL2 : Hid ((acc ++ [plc n lf[j] b]) ++ ((lf.map fun g => plc n g b).drop (j + 1)) = lf.map (fun g => plc n g b)) := Lib.hid (by
        have := HALL.out
        rw [List.drop_eq_getElem_cons (by simpa using hj)] at this
        simpa using this)
      obtain ⟨g5, rfl⟩ : ∃ g, b5 = some ⟨g, 0, none⟩ := by
        obtain ⟨-, h2⟩ := HN5.out.own
        rcases h2 with ⟨h0, _⟩ | ⟨g, cap', cur, h0, _⟩
        · injection h0 with e1 e2; subst e2; omega
        · injection h0 with e1; exact ⟨g, e1⟩
      have c3 : wr.cell? ⟨g5, j, none⟩ = some (.string (strOf n lf[j])) := by
        have := (HN5.out.own.kept HB.out).cell j (.string (strOf n lf[j])) (by simp [strs, rowsL, hj, txt_rowL])
        simpa using this
      generalize plc n lf[j] b = pj at *
      generalize strOf n lf[j] = sj at *
      go_wp2_with (first | (go_at_call 105; refine (HC.out _).mono ?_; rintro e w6 ⟨rfl, rfl⟩) | (at_builtin; refine wpList_app1 rfl (.tmp 25) (.tmp 29) 39 rfl 3 i0 (.int .i64 0) 8 Try.underlying39 I0.out.1 I0.out.2.1 I0.out.2.2.1 I0.out.2.2.2 rfl w5.heap.size w5 _ _ rfl HN.out rfl rfl hsz HB.out HLEN.out (by omega) ?_) | fail)
      intro v7 w7 hn7 hk7 hb7 hs7
      rw [HT2.out] at hn7
      have HN7 := Lib.hid hn7
      have HB7 := Lib.hid hb7
      clear hn7 hk7 hb7 c3
      go_wp2
      go_roundg (m - (j + 1))
      case measure => omega
      case rel => exact ⟨j + 1, acc ++ [pj], by omega, by go_num, by rw [List.length_append, HAC.out]; rfl, HALL2.out, HN7.out, HB7.out⟩
    · obtain rfl : j = m := by omega
      have HT2 : Hid (nums acc ++ [.int .i64 pe] = nums (lf.map (fun g => plc n g b) ++ [pe])) := Lib.hid (by
        have := HALL.out
        rw [List.drop_eq_nil_of_le (by rw [List.length_map, HLL.out]; exact Nat.le_refl _), List.append_nil] at this
        rw [← this]
        simp [nums, ints])
      go_wp2_with (first | (go_at_call 105; refine (HPE.out _).mono ?_; rintro e w6 ⟨rfl, rfl⟩) | (at_builtin; refine wpList_app1 rfl (.tmp 32) (.tmp 36) 39 rfl 3 i0 (.int .i64 0) 8 Try.underlying39 I0.out.1 I0.out.2.1 I0.out.2.2.1 I0.out.2.2.2 rfl w5.heap.size w5 _ _ rfl HN.out rfl rfl hsz HB.out HLEN.out (by omega) ?_) | fail)
      intro v7 w7 hn7 hk7 hb7 hs7
      rw [HT2.out] at hn7
      have HN7 := Lib.hid (hn7.lower hw5)
      have HB7 := Lib.hid (HB5.out.trans (hb7.mono hw5))
      clear hn7 hk7 hb7
      go_wp2
      go_ret
      exact ⟨_, rfl, HN7.out, HB7.out⟩
end Go.Proofs.Ytpfnamiacagocaa
namespace Go.Proofs.Ytpfnamiacagocaa
open Go.RowKit
set_option linter.unusedSimpArgs false
set_option linter.unusedVariables false

theorem bellsK_succ (n : Nat) (h : Nat → Nat) (b k : Nat) : bellsK n h b (k + 1) = bellsK n h b k ++ [orb n (invF n h) (b - 1) k + 1] := by simp [bellsK, List.range_succ]
theorem bellsK_len (n : Nat) (h : Nat → Nat) (b k : Nat) : (bellsK n h b k).length = k := by simp [bellsK]
theorem bellsK_one (n : Nat) (h : Nat → Nat) (b : Nat) (h1 : 1 ≤ b) (hb : b ≤ n) : bellsK n h b 1 = [b] := by
  simp only [bellsK, List.range_one, List.map_cons, List.map_nil]
  rw [orb_zero _ (by omega)]
  congr 1
  omega
theorem orb_plc {n : Nat} {h : Nat → Nat} (hh : IsRow n h) {b : Nat} (h1 : 1 ≤ b) (hb : b ≤ n) (k : Nat) : plc n h (orb n (invF n h) (b - 1) k + 1) = orb n (invF n h) (b - 1) (k + 1) + 1 := by
  have hi := isRow_inv hh
  have hlt := orb_lt hi (show b - 1 < n by omega) k
  rw [orb_succ hi (by omega), inv_plc hh hlt]
  have := plc_spec hh (show 1 ≤ orb n (invF n h) (b - 1) k + 1 by omega) (by omega)
  omega

set_option maxRecDepth 100000 in
set_option maxHeartbeats 1000000 in
theorem l5Bells_any (s : ByteArray) (n : Nat) (v : Value) (L : List (List Nat)) (hg : goodAll n L = true) (b : Nat) (h1 : 1 ≤ b) (hb : b ≤ n) (w : World) (h : Txts w v L) :
    Calls Try.prog 83 #[.agg #[.string s, .int .i64 n, v], .int .i64 b] w (NumsOut (bellsF n (headF n (chR n L)) b) w) := by
  obtain ⟨a, cap, rfl, hcap, -⟩ := id h
  have hr := goodAll_range hg
  have hh : IsRow n (headF n (chR n L)) := isRow_head (by omega) (by omega) (goodAll_rows hg)
  have h8 : n ≤ 8 := by omega
  have HT := Lib.hid h
  have HR0 := Lib.hid (RowAt.new w 26 #[.string s, .int .i64 n, .slice a L.length cap])
  have HB0 := Lib.hid ((Below.refl _ w).alloc (Nat.le_refl _) (.cells #[.string s, .int .i64 n, .slice a L.length cap] 26))
  have HHD := Lib.hid (fun w h => l4Head_any s n (.slice a L.length cap) L hg w h)
  generalize headF n (chR n L) = hd at *
  have hp := perN_spec (isRow_inv hh) (show b - 1 < n by omega)
  unfold bellsF NumsOut
  have HPL : Hid (∀ k w, Calls Try.prog 105 #[.string (strOf n hd), .int .i64 ((orb n (invF n hd) (b - 1) k + 1 : Nat) : Int)] w fun e w' => e = .returned (.int .i64 ((orb n (invF n hd) (b - 1) (k + 1) + 1 : Nat) : Int)) ∧ w = w') := Lib.hid (fun k w => by
    have hlt := orb_lt (isRow_inv hh) (show b - 1 < n by omega) k
    have := l5Place_any n hd hh (orb n (invF n hd) (b - 1) k + 1) (by omega) (by omega) w
    rwa [orb_plc hh h1 hb k] at this)
  have HP0 := HPL.out 0
  rw [orb_zero _ (show b - 1 < n by omega), show b - 1 + 1 = b by omega] at HP0
  have HPF := Lib.hid HP0
  have hb1 := bellsK_one n hd b h1 hb
  have HB1K := Lib.hid hb1
  have HOB := Lib.hid (fun k => orb_lt (isRow_inv hh) (show b - 1 < n by omega) k)
  generalize hper : perN n (invF n hd) (b - 1) = m at *
  have HP := Lib.hid hp
  obtain ⟨i0, hi0, hz0, hz1, hz2⟩ := info_parts infoInt
  have I0 := Lib.hid (⟨hi0, hz0, hz1, hz2⟩ : _ ∧ _ ∧ _ ∧ _)
  have hm8 : m ≤ 8 := Nat.le_trans hp.le h8
  clear h hcap hg hr hh hp HP0 hb1 hper hi0 hz0 hz1 hz2
  generalize strOf n hd = th at *
  generalize L.length = l0 at *
  go_enter Try.func83, Try.ntmps83
  go_wp2_with (first | (refine wpList_load_row rfl 26 _ rfl _ rfl 26 _ _ _ (HR0.out) Try.underlying26 rfl (by kernel_rfl) ?_) | fail)
  refine (HHD.out _ (HT.out.kept HB0.out)).mono ?_
  rintro e w1 ⟨rfl, hbb1⟩
  have HB1 := Lib.hid (HB0.out.trans (hbb1.mono HB0.out.size))
  have hsz1 := HB1.out.size
  clear hbb1 HHD HB0 HR0
  go_wp2_with (first | (go_at_call 105; refine (HPF.out _).mono ?_; rintro e w2 ⟨rfl, rfl⟩) | fail)
  have hlit : New w1.heap.size (w1.alloc (.cells #[.int .i64 b] 3)) 3 (.slice (some ⟨w1.heap.size, 0, none⟩) 1 1) (nums (bellsK n hd b 1)) := by
    rw [HB1K.out]
    have := Own.lit w1 3 [.int .i64 (b : Int)] (by simp)
    refine ⟨by simpa [nums, ints] using this, fun g hg => ?_⟩
    simp [Value.ownBlock] at hg
    omega
  have HLIT := Lib.hid hlit
  have HBL := Lib.hid ((Below.refl w1.heap.size w1).alloc (Nat.le_refl _) (.cells #[.int .i64 b] 3))
  clear hlit
  go_loopg [6, 7] (m - 1) (fun q ov x wr => ∃ k : Nat, q + k = m ∧ 1 ≤ k ∧ x = .int .i64 ((orb n (invF n hd) (b - 1) k + 1 : Nat) : Int) ∧ New w1.heap.size wr 3 ov (nums (bellsK n hd b k)) ∧ Below w1.heap.size w1 wr)
  case atStart => exact ⟨1, by have := HP.out.pos; omega, by omega, rfl, HLIT.out, HBL.out⟩
  case round =>
    clear HLIT HBL HPF HB1K
    obtain ⟨k, hq, hk1, rfl, hn, hbl⟩ := hrel
    have hlen : (nums (bellsK n hd b k)).length ≤ 100000 := by rw [nums_len, bellsK_len]; omega
    have HN := Lib.hid hn
    have HB := Lib.hid hbl
    have HLEN := Lib.hid hlen
    have hsz : w1.heap.size ≤ wr.heap.size := hbl.size
    obtain ⟨a9, c9, hv9, -⟩ := hn.own.view
    subst hv9
    clear hn hbl hlen
    by_cases hlt : k < m
    · have hne : (((orb n (invF n hd) (b - 1) k + 1 : Nat) : Int) == (b : Int)) = false := by
        rw [beq_eq_false_iff_ne]
        intro e
        exact HP.out.least k hk1 hlt (by omega)
      have HBK : Hid (nums (bellsK n hd b k) ++ [.int .i64 ((orb n (invF n hd) (b - 1) k + 1 : Nat) : Int)] = nums (bellsK n hd b (k + 1))) := Lib.hid (by rw [bellsK_succ]; simp [nums, ints])
      have HC := Lib.hid (HPL.out k)
      generalize bellsK n hd b k = bk at *
      generalize orb n (invF n hd) (b - 1) k + 1 = ok at *
      go_wp2_with (first | (go_at_call 105; refine (HC.out _).mono ?_; rintro e w6 ⟨rfl, rfl⟩) | (at_builtin; refine wpList_app1 rfl (.tmp 21) (.tmp 23) 39 rfl 3 i0 (.int .i64 0) 8 Try.underlying39 I0.out.1 I0.out.2.1 I0.out.2.2.1 I0.out.2.2.2 rfl w1.heap.size w1 _ _ rfl HN.out rfl rfl hsz HB.out HLEN.out (by omega) ?_; intro v7 w7 hn7 hk7 hb7 hs7; rw [HBK.out] at hn7; have HN7 := Lib.hid hn7; have HB7 := Lib.hid hb7; clear hn7 hk7 hb7) | fail)
      go_roundg (m - (k + 1))
      case measure => omega
      case rel => exact ⟨k + 1, by omega, by omega, rfl, HN7.out, HB7.out⟩
    · obtain rfl : k = m := by omega
      have hne : (((orb n (invF n hd) (b - 1) k + 1 : Nat) : Int) == (b : Int)) = true := by
        have := HP.out.back
        simp
        omega
      generalize orb n (invF n hd) (b - 1) k + 1 = ok at *
      go_wp2
      go_ret
      exact ⟨_, rfl, HN.out.lower hsz1, HB1.out.trans (HB.out.mono hsz1)⟩
end Go.Proofs.Ytpfnamiacagocaa
