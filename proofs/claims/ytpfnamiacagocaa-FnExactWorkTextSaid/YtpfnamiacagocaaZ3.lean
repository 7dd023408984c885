/- PathOf and PlaceBells in the model. -/
import Derived.Test.YtpfnamiacagocaaZ2
namespace Go.Proofs.Ytpfnamiacagocaa
open Go.RowKit
set_option linter.unusedSimpArgs false
set_option linter.unusedVariables false

theorem bellsK_succ (n : Nat) (h : Nat → Nat) (b k : Nat) : bellsK n h b (k + 1) = bellsK n h b k ++ [orb n (invF n h) (b - 1) k + 1] := by simp [bellsK, List.range_succ]
theorem bellsK_len (n : Nat) (h : Nat → Nat) (b k : Nat) : (bellsK n h b k).length = k := by simp [bellsK]
theorem bellsK_one (n : Nat) (h : Nat → Nat) (b : Nat) (h1 : 1 ≤ b) (hb : b ≤ n) : bellsK n h b 1 = [b] := by
  simp only [bellsK, List.range_one, List.map_cons, List.map_nil]
  rw [orb_zero _ (by omega)]
  congr 1
  omega
theorem orb_plc {n : Nat} {h : Nat → Nat} (hh : IsRow n h) {b : Nat} (h1 : 1 ≤ b) (hb : b ≤ n) (k : Nat) : plc n h (orb n (invF n h) (b - 1) k + 1) = orb n (invF n h) (b - 1) (k + 1) + 1 := by
  have hi := isRow_inv hh
  have hlt := orb_lt hi (show b - 1 < n by omega) k
  rw [orb_succ hi (by omega), inv_plc hh hlt]
  have := plc_spec hh (show 1 ≤ orb n (invF n h) (b - 1) k + 1 by omega) (by omega)
  omega

set_option maxRecDepth 100000 in
set_option maxHeartbeats 1000000 in
theorem l5Bells_any (s : ByteArray) (n : Nat) (v : Value) (L : List (List Nat)) (hg : goodAll n L = true) (b : Nat) (h1 : 1 ≤ b) (hb : b ≤ n) (w : World) (h : Txts w v L) :
    Calls Try.prog 83 #[.agg #[.string s, .int .i64 n, v], .int .i64 b] w (NumsOut (bellsF n (headF n (chR n L)) b) w) := by
  obtain ⟨a, cap, rfl, hcap, -⟩ := id h
  have hr := goodAll_range hg
  have hh : IsRow n (headF n (chR n L)) := isRow_head (by omega) (by omega) (goodAll_rows hg)
  have h8 : n ≤ 8 := by omega
  have HT := Lib.hid h
  have HR0 := Lib.hid (RowAt.new w 26 #[.string s, .int .i64 n, .slice a L.length cap])
  have HB0 := Lib.hid ((Below.refl _ w).alloc (Nat.le_refl _) (.cells #[.string s, .int .i64 n, .slice a L.length cap] 26))
  have HHD := Lib.hid (fun w h => l4Head_any s n (.slice a L.length cap) L hg w h)
  generalize headF n (chR n L) = hd at *
  have hp := perN_spec (isRow_inv hh) (show b - 1 < n by omega)
  unfold bellsF NumsOut
  have HPL : Hid (∀ k w, Calls Try.prog 105 #[.string (strOf n hd), .int .i64 ((orb n (invF n hd) (b - 1) k + 1 : Nat) : Int)] w fun e w' => e = .returned (.int .i64 ((orb n (invF n hd) (b - 1) (k + 1) + 1 : Nat) : Int)) ∧ w = w') := Lib.hid (fun k w => by
    have hlt := orb_lt (isRow_inv hh) (show b - 1 < n by omega) k
    have := l5Place_any n hd hh (orb n (invF n hd) (b - 1) k + 1) (by omega) (by omega) w
    rwa [orb_plc hh h1 hb k] at this)
  have HP0 := HPL.out 0
  rw [orb_zero _ (show b - 1 < n by omega), show b - 1 + 1 = b by omega] at HP0
  have HPF := Lib.hid HP0
  have hb1 := bellsK_one n hd b h1 hb
  have HB1K := Lib.hid hb1
  have HOB := Lib.hid (fun k => orb_lt (isRow_inv hh) (show b - 1 < n by omega) k)
  generalize hper : perN n (invF n hd) (b - 1) = m at *
  have HP := Lib.hid hp
  obtain ⟨i0, hi0, hz0, hz1, hz2⟩ := info_parts infoInt
  have I0 := Lib.hid (⟨hi0, hz0, hz1, hz2⟩ : _ ∧ _ ∧ _ ∧ _)
  have hm8 : m ≤ 8 := Nat.le_trans hp.le h8
  clear h hcap hg hr hh hp HP0 hb1 hper hi0 hz0 hz1 hz2
  generalize strOf n hd = th at *
  generalize L.length = l0 at *
  go_enter Try.func83, Try.ntmps83
  go_wp2_with (first | (refine wpList_load_row rfl 26 _ rfl _ rfl 26 _ _ _ (HR0.out) Try.underlying26 rfl (by kernel_rfl) ?_) | fail)
  refine (HHD.out _ (HT.out.kept HB0.out)).mono ?_
  rintro e w1 ⟨rfl, hbb1⟩
  have HB1 := Lib.hid (HB0.out.trans (hbb1.mono HB0.out.size))
  have hsz1 := HB1.out.size
  clear hbb1 HHD HB0 HR0
  go_wp2_with (first | (go_at_call 105; refine (HPF.out _).mono ?_; rintro e w2 ⟨rfl, rfl⟩) | fail)
  have hlit : New w1.heap.size (w1.alloc (.cells #[.int .i64 b] 3)) 3 (.slice (some ⟨w1.heap.size, 0, none⟩) 1 1) (nums (bellsK n hd b 1)) := by
    rw [HB1K.out]
    have := Own.lit w1 3 [.int .i64 (b : Int)] (by simp)
    refine ⟨by simpa [nums, ints] using this, fun g hg => ?_⟩
    simp [Value.ownBlock] at hg
    omega
  have HLIT := Lib.hid hlit
  have HBL := Lib.hid ((Below.refl w1.heap.size w1).alloc (Nat.le_refl _) (.cells #[.int .i64 b] 3))
  clear hlit
  go_loopg [6, 7] (m - 1) (fun q ov x wr => ∃ k : Nat, q + k = m ∧ 1 ≤ k ∧ x = .int .i64 ((orb n (invF n hd) (b - 1) k + 1 : Nat) : Int) ∧ New w1.heap.size wr 3 ov (nums (bellsK n hd b k)) ∧ Below w1.heap.size w1 wr)
  case atStart => exact ⟨1, by have := HP.out.pos; omega, by omega, rfl, HLIT.out, HBL.out⟩
  case round =>
    clear HLIT HBL HPF HB1K
    obtain ⟨k, hq, hk1, rfl, hn, hbl⟩ := hrel
    have hlen : (nums (bellsK n hd b k)).length ≤ 100000 := by rw [nums_len, bellsK_len]; omega
    have HN := Lib.hid hn
    have HB := Lib.hid hbl
    have HLEN := Lib.hid hlen
    have hsz : w1.heap.size ≤ wr.heap.size := hbl.size
    obtain ⟨a9, c9, hv9, -⟩ := hn.own.view
    subst hv9
    clear hn hbl hlen
    by_cases hlt : k < m
    · have hne : (((orb n (invF n hd) (b - 1) k + 1 : Nat) : Int) == (b : Int)) = false := by
        rw [beq_eq_false_iff_ne]
        intro e
        exact HP.out.least k hk1 hlt (by omega)
      have HBK : Hid (nums (bellsK n hd b k) ++ [.int .i64 ((orb n (invF n hd) (b - 1) k + 1 : Nat) : Int)] = nums (bellsK n hd b (k + 1))) := Lib.hid (by rw [bellsK_succ]; simp [nums, ints])
      have HC := Lib.hid (HPL.out k)
      generalize bellsK n hd b k = bk at *
      generalize orb n (invF n hd) (b - 1) k + 1 = ok at *
      go_wp2_with (first | (go_at_call 105; refine (HC.out _).mono ?_; rintro e w6 ⟨rfl, rfl⟩) | (at_builtin; refine wpList_app1 rfl (.tmp 21) (.tmp 23) 39 rfl 3 i0 (.int .i64 0) 8 Try.underlying39 I0.out.1 I0.out.2.1 I0.out.2.2.1 I0.out.2.2.2 rfl w1.heap.size w1 _ _ rfl HN.out rfl rfl hsz HB.out HLEN.out (by omega) ?_; intro v7 w7 hn7 hk7 hb7 hs7; rw [HBK.out] at hn7; have HN7 := Lib.hid hn7; have HB7 := Lib.hid hb7; clear hn7 hk7 hb7) | fail)
      go_roundg (m - (k + 1))
      case measure => omega
      case rel => exact ⟨k + 1, by omega, by omega, rfl, HN7.out, HB7.out⟩
    · obtain rfl : k = m := by omega
      have hne : (((orb n (invF n hd) (b - 1) k + 1 : Nat) : Int) == (b : Int)) = true := by
        have := HP.out.back
        simp
        omega
      generalize orb n (invF n hd) (b - 1) k + 1 = ok at *
      go_wp2
      go_ret
      exact ⟨_, rfl, HN.out.lower hsz1, HB1.out.trans (HB.out.mono hsz1)⟩
end Go.Proofs.Ytpfnamiacagocaa
