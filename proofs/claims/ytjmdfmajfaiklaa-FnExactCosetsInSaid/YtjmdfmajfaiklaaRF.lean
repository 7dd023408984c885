/- The law CosetsIn. -/
import Derived.Test.YtjmdfmajfaiklaaRE
namespace Go.Proofs.Ytjmdfmajfaiklaa
open Go.RowKit
set_option linter.unusedSimpArgs false
set_option linter.unusedVariables false

set_option maxRecDepth 100000 in
set_option maxHeartbeats 1000000 in
theorem markStringS_big {kk : Int} (B : Nat) (v : Value) (xs : List (List Nat)) (k : Nat) (w : World) (hx : kk = ((k : Nat) : Int)) (h : New B w 9 v (strs xs)) (hB : B ≤ w.heap.size) (hb : k + xs.length ≤ 3000000) (hk0 : 1 ≤ k) (hk1 : k ≤ 3000000) :
    Calls Try.prog 37 #[v, .int .i64 kk] w fun e w' => e = .returned (.int .i64 (k + xs.length)) ∧ New B w' 9 v (strs (smarks k xs.length)) ∧ Below B w w' ∧ KeptBut w w' v := by
  subst hx
  obtain ⟨n, hn⟩ : ∃ n, xs.length = n := ⟨_, rfl⟩
  have hbase := h.base
  have hown := h.own
  obtain ⟨a, cap, rfl, ha⟩ := hown.view
  rw [strs_len, hn] at hown ha hbase ⊢
  rw [hn] at hb
  have HO := Lib.hid hown
  have HA := Lib.hid ha
  have HBASE := Lib.hid hbase
  clear h ha hown hbase
  have HN := Lib.hid hn
  clear hn
  go_enter Try.func37, Try.ntmps37
  go_wp2
  go_loopg [1, 5] n (fun q kk i wr => ∃ j : Nat, j ≤ n ∧ q + j = n ∧ i = .int .i64 j ∧ kk = .int .i64 ((k + j : Nat) : Int) ∧ Own wr 9 (.slice a n cap) (strs (smarkTo k xs j)) ∧ Below B w wr ∧ KeptBut w wr (.slice a n cap))
  case atStart => exact ⟨0, Nat.zero_le _, rfl, rfl, by simp, by simpa [smarkTo, smarks] using HO.out, Below.refl _ _, fun _ _ _ => rfl⟩
  case round =>
    obtain ⟨j, hj, hq, rfl, rfl, ho, hg, hkb⟩ := hrel
    have HKB := Lib.hid hkb
    have HQ := Lib.hid hq
    have HO2 := Lib.hid ho
    have HG := Lib.hid hg
    clear hq ho hg hkb
    by_cases hlt : j < n
    · obtain ⟨g, rfl⟩ := HA.out (by omega)
      have hjx : j < (smarkTo k xs j).length := by rw [smarkTo_len k xs j (by rw [HN.out]; exact hj), HN.out]; exact hlt
      have hki : (j : Int) < n := by omega
      have HT : Hid (∀ (x : Int) (W : World), x = ((k + j : Nat) : Int) → Calls Try.prog 80 #[.int .i64 x] W fun e w' => e = .returned (.string (txt (smark (k + j)))) ∧ Below W.heap.size W w') := Lib.hid (fun x W hx => by subst hx; exact markText_any (k + j) (by omega) (by omega) W)
      go_wp2_with fail
      refine (HT.out _ _ (by simp)).mono ?_
      rintro e w2 ⟨rfl, hb2⟩
      have hO3 := HO2.out.kept hb2
      have HG3 := Lib.hid (HG.out.trans (hb2.mono (Nat.le_trans hB HG.out.size)))
      have c1 := hO3.cell j _ (strs_at (smarkTo k xs j) j hjx)
      have f1 := hO3.free j
      have hset := hO3.set j (.string (txt (smark (k + j))))
      rw [strs_set, smarkTo_succ k xs j (by rw [HN.out]; exact hlt)] at hset
      have HSET := Lib.hid hset
      generalize txt ((smarkTo k xs j).getD j []) = y at c1
      have hgb := HBASE.out g rfl
      have HKB2 : Hid (KeptBut w (w2.setCell ⟨g, j, none⟩ (.string (txt (smark (k + j))))) (.slice (some ⟨g, 0, none⟩) n cap)) := Lib.hid (fun b hbw hne => by
        have h1 : b ≠ g := fun e => hne (by rw [e]; rfl)
        rw [Below.heap_setCell _ _ _ _ h1, hb2.block b (Nat.lt_of_lt_of_le hbw HG.out.size)]
        exact HKB.out b hbw hne)
      clear hset hO3 hb2
      go_wp2
      go_roundg (n - (j + 1))
      case measure => have := HQ.out; omega
      case rel => exact ⟨j + 1, by omega, by have := HQ.out; omega, by go_num, by go_num, HSET.out, HG3.out.setCell hgb _, HKB2.out⟩
    · obtain rfl : j = n := by omega
      have hfin := HO2.out
      rw [← HN.out, smarkTo_all, HN.out] at hfin
      have HF := Lib.hid hfin
      clear hfin
      go_wp2
      go_ret
      exact ⟨by simp, ⟨HF.out, HBASE.out⟩, HG.out, HKB.out⟩

theorem ci_len (L M : List (List Nat)) : (ciL L M).length ≤ 1000 := by
  cases h : ciB L M
  · rw [ciL_no h]; simp
  · rw [ciL_yes h, rowsL_len]
    unfold ciF dedF
    have h1 := ded_len (sortF (firstN L) ((rF M).map (leastF (firstN L) (rF L)))) []
    have hb : rowsB (firstN L) M = true := by unfold ciB at h; simp only [Bool.and_eq_true] at h; exact h.2
    have h2 := rowsB_len hb
    rw [sortF_len, List.length_map, rF_len] at h1
    simp at h1
    omega
theorem bothCosetsIn (L M : List (List Nat)) (hl : L.length ≤ 2000000) (hs : ∀ l ∈ L, l.length ≤ maxLen) (hl2 : M.length ≤ 2000000) (hs2 : ∀ l ∈ M, l.length ≤ maxLen) :
    ∃ P b, P.length ≤ 1000 ∧ (∀ u v w, Txts w u L → Txts w v M → Calls Try.prog 29 #[u, v] w (TextsAny P b w)) ∧ (∀ u v w, Txts w u L → Txts w v M → Calls Try.prog 33 #[u, v] w (TextsAny P b w)) :=
  ⟨ciL L M, ciB L M, ci_len L M, fun u v w h1 h2 => iCosetsIn_any u v L M w h1 h2 hl hs hl2 hs2, fun u v w h1 h2 => sCosetsIn_any u v L M w h1 h2 hl hs hl2 hs2⟩

set_option maxRecDepth 100000 in
set_option maxHeartbeats 1000000 in
theorem lawCosetsIn (v0 : Value) (ss0 : List ByteArray) (v1 : Value) (ss1 : List ByteArray) (W : World) (hA0 : Arg W v0 ss0) (hy0 : ss0.length ≤ maxLen ∧ ∀ s ∈ ss0, s.size ≤ maxLen) (hA1 : Arg W v1 ss1) (hy1 : ss1.length ≤ maxLen ∧ ∀ s ∈ ss1, s.size ≤ maxLen) :
    Calls Try.prog 8 #[v0, v1] W fun e w' => e = .returned (.bool true) ∧ Below W.heap.size W w' := by
  have hz0 : ∀ w, Arg w v0 ss0 → (0 : Int) ≤ 1048576 → (1048576 : Int) ≤ 1048576 → Calls _ _ _ w _ := fun w h h0 h1 => szStringS_any v0 ss0 w h hy0.1 hy0.2 (1048576) h0 h1
  have hlen0 := szAll_len (ss := ss0) (left := 1048576)
  have hsm0 := letss_small (ss := ss0) (left := 1048576)
  have hle0 := szAll_left (ss := ss0) (left := 1048576)
  generalize hzz0 : szAll ss0 1048576 = z0 at *
  have hz1 : ∀ w, Arg w v1 ss1 → (0 : Int) ≤ z0 → (z0 : Int) ≤ 1048576 → Calls _ _ _ w _ := fun w h h0 h1 => szStringS_any v1 ss1 w h hy1.1 hy1.2 (z0) h0 h1
  have hlen1 := szAll_len (ss := ss1) (left := z0)
  have hsm1 := letss_small (ss := ss1) (left := z0)
  have hle1 := szAll_left (ss := ss1) (left := z0)
  generalize hzz1 : szAll ss1 z0 = z1 at *
  by_cases hneg0 : z0 < 0
  · clear hlen0 hsm0 hle0 hlen1 hsm1 hle1
    go_enter Try.func8, Try.ntmps8
    go_wp2_with fail
    refine (hz0 _ hA0 (by omega) (by omega)).mono ?_
    rintro e w0 ⟨rfl, rfl⟩
    go_wp2
    go_ret
    exact ⟨rfl, Below.refl _ _⟩
  have hn0 := hlen0 (by omega)
  have hsm0 := hsm0 (by omega) (by omega)
  have hle0 := hle0 (by omega)
  have hss0 : ss0.length ≤ 1048576 := by omega
  have HS0 : Hid (∀ w, Arg w v0 ss0 → Calls Try.prog 35 #[v0] w _) := Lib.hid (fun w h => toStringS_any v0 ss0 w h (by omega))
  have HZ0 := Lib.hid hz0
  have hll0 := letss_len ss0
  generalize letss ss0 = L0 at *
  have hL0 : L0.length ≤ 1048576 := by omega
  have HA0 := Lib.hid hA0
  by_cases hneg1 : z1 < 0
  · clear hlen1 hsm1 hle1
    go_enter Try.func8, Try.ntmps8
    go_wp2_with fail
    refine (hz0 _ hA0 (by omega) (by omega)).mono ?_
    rintro e w0 ⟨rfl, rfl⟩
    go_wp2_with fail
    refine (hz1 _ hA1 (by omega) (by omega)).mono ?_
    rintro e w0 ⟨rfl, rfl⟩
    go_wp2
    go_ret
    exact ⟨rfl, Below.refl _ _⟩
  have hn1 := hlen1 (by omega)
  have hsm1 := hsm1 (by omega) (by omega)
  have hle1 := hle1 (by omega)
  have hss1 : ss1.length ≤ 1048576 := by omega
  have HS1 : Hid (∀ w, Arg w v1 ss1 → Calls Try.prog 35 #[v1] w _) := Lib.hid (fun w h => toStringS_any v1 ss1 w h (by omega))
  have HZ1 := Lib.hid hz1
  have hll1 := letss_len ss1
  generalize letss ss1 = L1 at *
  have hL1 : L1.length ≤ 1048576 := by omega
  have HA1 := Lib.hid hA1
  obtain ⟨P, b, hPL, hI, hM⟩ := bothCosetsIn L0 L1 (by omega) hsm0 (by omega) hsm1
  have HI := Lib.hid hI
  have HM := Lib.hid hM
  have hqs0 : L0.length + L1.length ≤ 1048576 := by omega
  clear hI hM hz0 hlen0 hy0 hll0 hA0 hsm0 hz1 hlen1 hy1 hll1 hA1 hsm1 
  obtain ⟨q0, hq0⟩ : ∃ n, L0.length = n := ⟨_, rfl⟩
  rw [hq0] at hL0
  have HQ0 := Lib.hid hq0
  clear hq0
  have hqi0 : (q0 : Int) ≤ 1048576 := by omega
  obtain ⟨q1, hq1⟩ : ∃ n, L1.length = n := ⟨_, rfl⟩
  rw [hq1] at hL1
  have HQ1 := Lib.hid hq1
  clear hq1
  have hqi1 : (q1 : Int) ≤ 1048576 := by omega
  have hqs : q0 + q1 ≤ 1048576 := by have h1 := HQ0.out; have h2 := HQ1.out; omega
  obtain ⟨m, hm⟩ : ∃ m, P.length = m := ⟨_, rfl⟩
  rw [hm] at hPL
  have HMM := Lib.hid hm
  clear hm
  have hmi : (m : Int) ≤ 1000 := by omega
  cases b
  all_goals
    go_enter Try.func8, Try.ntmps8
    go_wp2_with fail
    refine (HZ0.out _ HA0.out (by omega) (by omega)).mono ?_
    rintro e w0 ⟨rfl, rfl⟩
    go_wp2_with fail
    refine (HZ1.out _ HA1.out (by omega) (by omega)).mono ?_
    rintro e w0 ⟨rfl, rfl⟩
    clear HZ0 HZ1
    go_wp2_with fail
    refine (HS0.out _ HA0.out).mono ?_
    rintro e w1 ⟨va0, rfl, hn1, hb1⟩
    have B1 := Lib.hid hb1
    have Ta0_1 := Lib.hid hn1
    clear hn1 hb1
    go_wp2_with fail
    refine (HS1.out _ (HA1.out.kept B1.out)).mono ?_
    rintro e w2 ⟨va1, rfl, hn2, hb2⟩
    have B2 := Lib.hid (B1.out.trans (hb2.mono B1.out.size))
    have Ta0_2 := Lib.hid (Ta0_1.out.kept hb2)
    have Ta1_2 := Lib.hid hn2
    clear hn2 hb2 B1 Ta0_1
    go_wp2_with fail
    refine (HM.out va0 va1 _ Ta0_2.out.own.txts Ta1_2.out.own.txts).mono ?_
    rintro e w3 ⟨v2, rfl, hn3, hb3⟩
    have B3 := Lib.hid (B2.out.trans (hb3.mono B2.out.size))
    have Ta0_3 := Lib.hid (Ta0_2.out.kept hb3)
    have Ta1_3 := Lib.hid (Ta1_2.out.kept hb3)
    have R_3 := Lib.hid hn3.own
    clear hn3 hb3 B2 Ta0_2 Ta1_2
    clear Ta0_3
    clear Ta1_3
    have BB := B3
    clear B3
    have R0 := R_3
    go_wp2_with fail
    refine (HS0.out _ (HA0.out.kept BB.out)).mono ?_
    rintro e w4 ⟨vx0, rfl, hn4, hb4⟩
    have B4 := Lib.hid hb4
    have R_4 := Lib.hid (R_3.out.kept hb4)
    have Tx0_4 := Lib.hid hn4
    clear hn4 hb4 R_3
    go_wp2_with fail
    refine (HS1.out _ (HA1.out.kept (BB.out.trans (B4.out.mono BB.out.size)))).mono ?_
    rintro e w5 ⟨vx1, rfl, hn5, hb5⟩
    have AX : Hid (∀ g, vx1.ownBlock = some g → vx0.ownBlock ≠ some g) := Lib.hid (fun g hg h3 => by
      have h1 := hn5.base g hg
      have h2 := Tx0_4.out.own.lt g h3
      omega)
    have B5 := Lib.hid (B4.out.trans (hb5.mono B4.out.size))
    have R_5 := Lib.hid (R_4.out.kept hb5)
    have Tx0_5 := Lib.hid (Tx0_4.out.kept hb5)
    have Tx1_5 := Lib.hid (hn5.lower B4.out.size)
    clear hn5 hb5 B4 R_4 Tx0_4
    have SZX := Lib.hid B5.out.size
    go_wp2_with fail
    refine (HI.out vx0 vx1 _ Tx0_5.out.own.txts Tx1_5.out.own.txts).mono ?_
    rintro e w6 ⟨v4, rfl, hn4, hb4⟩
    have AP0 : Hid (∀ g, v4.ownBlock = some g → vx0.ownBlock ≠ some g) := Lib.hid (fun g hg h3 => by
      have h1 := hn4.base g hg
      have h2 := Tx0_5.out.own.lt g h3
      omega)
    have AP1 : Hid (∀ g, v4.ownBlock = some g → vx1.ownBlock ≠ some g) := Lib.hid (fun g hg h3 => by
      have h1 := hn4.base g hg
      have h2 := Tx1_5.out.own.lt g h3
      omega)
    have SZ6 := Lib.hid hb4.size
    have B6 := Lib.hid (B5.out.trans (hb4.mono B5.out.size))
    have R_6 := Lib.hid (R_5.out.kept hb4)
    have Tx0_6 := Lib.hid (Tx0_5.out.kept hb4)
    have Tx1_6 := Lib.hid (Tx1_5.out.kept hb4)
    have G_6 := Lib.hid hn4
    clear hn4 hb4 B5 R_5 Tx0_5 Tx1_5
    go_wp2_with fail
    refine (eqStringS_same v4 v2 P _ G_6.out.own R_6.out (by rw [HMM.out]; omega)).mono ?_
    rintro e w7 ⟨rfl, d7, hd7⟩
    have B7 : Hid (Below w3.heap.size w3 w7) := by rw [hd7]; exact below_drewN B6.out _
    have R_7 := Lib.hid (R_6.out.drewN d7)
    rw [← hd7] at R_7
    have Tx0_7 := Lib.hid (Tx0_6.out.drewN d7)
    rw [← hd7] at Tx0_7
    have Tx1_7 := Lib.hid (Tx1_6.out.drewN d7)
    rw [← hd7] at Tx1_7
    have G_7 := Lib.hid (G_6.out.drewN d7)
    rw [← hd7] at G_7
    have SZ7 : Hid (w5.heap.size ≤ w7.heap.size) := by rw [hd7]; exact SZ6.out
    clear hd7 SZ6 B6 R_6 Tx0_6 Tx1_6 G_6
    go_wp2_with fail
    refine (HS0.out _ (HA0.out.kept (BB.out.trans (B7.out.mono BB.out.size)))).mono ?_
    rintro e w8 ⟨vy0, rfl, hn8, hb8⟩
    have B8 := Lib.hid (B7.out.trans (hb8.mono B7.out.size))
    have R_8 := Lib.hid (R_7.out.kept hb8)
    have Tx0_8 := Lib.hid (Tx0_7.out.kept hb8)
    have Tx1_8 := Lib.hid (Tx1_7.out.kept hb8)
    have G_8 := Lib.hid (G_7.out.kept hb8)
    have Ty_8 := Lib.hid hn8.own
    have SZ8 := Lib.hid (Nat.le_trans SZ7.out hb8.size)
    clear hn8 hb8 B7 SZ7 R_7 Tx0_7 Tx1_7 G_7
    go_wp2_with fail
    refine (eqStringS_same vx0 vy0 L0 _ Tx0_8.out.own Ty_8.out (by rw [HQ0.out]; omega)).mono ?_
    rintro e w9 ⟨rfl, d9, hd9⟩
    have B9 : Hid (Below w3.heap.size w3 w9) := by rw [hd9]; exact below_drewN B8.out _
    have R_9 := Lib.hid (R_8.out.drewN d9)
    rw [← hd9] at R_9
    have Tx0_9 := Lib.hid (Tx0_8.out.drewN d9)
    rw [← hd9] at Tx0_9
    have Tx1_9 := Lib.hid (Tx1_8.out.drewN d9)
    rw [← hd9] at Tx1_9
    have G_9 := Lib.hid (G_8.out.drewN d9)
    rw [← hd9] at G_9
    have Ty_9 := Lib.hid (Ty_8.out.drewN d9)
    rw [← hd9] at Ty_9
    have SZ9 : Hid (w5.heap.size ≤ w9.heap.size) := by rw [hd9]; exact SZ8.out
    clear hd9 SZ8 B8 R_8 Tx0_8 Tx1_8 G_8 Ty_8
    clear Ty_9
    go_wp2_with fail
    refine (HS1.out _ (HA1.out.kept (BB.out.trans (B9.out.mono BB.out.size)))).mono ?_
    rintro e w10 ⟨vy1, rfl, hn10, hb10⟩
    have B10 := Lib.hid (B9.out.trans (hb10.mono B9.out.size))
    have R_10 := Lib.hid (R_9.out.kept hb10)
    have Tx0_10 := Lib.hid (Tx0_9.out.kept hb10)
    have Tx1_10 := Lib.hid (Tx1_9.out.kept hb10)
    have G_10 := Lib.hid (G_9.out.kept hb10)
    have Ty_10 := Lib.hid hn10.own
    have SZ10 := Lib.hid (Nat.le_trans SZ9.out hb10.size)
    clear hn10 hb10 B9 SZ9 R_9 Tx0_9 Tx1_9 G_9
    go_wp2_with fail
    refine (eqStringS_same vx1 vy1 L1 _ Tx1_10.out.own Ty_10.out (by rw [HQ1.out]; omega)).mono ?_
    rintro e w11 ⟨rfl, d11, hd11⟩
    have B11 : Hid (Below w3.heap.size w3 w11) := by rw [hd11]; exact below_drewN B10.out _
    have R_11 := Lib.hid (R_10.out.drewN d11)
    rw [← hd11] at R_11
    have Tx0_11 := Lib.hid (Tx0_10.out.drewN d11)
    rw [← hd11] at Tx0_11
    have Tx1_11 := Lib.hid (Tx1_10.out.drewN d11)
    rw [← hd11] at Tx1_11
    have G_11 := Lib.hid (G_10.out.drewN d11)
    rw [← hd11] at G_11
    have Ty_11 := Lib.hid (Ty_10.out.drewN d11)
    rw [← hd11] at Ty_11
    have SZ11 : Hid (w5.heap.size ≤ w11.heap.size) := by rw [hd11]; exact SZ10.out
    clear hd11 SZ10 B10 R_10 Tx0_10 Tx1_10 G_10 Ty_10
    clear Ty_11
    go_wp2_with fail
    refine (markStringS_full w3.heap.size vx0 L0 1 _ Tx0_11.out B11.out.size (by rw [HQ0.out]; omega) (by omega) (by omega)).mono ?_
    rintro e w12 ⟨rfl, _, hb12, hk12⟩
    have B12 := Lib.hid (B11.out.trans hb12)
    have R_12 := Lib.hid (R_11.out.under R0.out.lt hb12)
    have G_12 : Hid (New w5.heap.size w12 9 v4 (strs P)) := Lib.hid ⟨G_11.out.own.besides hk12 AP0.out, G_11.out.base⟩
    have Tx1_12 : Hid (New w3.heap.size w12 9 vx1 (strs L1)) := Lib.hid ⟨Tx1_11.out.own.besides hk12 AX.out, Tx1_11.out.base⟩
    have SZ12 := Lib.hid (Nat.le_trans SZ11.out hb12.size)
    rw [HQ0.out]
    clear hb12 hk12 B11 SZ11 R_11 G_11 Tx1_11 Tx0_11
    go_wp2_with fail
    refine (markStringS_big w3.heap.size vx1 L1 (1 + q0) _ (by go_num) Tx1_12.out B12.out.size (by rw [HQ1.out]; omega) (by omega) (by omega)).mono ?_
    rintro e w13 ⟨rfl, _, hb13, hk13⟩
    have B13 := Lib.hid (B12.out.trans hb13)
    have R_13 := Lib.hid (R_12.out.under R0.out.lt hb13)
    have G_13 : Hid (New w5.heap.size w13 9 v4 (strs P)) := Lib.hid ⟨G_12.out.own.besides hk13 AP1.out, G_12.out.base⟩
    have SZ13 := Lib.hid (Nat.le_trans SZ12.out hb13.size)
    rw [HQ1.out]
    clear hb13 hk13 B12 SZ12 R_12 G_12 Tx1_12
    have hnn : ¬ (((1 + q0 : Nat) : Int) + (q1 : Nat) < 0) := by omega
    have hnn2 : ¬ ((1 : Int) + (q0 : Nat) + (q1 : Nat) < 0) := by omega
    go_wp2_with fail
    refine (eqStringS_same v4 v2 P _ G_13.out.own R_13.out (by rw [HMM.out]; omega)).mono ?_
    rintro e w14 ⟨rfl, d14, hd14⟩
    have B14 : Hid (Below w3.heap.size w3 w14) := by rw [hd14]; exact below_drewN B13.out _
    have R_14 := Lib.hid (R_13.out.drewN d14)
    rw [← hd14] at R_14
    have G_14 := Lib.hid (G_13.out.drewN d14)
    rw [← hd14] at G_14
    have SZ14 : Hid (w5.heap.size ≤ w14.heap.size) := by rw [hd14]; exact SZ13.out
    clear hd14 SZ13 B13 R_13 G_13
    go_wp2_with fail
    refine (markStringS_full w5.heap.size v4 P 1 _ G_14.out SZ14.out (by rw [HMM.out]; omega) (by omega) (by omega)).mono ?_
    rintro e w15 ⟨rfl, hn15, hb15, _⟩
    rw [HMM.out] at hn15
    have B15 := Lib.hid (B14.out.trans (hb15.mono SZX.out))
    have R_15 := Lib.hid (R_14.out.under (fun g hg => Nat.lt_of_lt_of_le (R0.out.lt g hg) SZX.out) hb15)
    have G_15 := Lib.hid hn15
    rw [HMM.out]
    clear hn15 hb15 B14 R_14 G_14
    go_wp2_with fail
    refine (heldStringS_any v4 m 1 _ G_15.out.own (by omega) (by omega) (by omega)).mono ?_
    rintro e w16 ⟨rfl, hb16⟩
    have B16 := Lib.hid (B15.out.trans (hb16.mono B15.out.size))
    have R_16 := Lib.hid (R_15.out.kept hb16)
    have G_16 := Lib.hid (G_15.out.kept hb16)
    clear hb16 B15 R_15 G_15
    have hmm : ¬ ((1 : Int) + (m : Nat) < 0) := by omega
    go_wp2_with fail
    refine (HS0.out _ (HA0.out.kept (BB.out.trans (B16.out.mono BB.out.size)))).mono ?_
    rintro e w17 ⟨vh0, rfl, hn17, hb17⟩
    have B17 := Lib.hid (B16.out.trans (hb17.mono B16.out.size))
    have R_17 := Lib.hid (R_16.out.kept hb17)
    have G_17 := Lib.hid (G_16.out.kept hb17)
    have Th0_17 := Lib.hid hn17
    clear hn17 hb17 B16 R_16 G_16
    go_wp2_with fail
    refine (HS1.out _ (HA1.out.kept (BB.out.trans (B17.out.mono BB.out.size)))).mono ?_
    rintro e w18 ⟨vh1, rfl, hn18, hb18⟩
    have B18 := Lib.hid (B17.out.trans (hb18.mono B17.out.size))
    have R_18 := Lib.hid (R_17.out.kept hb18)
    have G_18 := Lib.hid (G_17.out.kept hb18)
    have Th0_18 := Lib.hid (Th0_17.out.kept hb18)
    have Th1_18 := Lib.hid hn18
    clear hn18 hb18 B17 R_17 G_17 Th0_17
    go_wp2_with fail
    refine (HI.out vh0 vh1 _ Th0_18.out.own.txts Th1_18.out.own.txts).mono ?_
    rintro e w19 ⟨v13, rfl, hn19, hb19⟩
    have B19 := Lib.hid (B18.out.trans (hb19.mono B18.out.size))
    have R_19 := Lib.hid (R_18.out.kept hb19)
    have G_19 := Lib.hid (G_18.out.kept hb19)
    have Th0_19 := Lib.hid (Th0_18.out.kept hb19)
    have Th1_19 := Lib.hid (Th1_18.out.kept hb19)
    have H_19 := Lib.hid hn19.own
    clear hn19 hb19 B18 R_18 G_18 Th0_18 Th1_18
    clear Th0_19
    clear Th1_19
    go_wp2_with fail
    refine (eqStringS_same v13 v2 P _ H_19.out R_19.out (by rw [HMM.out]; omega)).mono ?_
    rintro e w20 ⟨rfl, d20, hd20⟩
    have B20 : Hid (Below w3.heap.size w3 w20) := by rw [hd20]; exact below_drewN B19.out _
    have G_20 : Hid (New w5.heap.size w20 9 v4 (strs (smarks 1 m))) := by rw [hd20]; exact G_19.out.drewN _
    clear hd20 B19 R_19 G_19 H_19
    go_wp2_with fail
    refine (heldStringS_any v4 m 1 _ G_20.out.own (by omega) (by omega) (by omega)).mono ?_
    rintro e w21 ⟨rfl, hb21⟩
    have B21 := Lib.hid (B20.out.trans (hb21.mono B20.out.size))
    have G_21 := Lib.hid (G_20.out.kept hb21)
    clear hb21 B20 G_20
    go_wp2
    go_ret
    exact ⟨rfl, BB.out.trans (B21.out.mono BB.out.size)⟩
end Go.Proofs.Ytjmdfmajfaiklaa
