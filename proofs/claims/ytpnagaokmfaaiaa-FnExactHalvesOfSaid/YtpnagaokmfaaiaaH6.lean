/- The law FnExactHalvesOf. -/
import Derived.Test.YtpnagaokmfaaiaaH5
import Derived.Test.YtpnagaokmfaaiaaT5
import Derived.Test.YtpnagaokmfaaiaaC5
namespace Go.Proofs.Ytpnagaokmfaaiaa
open Go.RowKit
set_option linter.unusedSimpArgs false

theorem halvesF_len (L : List (List Nat)) : ∀ k, k ≤ L.length → ((halvesF L k).getD ([], [])).1.length ≤ L.length ∧ ((halvesF L k).getD ([], [])).2.length ≤ L.length
  | 0, _ => by simp [halvesF]
  | k + 1, hk => by
    unfold halvesF
    split
    · simp only [half, Option.getD_some, List.length_take, List.length_drop]
      omega
    · exact halvesF_len L k (by omega)
theorem halvesR_len (n : Int) (L : List (List Nat)) : ((halvesR n L).getD ([], [])).1.length ≤ 40 ∧ ((halvesR n L).getD ([], [])).2.length ≤ 40 := by
  unfold halvesR
  split
  · rename_i h
    have h1 := goodAll_len h
    have h2 := halvesF_len L (L.length - 1) (by omega)
    unfold halves
    omega
  · simp

set_option maxRecDepth 100000 in
set_option maxHeartbeats 1000000 in
theorem lawHalvesOf (n0 : Int) (v : Value) (ss : List ByteArray) (W : World) (hA : Arg W v ss) (hy : ss.length ≤ maxLen ∧ ∀ s ∈ ss, s.size ≤ maxLen) :
    Calls Try.prog 5 #[.int .i64 n0, v] W fun e w' => e = .returned (.bool true) ∧ Below W.heap.size W w' := by
  have hz := szStringS_any v ss W hA hy.1 hy.2 1048576 (by omega) (by omega)
  have hlen := szAll_len (ss := ss) (left := 1048576)
  generalize szAll ss 1048576 = z at *
  by_cases hneg : z < 0
  · clear hlen
    go_enter Try.func5, Try.ntmps5
    go_wp2_with fail
    refine hz.mono ?_
    rintro e w0 ⟨rfl, rfl⟩
    go_wp2
    go_ret
    exact ⟨rfl, Below.refl _ _⟩
  · have hn := hlen (by omega)
    have hss : ss.length ≤ 1048576 := by omega
    have HS : Hid (∀ w, Arg w v ss → Calls Try.prog 9 #[v] w _) := Lib.hid (fun w h => toStringS_any v ss w h (by omega))
    have hll := letss_len ss
    have hsz := letss_size hy.2
    generalize letss ss = L at *
    have hL : L.length ≤ 1048576 := by omega
    have HM : Hid (∀ u w, Txts w u L → Calls Try.prog 15 #[.int .i64 n0, u] w _) := Lib.hid (fun u w h => iHalvesOf_any n0 u L w h (by omega))
    have HM2 : Hid (∀ u w, Txts w u L → Calls Try.prog 14 #[.int .i64 n0, u] w _) := Lib.hid (fun u w h => sHalvesOf_any n0 u L w h (by omega) hsz)
    have HPL := halvesR_len n0 L
    clear hlen hy hn hss hll hsz
    unfold TwoRes at HM HM2
    generalize hP : ((halvesR n0 L).getD ([], [])).1 = P at *
    generalize hR : ((halvesR n0 L).getD ([], [])).2 = R at *
    generalize hb : (halvesR n0 L).isSome = b at *
    clear hP hR hb
    have HA := Lib.hid hA
    clear hA
    obtain ⟨n, hn⟩ : ∃ n, L.length = n := ⟨_, rfl⟩
    obtain ⟨m, hm⟩ : ∃ m, P.length = m := ⟨_, rfl⟩
    obtain ⟨p, hp⟩ : ∃ p, R.length = p := ⟨_, rfl⟩
    rw [hn] at hL
    rw [hm, hp] at HPL
    obtain ⟨HPL1, HPL2⟩ := HPL
    have HN := Lib.hid hn
    have HMM := Lib.hid hm
    have HRR := Lib.hid hp
    clear hn hm hp
    have hni : (n : Int) ≤ 1048576 := by omega
    have hmi : (m : Int) ≤ 40 := by omega
    have hpi : (p : Int) ≤ 40 := by omega
    cases b
    all_goals
      go_enter Try.func5, Try.ntmps5
      go_wp2_with fail
      refine hz.mono ?_
      rintro e w0 ⟨rfl, rfl⟩
      clear hz
      go_wp2_with fail
      refine (HS.out _ HA.out).mono ?_
      rintro e w1 ⟨v1, rfl, hn1, hb1⟩
      have B1 := Lib.hid hb1
      have T1 := Lib.hid hn1.own.txts
      clear hn1 hb1
      go_wp2_with fail
      refine (HM2.out _ _ T1.out).mono ?_
      rintro e w2 ⟨v2, u2, rfl, hn2, hm2, _, hb2⟩
      have B2 := Lib.hid (B1.out.trans (hb2.mono B1.out.size))
      have L2 := Lib.hid (And.intro hn2.own hm2.own)
      clear hn2 hm2 hb2 B1 T1
      go_wp2_with fail
      refine (HS.out _ (HA.out.kept B2.out)).mono ?_
      rintro e w3 ⟨v3, rfl, hn3, hb3⟩
      have B3 := Lib.hid hb3
      have N3 := Lib.hid hn3
      have L23 := Lib.hid (And.intro (L2.out.1.kept hb3) (L2.out.2.kept hb3))
      have W23 := Lib.hid hb3.size
      clear hn3 hb3
      go_wp2_with fail
      refine (HM.out _ _ N3.out.own.txts).mono ?_
      rintro e w4 ⟨v4, u4, rfl, hn4, hm4, hap, hb4⟩
      have W34 := Lib.hid hb4.size
      have B4 := Lib.hid (B3.out.trans (hb4.mono B3.out.size))
      have N34 := Lib.hid (N3.out.kept hb4)
      have L24 := Lib.hid (And.intro (L23.out.1.kept hb4) (L23.out.2.kept hb4))
      have N44 := Lib.hid (And.intro hn4 hm4)
      have H34 : Hid (∀ g, v4.ownBlock = some g → v3.ownBlock ≠ some g) := Lib.hid (fun g hg h3 => by
        have := hn4.base g hg
        have := N3.out.own.lt g h3
        omega)
      have H35 : Hid (∀ g, u4.ownBlock = some g → v3.ownBlock ≠ some g) := Lib.hid (fun g hg h3 => by
        have := hm4.base g hg
        have := N3.out.own.lt g h3
        omega)
      have HAP := Lib.hid hap
      clear hn4 hm4 hb4 hap N3 L23 B3
      go_wp2_with fail
      refine (eqStringS_same v4 v2 P _ N44.out.1.own L24.out.1 (by rw [HMM.out]; omega)).mono ?_
      rintro e w5 ⟨rfl, d5, hd5⟩
      have B5 : Hid (Below w2.heap.size w2 w5) := by rw [hd5]; exact below_drewN B4.out _
      have N35 : Hid (New w2.heap.size w5 9 v3 (strs L)) := by rw [hd5]; exact N34.out.drewN _
      have L25 : Hid (Own w5 9 v2 (strs P) ∧ Own w5 9 u2 (strs R)) := by rw [hd5]; exact ⟨L24.out.1.drewN _, L24.out.2.drewN _⟩
      have N45 : Hid (New w3.heap.size w5 9 v4 (strs P) ∧ New w3.heap.size w5 9 u4 (strs R)) := by rw [hd5]; exact ⟨N44.out.1.drewN _, N44.out.2.drewN _⟩
      have W35 : Hid (w3.heap.size ≤ w5.heap.size) := by rw [hd5]; exact W34
      clear hd5 B4 L24 N44 W34 N34
      go_wp2_with fail
      refine (eqStringS_same u4 u2 R _ N45.out.2.own L25.out.2 (by rw [HRR.out]; omega)).mono ?_
      rintro e w6 ⟨rfl, d6, hd6⟩
      have B6 : Hid (Below w2.heap.size w2 w6) := by rw [hd6]; exact below_drewN B5.out _
      have N36 : Hid (New w2.heap.size w6 9 v3 (strs L)) := by rw [hd6]; exact N35.out.drewN _
      have L26 : Hid (Own w6 9 v2 (strs P) ∧ Own w6 9 u2 (strs R)) := by rw [hd6]; exact ⟨L25.out.1.drewN _, L25.out.2.drewN _⟩
      have N46 : Hid (New w3.heap.size w6 9 v4 (strs P) ∧ New w3.heap.size w6 9 u4 (strs R)) := by rw [hd6]; exact ⟨N45.out.1.drewN _, N45.out.2.drewN _⟩
      have W36 : Hid (w3.heap.size ≤ w6.heap.size) := by rw [hd6]; exact W35
      clear hd6 B5 L25 N45 W35 N35
      go_wp2_with fail
      refine (HS.out _ (HA.out.kept (B2.out.trans (B6.out.mono B2.out.size)))).mono ?_
      rintro e w7 ⟨v7, rfl, hn7, hb7⟩
      have B7 := Lib.hid (B6.out.trans (hb7.mono B6.out.size))
      have N37 := Lib.hid (N36.out.kept hb7)
      have L27 := Lib.hid (And.intro (L26.out.1.kept hb7) (L26.out.2.kept hb7))
      have N47 := Lib.hid (And.intro (N46.out.1.kept hb7) (N46.out.2.kept hb7))
      have W37 := Lib.hid (Nat.le_trans W36.out hb7.size)
      have L7 := Lib.hid hn7.own
      clear hn7 hb7 B6 N36 L26 N46 W36
      go_wp2_with fail
      refine (eqStringS_same v3 v7 L _ N37.out.own L7.out (by rw [HN.out]; omega)).mono ?_
      rintro e w8 ⟨rfl, d8, hd8⟩
      have B8 : Hid (Below w2.heap.size w2 w8) := by rw [hd8]; exact below_drewN B7.out _
      have N38 : Hid (New w2.heap.size w8 9 v3 (strs L)) := by rw [hd8]; exact N37.out.drewN _
      have L28 : Hid (Own w8 9 v2 (strs P) ∧ Own w8 9 u2 (strs R)) := by rw [hd8]; exact ⟨L27.out.1.drewN _, L27.out.2.drewN _⟩
      have N48 : Hid (New w3.heap.size w8 9 v4 (strs P) ∧ New w3.heap.size w8 9 u4 (strs R)) := by rw [hd8]; exact ⟨N47.out.1.drewN _, N47.out.2.drewN _⟩
      have W38 : Hid (w3.heap.size ≤ w8.heap.size) := by rw [hd8]; exact W37
      clear hd8 B7 L27 N47 W37 N37
      go_wp2_with fail
      refine (markStringS_full w2.heap.size v3 L 1 _ N38.out B8.out.size (by rw [HN.out]; omega) (by omega) (by omega)).mono ?_
      rintro e w9 ⟨rfl, _, hb9, hk9⟩
      have B9 := Lib.hid (B8.out.trans hb9)
      have L29 := Lib.hid (And.intro (L28.out.1.under L2.out.1.lt hb9) (L28.out.2.under L2.out.2.lt hb9))
      have N49 : Hid (New w3.heap.size w9 9 v4 (strs P) ∧ New w3.heap.size w9 9 u4 (strs R)) := Lib.hid ⟨⟨N48.out.1.own.besides hk9 H34.out, N48.out.1.base⟩, ⟨N48.out.2.own.besides hk9 H35.out, N48.out.2.base⟩⟩
      have W39 := Lib.hid (Nat.le_trans W38.out hb9.size)
      rw [HN.out]
      have hnn : ¬ ((1 : Int) + (n : Nat) < 0) := by omega
      clear hb9 hk9 B8 N38 L28 N48 W38
      go_wp2_with fail
      refine (eqStringS_same v4 v2 P _ N49.out.1.own L29.out.1 (by rw [HMM.out]; omega)).mono ?_
      rintro e w10 ⟨rfl, d10, hd10⟩
      have B10 : Hid (Below w2.heap.size w2 w10) := by rw [hd10]; exact below_drewN B9.out _
      have L210 : Hid (Own w10 9 v2 (strs P) ∧ Own w10 9 u2 (strs R)) := by rw [hd10]; exact ⟨L29.out.1.drewN _, L29.out.2.drewN _⟩
      have N410 : Hid (New w3.heap.size w10 9 v4 (strs P) ∧ New w3.heap.size w10 9 u4 (strs R)) := by rw [hd10]; exact ⟨N49.out.1.drewN _, N49.out.2.drewN _⟩
      have W310 : Hid (w3.heap.size ≤ w10.heap.size) := by rw [hd10]; exact W39
      clear hd10 B9 L29 N49 W39
      go_wp2_with fail
      refine (eqStringS_same u4 u2 R _ N410.out.2.own L210.out.2 (by rw [HRR.out]; omega)).mono ?_
      rintro e w11 ⟨rfl, d11, hd11⟩
      have B11 : Hid (Below w2.heap.size w2 w11) := by rw [hd11]; exact below_drewN B10.out _
      have L211 : Hid (Own w11 9 v2 (strs P) ∧ Own w11 9 u2 (strs R)) := by rw [hd11]; exact ⟨L210.out.1.drewN _, L210.out.2.drewN _⟩
      have N411 : Hid (New w3.heap.size w11 9 v4 (strs P) ∧ New w3.heap.size w11 9 u4 (strs R)) := by rw [hd11]; exact ⟨N410.out.1.drewN _, N410.out.2.drewN _⟩
      have W311 : Hid (w3.heap.size ≤ w11.heap.size) := by rw [hd11]; exact W310
      clear hd11 B10 L210 N410 W310
      go_wp2_with fail
      refine (markStringS_full w3.heap.size v4 P 1 _ N411.out.1 W311.out (by rw [HMM.out]; omega) (by omega) (by omega)).mono ?_
      rintro e w12 ⟨rfl, hn12, hb12, hk12⟩
      rw [HMM.out] at hn12
      have B12 := Lib.hid (B11.out.trans (hb12.mono W23.out))
      have L212 := Lib.hid (And.intro (L211.out.1.under (fun g hg => Nat.lt_of_lt_of_le (L2.out.1.lt g hg) W23.out) hb12) (L211.out.2.under (fun g hg => Nat.lt_of_lt_of_le (L2.out.2.lt g hg) W23.out) hb12))
      have N412 : Hid (New w3.heap.size w12 9 v4 (strs (smarks 1 m)) ∧ New w3.heap.size w12 9 u4 (strs R)) := Lib.hid ⟨hn12, ⟨N411.out.2.own.besides hk12 (fun g hg h4 => HAP.out g h4 hg), N411.out.2.base⟩⟩
      have W312 := Lib.hid (Nat.le_trans W311.out hb12.size)
      rw [HMM.out]
      clear hn12 hb12 hk12 B11 L211 N411 W311
      have hcm : ((1 : Int) + (m : Nat)) = ((1 + m : Nat) : Int) := by omega
      have HMK : Hid (∀ W9, New w3.heap.size W9 9 u4 (strs R) → w3.heap.size ≤ W9.heap.size → Calls Try.prog 16 #[u4, .int .i64 (1 + (m : Int))] W9 _) := Lib.hid (fun W9 h1 h2 => by rw [hcm]; exact markStringS_full w3.heap.size u4 R (1 + m) W9 h1 h2 (by rw [HRR.out]; omega) (by omega) (by omega))
      have HHK : Hid (∀ W9, Own W9 9 u4 (strs (smarks (1 + m) p)) → Calls Try.prog 17 #[u4, .int .i64 (1 + (m : Int))] W9 _) := Lib.hid (fun W9 h1 => by rw [hcm]; exact heldStringS_any u4 p (1 + m) W9 h1 (by omega) (by omega) (by omega))
      clear hcm
      go_wp2_with fail
      refine (HMK.out _ N412.out.2 W312.out).mono ?_
      rintro e w13 ⟨rfl, hn13, hb13, hk13⟩
      rw [HRR.out] at hn13
      have B13 := Lib.hid (B12.out.trans (hb13.mono W23.out))
      have L213 := Lib.hid (And.intro (L212.out.1.under (fun g hg => Nat.lt_of_lt_of_le (L2.out.1.lt g hg) W23.out) hb13) (L212.out.2.under (fun g hg => Nat.lt_of_lt_of_le (L2.out.2.lt g hg) W23.out) hb13))
      have N413 : Hid (New w3.heap.size w13 9 v4 (strs (smarks 1 m)) ∧ New w3.heap.size w13 9 u4 (strs (smarks (1 + m) p))) := Lib.hid ⟨⟨N412.out.1.own.besides hk13 (fun g hg h4 => HAP.out g hg h4), N412.out.1.base⟩, hn13⟩
      rw [HRR.out]
      clear hn13 hb13 hk13 B12 L212 N412 W312 HMK
      have htot : (((1 + m : Nat) : Int) + (p : Nat)) = 1 + (m : Int) + p := by omega
      have hmm : ¬ ((1 : Int) + (m : Int) < 0) := by omega
      have hmp : ¬ ((1 : Int) + (m : Int) + p < 0) := by omega
      rw [htot]
      go_wp2_with fail
      refine (heldStringS_any v4 m 1 _ N413.out.1.own (by omega) (by omega) (by omega)).mono ?_
      rintro e w14 ⟨rfl, hb14⟩
      have B14 := Lib.hid (B13.out.trans (hb14.mono B13.out.size))
      have L214 := Lib.hid (And.intro (L213.out.1.kept hb14) (L213.out.2.kept hb14))
      have N414 := Lib.hid (And.intro (N413.out.1.kept hb14) (N413.out.2.kept hb14))
      clear hb14 B13 L213 N413
      go_wp2_with fail
      refine (HHK.out _ N414.out.2.own).mono ?_
      rintro e w15 ⟨rfl, hb15⟩
      have B15 := Lib.hid (B14.out.trans (hb15.mono B14.out.size))
      have L215 := Lib.hid (And.intro (L214.out.1.kept hb15) (L214.out.2.kept hb15))
      have N415 := Lib.hid (And.intro (N414.out.1.kept hb15) (N414.out.2.kept hb15))
      rw [htot]
      clear hb15 B14 L214 N414
      go_wp2_with fail
      refine (HS.out _ (HA.out.kept (B2.out.trans (B15.out.mono B2.out.size)))).mono ?_
      rintro e w16 ⟨v16, rfl, hn16, hb16⟩
      have B16 := Lib.hid (B15.out.trans (hb16.mono B15.out.size))
      have L216 := Lib.hid (And.intro (L215.out.1.kept hb16) (L215.out.2.kept hb16))
      have N416 := Lib.hid (And.intro (N415.out.1.kept hb16) (N415.out.2.kept hb16))
      have T16 := Lib.hid hn16.own.txts
      clear hn16 hb16 B15 L215 N415
      go_wp2_with fail
      refine (HM.out _ _ T16.out).mono ?_
      rintro e w17 ⟨v17, u17, rfl, hn17, hm17, _, hb17⟩
      have B17 := Lib.hid (B16.out.trans (hb17.mono B16.out.size))
      have L217 := Lib.hid (And.intro (L216.out.1.kept hb17) (L216.out.2.kept hb17))
      have N417 := Lib.hid (And.intro (N416.out.1.kept hb17) (N416.out.2.kept hb17))
      have L17 := Lib.hid (And.intro hn17.own hm17.own)
      clear hn17 hm17 hb17 B16 L216 N416 T16
      go_wp2_with fail
      refine (eqStringS_same v17 v2 P _ L17.out.1 L217.out.1 (by rw [HMM.out]; omega)).mono ?_
      rintro e w18 ⟨rfl, d18, hd18⟩
      have B18 : Hid (Below w2.heap.size w2 w18) := by rw [hd18]; exact below_drewN B17.out _
      have L18 : Hid (Own w18 9 u17 (strs R) ∧ Own w18 9 u2 (strs R)) := by rw [hd18]; exact ⟨L17.out.2.drewN _, L217.out.2.drewN _⟩
      have N418 : Hid (New w3.heap.size w18 9 v4 (strs (smarks 1 m)) ∧ New w3.heap.size w18 9 u4 (strs (smarks (1 + m) p))) := by rw [hd18]; exact ⟨N417.out.1.drewN _, N417.out.2.drewN _⟩
      clear hd18 B17 L217 N417 L17
      go_wp2_with fail
      refine (eqStringS_same u17 u2 R _ L18.out.1 L18.out.2 (by rw [HRR.out]; omega)).mono ?_
      rintro e w19 ⟨rfl, d19, hd19⟩
      have B19 : Hid (Below w2.heap.size w2 w19) := by rw [hd19]; exact below_drewN B18.out _
      have N419 : Hid (New w3.heap.size w19 9 v4 (strs (smarks 1 m)) ∧ New w3.heap.size w19 9 u4 (strs (smarks (1 + m) p))) := by rw [hd19]; exact ⟨N418.out.1.drewN _, N418.out.2.drewN _⟩
      clear hd19 B18 N418 L18
      go_wp2_with fail
      refine (heldStringS_any v4 m 1 _ N419.out.1.own (by omega) (by omega) (by omega)).mono ?_
      rintro e w20 ⟨rfl, hb20⟩
      have B20 := Lib.hid (B19.out.trans (hb20.mono B19.out.size))
      have N420 := Lib.hid (N419.out.2.kept hb20)
      clear hb20 B19 N419
      go_wp2_with fail
      refine (HHK.out _ N420.out.own).mono ?_
      rintro e w21 ⟨rfl, hb21⟩
      have B21 := Lib.hid (B20.out.trans (hb21.mono B20.out.size))
      rw [htot]
      clear hb21 B20 N420
      go_wp2
      go_ret
      exact ⟨rfl, B2.out.trans (B21.out.mono B2.out.size)⟩
end Go.Proofs.Ytpnagaokmfaaiaa
