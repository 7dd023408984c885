/- The law FnExactMirrorAll. -/
import Derived.Test.YtpnagaokmfaaiaaC4
namespace Go.Proofs.Ytpnagaokmfaaiaa
open Go.RowKit
set_option linter.unusedSimpArgs false

theorem Own.under {B : Nat} {W W' : World} {e : TypeId} {v : Value} {xs : List Value} (h : Own W e v xs) (hlt : ∀ g, v.ownBlock = some g → g < B) (hb : Below B W W') : Own W' e v xs := h.block fun g hg => hb.block g (hlt g hg)
theorem Own.besides {W W' : World} {e : TypeId} {v u : Value} {xs : List Value} (h : Own W e v xs) (hk : KeptBut W W' u) (hne : ∀ g, v.ownBlock = some g → u.ownBlock ≠ some g) : Own W' e v xs := h.block fun g hg => hk g (h.lt g hg) (hne g hg)

set_option maxRecDepth 100000 in
set_option maxHeartbeats 1000000 in
theorem lawMirrorAll (v : Value) (ss : List ByteArray) (W : World) (hA : Arg W v ss) (hy : ss.length ≤ maxLen ∧ ∀ s ∈ ss, s.size ≤ maxLen) :
    Calls Try.prog 6 #[v] W fun e w' => e = .returned (.bool true) ∧ Below W.heap.size W w' := by
  have hz := szStringS_any v ss W hA hy.1 hy.2 1048576 (by omega) (by omega)
  have hlen := szAll_len (ss := ss) (left := 1048576)
  generalize szAll ss 1048576 = z at *
  by_cases hneg : z < 0
  · clear hlen
    go_enter Try.func6, Try.ntmps6
    go_wp2_with fail
    refine hz.mono ?_
    rintro e w0 ⟨rfl, rfl⟩
    go_wp2
    go_ret
    exact ⟨rfl, Below.refl _ _⟩
  · have hn := hlen (by omega)
    have hss : ss.length ≤ 1048576 := by omega
    have HS : Hid (∀ w, Arg w v ss → Calls Try.prog 9 #[v] w _) := Lib.hid (fun w h => toStringS_any v ss w h (by omega))
    have hll := letss_len ss
    generalize letss ss = L at *
    have hL : L.length ≤ 1048576 := by omega
    have HM : Hid (∀ u w, Txts w u L → Calls Try.prog 19 #[u] w _) := Lib.hid (fun u w h => iMirrorAll_any u L w h (by omega))
    have HM2 : Hid (∀ u w, Txts w u L → Calls Try.prog 18 #[u] w _) := Lib.hid (fun u w h => sMirrorAll_any u L w h (by omega))
    have HPL := palOut_len L
    clear hlen hy hn hss hll
    generalize palOut L = P at *
    have HA := Lib.hid hA
    clear hA
    obtain ⟨n, hn⟩ : ∃ n, L.length = n := ⟨_, rfl⟩
    obtain ⟨m, hm⟩ : ∃ m, P.length = m := ⟨_, rfl⟩
    rw [hn] at hL
    rw [hm] at HPL
    have HN := Lib.hid hn
    have HMM := Lib.hid hm
    clear hn hm
    have hni : (n : Int) ≤ 1048576 := by omega
    have hmi : (m : Int) ≤ 40 := by omega
    cases hb : palOk L
    all_goals
      rw [hb] at HM HM2
      clear hb
      go_enter Try.func6, Try.ntmps6
      go_wp2_with fail
      refine hz.mono ?_
      rintro e w0 ⟨rfl, rfl⟩
      clear hz
      go_wp2_with fail
      refine (HS.out _ HA.out).mono ?_
      rintro e w1 ⟨v1, rfl, hn1, hb1⟩
      have B1 := Lib.hid hb1
      have T1 := Lib.hid hn1.own.txts
      clear hn1 hb1
      go_wp2_with fail
      refine (HM2.out _ _ T1.out).mono ?_
      rintro e w2 ⟨v2, rfl, hn2, hb2⟩
      have B2 := Lib.hid (B1.out.trans (hb2.mono B1.out.size))
      have L2 := Lib.hid hn2.own
      clear hn2 hb2 B1 T1
      go_wp2_with fail
      refine (HS.out _ (HA.out.kept B2.out)).mono ?_
      rintro e w3 ⟨v3, rfl, hn3, hb3⟩
      have B3 := Lib.hid hb3
      have N3 := Lib.hid hn3
      have L23 := Lib.hid (L2.out.kept hb3)
      have W23 := Lib.hid hb3.size
      clear hn3 hb3
      go_wp2_with fail
      refine (HM.out _ _ N3.out.own.txts).mono ?_
      rintro e w4 ⟨v4, rfl, hn4, hb4⟩
      have W34 := Lib.hid hb4.size
      have B4 := Lib.hid (B3.out.trans (hb4.mono B3.out.size))
      have N34 := Lib.hid (N3.out.kept hb4)
      have L24 := Lib.hid (L23.out.kept hb4)
      have N4 := Lib.hid hn4
      have H34 : Hid (∀ g, v4.ownBlock = some g → v3.ownBlock ≠ some g) := Lib.hid (fun g hg h3 => by
        have := hn4.base g hg
        have := N3.out.own.lt g h3
        omega)
      clear hn4 hb4 N3 L23 B3
      go_wp2_with fail
      refine (eqStringS_same v4 v2 P _ N4.out.own L24.out (by rw [HMM.out]; omega)).mono ?_
      rintro e w5 ⟨rfl, d5, hd5⟩
      have W35 : Hid (w3.heap.size ≤ w5.heap.size) := by rw [hd5]; exact W34
      have B5 : Hid (Below w2.heap.size w2 w5) := by rw [hd5]; exact below_drewN B4.out _
      have N35 : Hid (New w2.heap.size w5 9 v3 (strs L)) := by rw [hd5]; exact N34.out.drewN _
      have L25 : Hid (Own w5 9 v2 (strs P)) := by rw [hd5]; exact L24.out.drewN _
      have N45 : Hid (New w3.heap.size w5 9 v4 (strs P)) := by rw [hd5]; exact N4.out.drewN _
      clear hd5 B4 N34 L24 N4
      go_wp2_with fail
      refine (HS.out _ (HA.out.kept (B2.out.trans (B5.out.mono B2.out.size)))).mono ?_
      rintro e w6 ⟨v6, rfl, hn6, hb6⟩
      have W36 := Lib.hid (Nat.le_trans W35.out hb6.size)
      have B6 := Lib.hid (B5.out.trans (hb6.mono B5.out.size))
      have N36 := Lib.hid (N35.out.kept hb6)
      have L26 := Lib.hid (L25.out.kept hb6)
      have N46 := Lib.hid (N45.out.kept hb6)
      have L6 := Lib.hid hn6.own
      clear hn6 hb6 B5 N35 L25 N45
      go_wp2_with fail
      refine (eqStringS_same v3 v6 L _ N36.out.own L6.out (by rw [HN.out]; omega)).mono ?_
      rintro e w7 ⟨rfl, d7, hd7⟩
      have W37 : Hid (w3.heap.size ≤ w7.heap.size) := by rw [hd7]; exact W36
      have B7 : Hid (Below w2.heap.size w2 w7) := by rw [hd7]; exact below_drewN B6.out _
      have N37 : Hid (New w2.heap.size w7 9 v3 (strs L)) := by rw [hd7]; exact N36.out.drewN _
      have L27 : Hid (Own w7 9 v2 (strs P)) := by rw [hd7]; exact L26.out.drewN _
      have N47 : Hid (New w3.heap.size w7 9 v4 (strs P)) := by rw [hd7]; exact N46.out.drewN _
      clear hd7 B6 N36 L26 N46 L6
      go_wp2_with fail
      refine (markStringS_full w2.heap.size v3 L 1 _ N37.out B7.out.size (by rw [HN.out]; omega) (by omega) (by omega)).mono ?_
      rintro e w8 ⟨rfl, _, hb8, hk8⟩
      have B8 := Lib.hid (B7.out.trans hb8)
      have W38 := Lib.hid (Nat.le_trans W37.out hb8.size)
      have L28 := Lib.hid (L27.out.under (L2.out.lt) hb8)
      have N48 : Hid (New w3.heap.size w8 9 v4 (strs P)) := Lib.hid ⟨N47.out.own.besides hk8 H34.out, N47.out.base⟩
      rw [HN.out]
      have hnn : ¬ ((1 : Int) + (n : Nat) < 0) := by omega
      clear hb8 hk8 B7 N37 L27 N47
      go_wp2_with fail
      refine (eqStringS_same v4 v2 P _ N48.out.own L28.out (by rw [HMM.out]; omega)).mono ?_
      rintro e w9 ⟨rfl, d9, hd9⟩
      have B9 : Hid (Below w2.heap.size w2 w9) := by rw [hd9]; exact below_drewN B8.out _
      have W39 : Hid (w3.heap.size ≤ w9.heap.size) := by rw [hd9]; exact W38
      have L29 : Hid (Own w9 9 v2 (strs P)) := by rw [hd9]; exact L28.out.drewN _
      have N49 : Hid (New w3.heap.size w9 9 v4 (strs P)) := by rw [hd9]; exact N48.out.drewN _
      clear hd9 B8 L28 N48
      go_wp2_with fail
      refine (markStringS_full w3.heap.size v4 P 1 _ N49.out W39.out (by rw [HMM.out]; omega) (by omega) (by omega)).mono ?_
      rintro e w10 ⟨rfl, hn10, hb10, _⟩
      rw [HMM.out] at hn10
      have B10 := Lib.hid (B9.out.trans (hb10.mono W23.out))
      have L210 := Lib.hid (L29.out.under (fun g hg => Nat.lt_of_lt_of_le (L2.out.lt g hg) W23.out) hb10)
      have N410 := Lib.hid hn10
      rw [HMM.out]
      clear hn10 hb10 B9 L29 N49
      go_wp2_with fail
      refine (heldStringS_any v4 m 1 _ N410.out.own (by omega) (by omega) (by omega)).mono ?_
      rintro e w11 ⟨rfl, hb11⟩
      have B11 := Lib.hid (B10.out.trans (hb11.mono B10.out.size))
      have L211 := Lib.hid (L210.out.kept hb11)
      have N411 := Lib.hid (N410.out.kept hb11)
      have hmm : ¬ ((1 : Int) + (m : Nat) < 0) := by omega
      clear hb11 B10 L210 N410
      go_wp2_with fail
      refine (HS.out _ (HA.out.kept (B2.out.trans (B11.out.mono B2.out.size)))).mono ?_
      rintro e w12 ⟨v12, rfl, hn12, hb12⟩
      have B12 := Lib.hid (B11.out.trans (hb12.mono B11.out.size))
      have L212 := Lib.hid (L211.out.kept hb12)
      have N412 := Lib.hid (N411.out.kept hb12)
      have T12 := Lib.hid hn12.own.txts
      clear hn12 hb12 B11 L211 N411
      go_wp2_with fail
      refine (HM.out _ _ T12.out).mono ?_
      rintro e w13 ⟨v13, rfl, hn13, hb13⟩
      have B13 := Lib.hid (B12.out.trans (hb13.mono B12.out.size))
      have L213 := Lib.hid (L212.out.kept hb13)
      have N413 := Lib.hid (N412.out.kept hb13)
      have L13 := Lib.hid hn13.own
      clear hn13 hb13 B12 L212 N412 T12
      go_wp2_with fail
      refine (eqStringS_same v13 v2 P _ L13.out L213.out (by rw [HMM.out]; omega)).mono ?_
      rintro e w14 ⟨rfl, d14, hd14⟩
      have B14 : Hid (Below w2.heap.size w2 w14) := by rw [hd14]; exact below_drewN B13.out _
      have N414 : Hid (New w3.heap.size w14 9 v4 (strs (smarks 1 m))) := by rw [hd14]; exact N413.out.drewN _
      clear hd14 B13 L213 N413 L13
      go_wp2_with fail
      refine (heldStringS_any v4 m 1 _ N414.out.own (by omega) (by omega) (by omega)).mono ?_
      rintro e w15 ⟨rfl, hb15⟩
      have B15 := Lib.hid (B14.out.trans (hb15.mono B14.out.size))
      clear hb15 B14
      go_wp2
      go_ret
      exact ⟨rfl, B2.out.trans (B15.out.mono B2.out.size)⟩
end Go.Proofs.Ytpnagaokmfaaiaa
