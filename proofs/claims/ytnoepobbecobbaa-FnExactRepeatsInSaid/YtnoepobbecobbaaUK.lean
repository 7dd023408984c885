/- The law RepeatsIn. -/
import Derived.Test.YtnoepobbecobbaaUG
import Derived.Test.YtnoepobbecobbaaUD
import Derived.Test.YtnoepobbecobbaaOF
namespace Go.Proofs.Ytnoepobbecobbaa
open Go.RowKit
set_option linter.unusedSimpArgs false
set_option linter.unusedVariables false

theorem bothRepeatsIn (L : List (List Nat)) (hl : L.length ≤ 2000000) (hs : ∀ l ∈ L, l.length ≤ maxLen) :
    ∃ (m : Nat) (F : Nat → List Int) (b : Bool), m ≤ 100 ∧ (∀ i, i < m → (F i).length ≤ 2) ∧ (∀ u w, Txts w u L → Calls Try.prog 19 #[u] w fun e w' => ∃ v vs, e = .returned (.tuple #[v, .bool b]) ∧ Lists w.heap.size w' v vs m F ∧ Below w.heap.size w w') ∧
      (∀ u w, Txts w u L → Calls Try.prog 18 #[u] w fun e w' => ∃ v vs, e = .returned (.tuple #[v, .bool b]) ∧ Lists w.heap.size w' v vs m F ∧ Below w.heap.size w w') := by
  refine ⟨(rpL L).length, lkN (rpL L), listB L, ?_, ?_, fun u w h => iRepeatsIn_any u L w h hl hs, fun u w h => sRepeatsIn_any u L w h hl hs⟩
  · unfold rpL
    split
    · exact repF_len _
    · simp
  · intro i hi
    unfold lkN
    rw [numsV_len, List.getD_eq_getElem?_getD, List.getElem?_eq_getElem hi, Option.getD_some]
    have h1 : (rpL L)[i] ∈ rpL L := List.getElem_mem hi
    generalize (rpL L)[i] = x at h1 ⊢
    unfold rpL at h1
    split at h1
    · obtain ⟨a, b, _, _, _, rfl, _⟩ := repF_mem h1
      simp
    · simp at h1

set_option maxRecDepth 100000 in
set_option maxHeartbeats 1000000 in
theorem lawRepeatsIn (v0 : Value) (ss0 : List ByteArray) (W : World) (hA0 : Arg W v0 ss0) (hy0 : ss0.length ≤ maxLen ∧ ∀ s ∈ ss0, s.size ≤ maxLen) :
    Calls Try.prog 4 #[v0] W fun e w' => e = .returned (.bool true) ∧ Below W.heap.size W w' := by
  have hz0 : ∀ w, Arg w v0 ss0 → (0 : Int) ≤ 1048576 → (1048576 : Int) ≤ 1048576 → Calls _ _ _ w _ := fun w h h0 h1 => szStringS_any v0 ss0 w h hy0.1 hy0.2 (1048576) h0 h1
  have hlen0 := szAll_len (ss := ss0) (left := 1048576)
  have hsm0 := letss_small (ss := ss0) (left := 1048576)
  have hle0 := szAll_left (ss := ss0) (left := 1048576)
  generalize hzz0 : szAll ss0 1048576 = z0 at *
  by_cases hneg0 : z0 < 0
  · clear hlen0 hsm0 hle0
    go_enter Try.func4, Try.ntmps4
    go_wp2_with fail
    refine (hz0 _ hA0 (by omega) (by omega)).mono ?_
    rintro e w0 ⟨rfl, rfl⟩
    go_wp2
    go_ret
    exact ⟨rfl, Below.refl _ _⟩
  have hn0 := hlen0 (by omega)
  have hsm0 := hsm0 (by omega) (by omega)
  have hle0 := hle0 (by omega)
  have hss0 : ss0.length ≤ 1048576 := by omega
  have HS0 : Hid (∀ w, Arg w v0 ss0 → Calls Try.prog 15 #[v0] w _) := Lib.hid (fun w h => toStringS_any v0 ss0 w h (by omega))
  have HZ0 := Lib.hid hz0
  have hll0 := letss_len ss0
  generalize letss ss0 = L0 at *
  have hL0 : L0.length ≤ 1048576 := by omega
  have HA0 := Lib.hid hA0
  obtain ⟨m, F, b, hm8, hFB, hI, hM⟩ := bothRepeatsIn L0 (by omega) hsm0
  have HI := Lib.hid hI
  have HM := Lib.hid hM
  clear hI hM hz0 hlen0 hy0 hll0 hA0 hsm0 
  obtain ⟨q0, hq0⟩ : ∃ n, L0.length = n := ⟨_, rfl⟩
  rw [hq0] at hL0
  have HQ0 := Lib.hid hq0
  clear hq0
  have hqi0 : (q0 : Int) ≤ 1048576 := by omega
  have HFB := Lib.hid hFB
  have hsb := offL_bound6 (L := fun i => (F i).length) (n := m) (c := 2) hFB
  obtain ⟨sm, hsm⟩ : ∃ sm, offL (fun i => (F i).length) m = sm := ⟨_, rfl⟩
  rw [hsm] at hsb
  have hsm200 : sm ≤ 200 := by omega
  have hsmi : (sm : Int) ≤ 200 := by omega
  have HSM := Lib.hid hsm
  clear hsm hFB hsb
  have hmi : (m : Int) ≤ 100 := by omega
  cases b
  all_goals
    go_enter Try.func4, Try.ntmps4
    go_wp2_with fail
    refine (HZ0.out _ HA0.out (by omega) (by omega)).mono ?_
    rintro e w0 ⟨rfl, rfl⟩
    clear HZ0
    go_wp2_with fail
    refine (HS0.out _ HA0.out).mono ?_
    rintro e w1 ⟨va0, rfl, hn1, hb1⟩
    have B1 := Lib.hid hb1
    have Ta0_1 := Lib.hid hn1
    clear hn1 hb1
    go_wp2_with fail
    refine (HM.out va0 _ Ta0_1.out.own.txts).mono ?_
    rintro e w2 ⟨v2, vs2, rfl, hn2, hb2⟩
    have B2 := Lib.hid (B1.out.trans (hb2.mono B1.out.size))
    have Ta0_2 := Lib.hid (Ta0_1.out.kept hb2)
    have R_2 := Lib.hid hn2
    clear hn2 hb2 B1 Ta0_1
    clear Ta0_2
    have BB := B2
    clear B2
    have R0 := R_2
    go_wp2_with fail
    refine (HS0.out _ (HA0.out.kept BB.out)).mono ?_
    rintro e w3 ⟨vx0, rfl, hn3, hb3⟩
    have B3 := Lib.hid hb3
    have R_3 := Lib.hid (R_2.out.kept hb3)
    have Tx0_3 := Lib.hid hn3
    clear hn3 hb3 R_2
    have SZX := Lib.hid B3.out.size
    go_wp2_with fail
    refine (HI.out vx0 _ Tx0_3.out.own.txts).mono ?_
    rintro e w4 ⟨v4, vs4, rfl, hn4, hb4⟩
    have AP0 : Hid (∀ g, vx0.ownBlock = some g → g < w3.heap.size) := Lib.hid (fun g hg => Tx0_3.out.own.lt g hg)
    have SZ4 := Lib.hid hb4.size
    have B4 := Lib.hid (B3.out.trans (hb4.mono B3.out.size))
    have R_4 := Lib.hid (R_3.out.kept hb4)
    have Tx0_4 := Lib.hid (Tx0_3.out.kept hb4)
    have G_4 := Lib.hid hn4
    clear hn4 hb4 B3 R_3 Tx0_3
    go_wp2_with fail
    refine (eqIntSS_same _ _ v4 v2 vs4 vs2 m F _ G_4.out R_4.out (by omega) (fun i hi => by have := HFB.out i hi; omega)).mono ?_
    rintro e w5 ⟨rfl, d5, hd5⟩
    have B5 : Hid (Below w2.heap.size w2 w5) := by rw [hd5]; exact below_drewN B4.out _
    have R_5 := Lib.hid (R_4.out.drewN6 d5)
    rw [← hd5] at R_5
    have Tx0_5 := Lib.hid (Tx0_4.out.drewN d5)
    rw [← hd5] at Tx0_5
    have G_5 := Lib.hid (G_4.out.drewN6 d5)
    rw [← hd5] at G_5
    have SZ5 : Hid (w3.heap.size ≤ w5.heap.size) := by rw [hd5]; exact SZ4.out
    clear hd5 SZ4 B4 R_4 Tx0_4 G_4
    go_wp2_with fail
    refine (HS0.out _ (HA0.out.kept (BB.out.trans (B5.out.mono BB.out.size)))).mono ?_
    rintro e w6 ⟨vy0, rfl, hn6, hb6⟩
    have B6 := Lib.hid (B5.out.trans (hb6.mono B5.out.size))
    have R_6 := Lib.hid (R_5.out.kept hb6)
    have Tx0_6 := Lib.hid (Tx0_5.out.kept hb6)
    have G_6 := Lib.hid (G_5.out.kept hb6)
    have Ty_6 := Lib.hid hn6.own
    have SZ6 := Lib.hid (Nat.le_trans SZ5.out hb6.size)
    clear hn6 hb6 B5 SZ5 R_5 Tx0_5 G_5
    go_wp2_with fail
    refine (eqStringS_same vx0 vy0 L0 _ Tx0_6.out.own Ty_6.out (by rw [HQ0.out]; omega)).mono ?_
    rintro e w7 ⟨rfl, d7, hd7⟩
    have B7 : Hid (Below w2.heap.size w2 w7) := by rw [hd7]; exact below_drewN B6.out _
    have R_7 := Lib.hid (R_6.out.drewN6 d7)
    rw [← hd7] at R_7
    have Tx0_7 := Lib.hid (Tx0_6.out.drewN d7)
    rw [← hd7] at Tx0_7
    have G_7 := Lib.hid (G_6.out.drewN6 d7)
    rw [← hd7] at G_7
    have Ty_7 := Lib.hid (Ty_6.out.drewN d7)
    rw [← hd7] at Ty_7
    have SZ7 : Hid (w3.heap.size ≤ w7.heap.size) := by rw [hd7]; exact SZ6.out
    clear hd7 SZ6 B6 R_6 Tx0_6 G_6 Ty_6
    clear Ty_7
    go_wp2_with fail
    refine (markStringS_full w2.heap.size vx0 L0 1 _ Tx0_7.out B7.out.size (by rw [HQ0.out]; omega) (by omega) (by omega)).mono ?_
    rintro e w8 ⟨rfl, _, hb8, hk8⟩
    have B8 := Lib.hid (B7.out.trans hb8)
    have R_8 := Lib.hid (R_7.out.under6 R0.out.below6 hb8)
    have G_8 := Lib.hid (G_7.out.besides6 hk8 AP0.out)
    have SZ8 := Lib.hid (Nat.le_trans SZ7.out hb8.size)
    rw [HQ0.out]
    clear hb8 hk8 B7 SZ7 R_7 G_7 Tx0_7
    have hnn : ¬ ((1 : Int) + (q0 : Nat) < 0) := by omega
    go_wp2_with fail
    refine (eqIntSS_same _ _ v4 v2 vs4 vs2 m F _ G_8.out R_8.out (by omega) (fun i hi => by have := HFB.out i hi; omega)).mono ?_
    rintro e w9 ⟨rfl, d9, hd9⟩
    have B9 : Hid (Below w2.heap.size w2 w9) := by rw [hd9]; exact below_drewN B8.out _
    have R_9 := Lib.hid (R_8.out.drewN6 d9)
    rw [← hd9] at R_9
    have G_9 := Lib.hid (G_8.out.drewN6 d9)
    rw [← hd9] at G_9
    have SZ9 : Hid (w3.heap.size ≤ w9.heap.size) := by rw [hd9]; exact SZ8.out
    clear hd9 SZ8 B8 R_8 G_8
    go_wp2_with fail
    refine (markIntSS_any w3.heap.size v4 vs4 m F 1 _ G_9.out (by omega) SZ9.out (by rw [HSM.out]; omega) (by omega) (by omega)).mono ?_
    rintro e w10 ⟨rfl, hn10, hb10⟩
    have B10 := Lib.hid (B9.out.trans (hb10.mono SZX.out))
    have R_10 := Lib.hid (R_9.out.under6 (R0.out.below6.mono SZX.out) hb10)
    have G_10 := Lib.hid hn10.marked6
    rw [HSM.out]
    clear hn10 hb10 B9 R_9 G_9
    go_wp2_with fail
    refine (heldIntSS_any w3.heap.size v4 vs4 m (fun i => (F i).length) 1 _ G_10.out (by omega) (by rw [HSM.out]; omega) (by omega) (by omega)).mono ?_
    rintro e w11 ⟨rfl, rfl⟩
    rw [HSM.out]
    have B11 := B10
    have R_11 := R_10
    have G_11 := G_10
    clear B10 R_10 G_10
    have hmm : ¬ ((1 : Int) + (sm : Nat) < 0) := by omega
    go_wp2_with fail
    refine (HS0.out _ (HA0.out.kept (BB.out.trans (B11.out.mono BB.out.size)))).mono ?_
    rintro e w12 ⟨vh0, rfl, hn12, hb12⟩
    have B12 := Lib.hid (B11.out.trans (hb12.mono B11.out.size))
    have R_12 := Lib.hid (R_11.out.kept hb12)
    have G_12 := Lib.hid (G_11.out.kept hb12)
    have Th0_12 := Lib.hid hn12
    clear hn12 hb12 B11 R_11 G_11
    go_wp2_with fail
    refine (HI.out vh0 _ Th0_12.out.own.txts).mono ?_
    rintro e w13 ⟨v13, vs13, rfl, hn13, hb13⟩
    have B13 := Lib.hid (B12.out.trans (hb13.mono B12.out.size))
    have R_13 := Lib.hid (R_12.out.kept hb13)
    have G_13 := Lib.hid (G_12.out.kept hb13)
    have Th0_13 := Lib.hid (Th0_12.out.kept hb13)
    have H_13 := Lib.hid hn13
    clear hn13 hb13 B12 R_12 G_12 Th0_12
    clear Th0_13
    go_wp2_with fail
    refine (eqIntSS_same _ _ v13 v2 vs13 vs2 m F _ H_13.out R_13.out (by omega) (fun i hi => by have := HFB.out i hi; omega)).mono ?_
    rintro e w14 ⟨rfl, d14, hd14⟩
    have B14 : Hid (Below w2.heap.size w2 w14) := by rw [hd14]; exact below_drewN B13.out _
    have G_14 := Lib.hid (G_13.out.drewN6 d14)
    rw [← hd14] at G_14
    clear hd14 B13 R_13 G_13 H_13
    go_wp2_with fail
    refine (heldIntSS_any w3.heap.size v4 vs4 m (fun i => (F i).length) 1 _ G_14.out (by omega) (by rw [HSM.out]; omega) (by omega) (by omega)).mono ?_
    rintro e w15 ⟨rfl, rfl⟩
    rw [HSM.out]
    go_wp2
    go_ret
    exact ⟨rfl, BB.out.trans (B14.out.mono BB.out.size)⟩
end Go.Proofs.Ytnoepobbecobbaa
