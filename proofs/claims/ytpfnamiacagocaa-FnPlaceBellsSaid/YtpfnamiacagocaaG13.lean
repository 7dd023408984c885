/- The law FnPlaceBells. -/
import Derived.Test.YtpfnamiacagocaaG12
namespace Go.Proofs.Ytpfnamiacagocaa
open Go.RowKit
set_option linter.unusedSimpArgs false
set_option linter.unusedVariables false

set_option maxRecDepth 100000 in
set_option maxHeartbeats 16000000 in
theorem lawPlaceBells2 (a1 : Option Addr) (l1 c1 : Nat) (z1 : List Int) (a2 : Option Addr) (l2 c2 : Nat) (z2 : List Int) (w : World) (hz1 : IsBytes w a1 l1 c1 z1) (hz2 : IsBytes w a2 l2 c2 z2) :
    Calls Try.prog 4 #[.slice a1 l1 c1, .slice a2 l2 c2] w fun e w' => e = .returned (.bool true) ∧ Below w.heap.size w w' := by
  have HZ1 := Lib.hid hz1
  have HZ2 := Lib.hid hz2
  clear hz1 hz2
  go_enter Try.func4, Try.ntmps4
  go_wp2_with fail
  refine (big_any a1 a2 l1 l2 c1 c2 HZ1.out.lenW HZ2.out.lenW _).mono ?_
  rintro e w0 ⟨rfl, rfl⟩
  by_cases hbig : 1048576 < l1 + l2
  · rw [decide_eq_true hbig]
    go_wp2
    go_ret
    exact ⟨rfl, Below.refl _ _⟩
  · rw [decide_eq_false hbig]
    have HL1 := Lib.hid (show l1 ≤ 1048576 by omega)
    have HL2 := Lib.hid (show l2 ≤ 1048576 by omega)
    clear hbig
    go_wp2_with fail
    refine (DrawPlaceBells_any a1 l1 c1 z1 _ HZ1.out HL1.out).mono ?_
    rintro e w1 ⟨s, n, v, L, b, rfl, hsz, hn2, hn9, hn, hL, hs, hb1⟩
    have hsmx : s.size ≤ maxLen := by unfold maxLen; omega
    have HI := Lib.hid (fun u w h => iPlaceBells_any s hsmx n u L b w h (by omega))
    have HS := Lib.hid (fun u w h => sPlaceBells_any s hsmx n u L b w h (by omega) (small10d hs))
    have KI := Lib.hid (fun u w h => iCoursePath_any s hsmx n u L b w h (by omega))
    have KS := Lib.hid (fun u w h => sCoursePath_any s hsmx n u L b w h (by omega) (small10d hs))
    have HPA := Lib.hid (fun x u w h => iPathOf_any s hsmx n u L x w h (by omega))
    have HFA := Lib.hid (fun h => bellFacts s hsmx n L (by omega) b h)
    have hbl := bellsL_len s n L b
    have hcl := courseL_len s n L b
    unfold NumsAny at HI HS KI KS HPA
    obtain ⟨a, cap, hv, -⟩ := hn.own.view
    rw [strs_len] at hv
    subst hv
    obtain ⟨o1, ho1⟩ : ∃ o1, Obj.cells #[.string s, .int .i64 n, .slice a L.length cap] 26 = o1 := ⟨_, rfl⟩
    have hal := (Below.refl w1.heap.size w1).alloc (Nat.le_refl _) o1
    have HBA : Hid (Below w.heap.size w (w1.alloc o1)) := Lib.hid (hb1.trans (hal.mono hb1.size))
    have HT := Lib.hid (hn.own.txts.kept hal)
    have HM : Hid (RowAt (w1.alloc o1) w1.heap.size 26 #[.string s, .int .i64 n, .slice a L.length cap]) := Lib.hid (by rw [← ho1]; exact RowAt.new w1 _ _)
    clear hn hb1 hal hs hsz hsmx hn2 hn9 HZ1 HL1
    subst ho1
    have HOK : Hid (askB s n L b = askB s n L b) := Lib.hid rfl
    obtain ⟨bs, hbs⟩ : ∃ bs, bellsL s n L b = bs := ⟨_, rfl⟩
    obtain ⟨cp, hcp⟩ : ∃ cp, courseL s n L b = cp := ⟨_, rfl⟩
    obtain ⟨ok, hok⟩ : ∃ ok, askB s n L b = ok := ⟨_, rfl⟩
    rw [hbs] at HI HS hbl
    rw [hcp] at KI KS hcl
    rw [hok] at HI HS KI KS
    simp only [hbs, hcp, hok] at HFA
    clear HOK hbs hcp hok
    cases ok
    · skip
      go_wp2_with (first | (refine wpList_store_row rfl 26 _ _ rfl _ _ rfl rfl 26 _ (heap_alloc_new _ _) (by kernel_rfl) rfl (by kernel_rfl) ?_; rw [World.setRow_alloc_new]) | (refine wpList_load_row rfl 26 _ rfl _ rfl 26 _ _ _ ((HM.out)) Try.underlying26 rfl (by kernel_rfl) ?_) | fail)
      generalize w1.alloc (.cells #[.string s, .int .i64 n, .slice a L.length cap] 26) = A at *
      obtain ⟨mb, hmb⟩ : ∃ mb, w1.heap.size = mb := ⟨_, rfl⟩
      rw [hmb] at HM
      simp only [hmb]
      clear hmb
      refine (HI.out _ _ HT.out).mono ?_
      rintro e w2 ⟨v2, rfl, hn2, hb2⟩
      have HK2 := Lib.hid hb2
      have HH2 := Lib.hid hn2.own
      clear hn2 hb2 HI
      go_wp2_with (first | (refine wpList_load_row rfl 26 _ rfl _ rfl 26 _ _ _ ((HM.out.kept HK2.out)) Try.underlying26 rfl (by kernel_rfl) ?_) | fail)
      refine (HS.out _ _ (HT.out.kept HK2.out)).mono ?_
      rintro e w3 ⟨v3, rfl, hn3, hb3⟩
      have HK3 := Lib.hid (HK2.out.trans (hb3.mono HK2.out.size))
      have HH3 := Lib.hid (HH2.out.kept hb3)
      have HW3 := Lib.hid hn3.own
      clear hn3 hb3 HS HK2 HH2
      go_wp2_with (first | (refine wpList_load_row rfl 26 _ rfl _ rfl 26 _ _ _ ((HM.out.kept HK3.out)) Try.underlying26 rfl (by kernel_rfl) ?_) | fail)
      refine (KI.out _ _ (HT.out.kept HK3.out)).mono ?_
      rintro e w4 ⟨v4, rfl, hn4, hb4⟩
      have HK4 := Lib.hid (HK3.out.trans (hb4.mono HK3.out.size))
      have HH4 := Lib.hid (HH3.out.kept hb4)
      have HW4 := Lib.hid (HW3.out.kept hb4)
      have HS4 := Lib.hid hn4.own
      clear hn4 hb4 KI HK3 HH3 HW3
      go_wp2_with (first | (refine wpList_load_row rfl 26 _ rfl _ rfl 26 _ _ _ ((HM.out.kept HK4.out)) Try.underlying26 rfl (by kernel_rfl) ?_) | fail)
      refine (KS.out _ _ (HT.out.kept HK4.out)).mono ?_
      rintro e w5 ⟨v5, rfl, hn5, hb5⟩
      have HK5 := Lib.hid (HK4.out.trans (hb5.mono HK4.out.size))
      have HH5 := Lib.hid (HH4.out.kept hb5)
      have HW5 := Lib.hid (HW4.out.kept hb5)
      have HS5 := Lib.hid (HS4.out.kept hb5)
      have HT5 := Lib.hid hn5.own
      clear hn5 hb5 KS HK4 HH4 HW4 HS4
      go_wp2_with fail
      refine (sameInts_same _ _ (bs.map fun (k : Nat) => (k : Int)) _ HH5.out HW5.out (by rw [List.length_map]; omega)).mono ?_
      rintro e w6 ⟨rfl, d6, hd6⟩
      have hb6 : Below w5.heap.size w5 w6 := by rw [hd6]; exact below_drewN (Below.refl _ _) d6
      have HK6 := Lib.hid (HK5.out.trans (hb6.mono HK5.out.size))
      have HH6 := Lib.hid (HH5.out.kept hb6)
      have HS6 := Lib.hid (HS5.out.kept hb6)
      have HT6 := Lib.hid (HT5.out.kept hb6)
      clear hd6 hb6 HK5 HH5 HW5 HS5 HT5
      go_wp2_with fail
      refine (sameInts_same _ _ (cp.map fun (k : Nat) => (k : Int)) _ HS6.out HT6.out (by rw [List.length_map]; omega)).mono ?_
      rintro e w7 ⟨rfl, d7, hd7⟩
      have hb7 : Below w6.heap.size w6 w7 := by rw [hd7]; exact below_drewN (Below.refl _ _) d7
      have HK7 := Lib.hid (HK6.out.trans (hb7.mono HK6.out.size))
      have HH7 := Lib.hid (HH6.out.kept hb7)
      have HS7 := Lib.hid (HS6.out.kept hb7)
      clear hd7 hb7 HK6 HH6 HS6 HT6
      have HB := Lib.hid (HBA.out.trans (HK7.out.mono HBA.out.size))
      clear HM HT HK7 HBA HFA HPA
      try (go_wp2_with fail)
      refine (DrawDodgesIn_any a2 l2 c2 z2 _ (HZ2.out.belowW HB.out) HL2.out).mono ?_
      rintro e y1 ⟨qv, xs, rfl, qlen, qn, yb1⟩
      obtain ⟨P, Q, flag, hP, hQ, hPQ, di, ds, pi, ps⟩ := bothTurns xs qlen
      have DI := Lib.hid di
      have DS := Lib.hid ds
      have PI := Lib.hid pi
      have PS := Lib.hid ps
      have HPQ := Lib.hid hPQ
      have QV := Lib.hid qn.own
      have YB1 := Lib.hid (HB.out.trans (yb1.mono HB.out.size))
      unfold IntsAny at DI DS PI PS
      clear qn yb1 di ds pi ps hPQ HB
      go_wp2_with fail
      refine (DI.out _ _ QV.out).mono ?_
      rintro e y2 ⟨u2, rfl, un2, yb2⟩
      have YB2 := Lib.hid (YB1.out.trans (yb2.mono YB1.out.size))
      have Q2 := Lib.hid (QV.out.kept yb2)
      have D2 := Lib.hid un2.own
      clear un2 yb2 QV YB1
      go_wp2_with fail
      refine (DS.out _ _ Q2.out).mono ?_
      rintro e y3 ⟨u3, rfl, un3, yb3⟩
      have YB3 := Lib.hid (YB2.out.trans (yb3.mono YB2.out.size))
      have Q3 := Lib.hid (Q2.out.kept yb3)
      have D3 := Lib.hid (D2.out.kept yb3)
      have E3 := Lib.hid un3.own
      clear un3 yb3 Q2 D2 YB2
      go_wp2_with fail
      refine (PI.out _ _ Q3.out).mono ?_
      rintro e y4 ⟨u4, rfl, un4, yb4⟩
      have YB4 := Lib.hid (YB3.out.trans (yb4.mono YB3.out.size))
      have Q4 := Lib.hid (Q3.out.kept yb4)
      have D4 := Lib.hid (D3.out.kept yb4)
      have E4 := Lib.hid (E3.out.kept yb4)
      have F4 := Lib.hid un4.own
      clear un4 yb4 Q3 D3 E3 YB3
      go_wp2_with fail
      refine (PS.out _ _ Q4.out).mono ?_
      rintro e y5 ⟨u5, rfl, un5, yb5⟩
      have YB5 := Lib.hid (YB4.out.trans (yb5.mono YB4.out.size))
      have D5 := Lib.hid (D4.out.kept yb5)
      have E5 := Lib.hid (E4.out.kept yb5)
      have F5 := Lib.hid (F4.out.kept yb5)
      have G5 := Lib.hid un5.own
      clear un5 yb5 Q4 D4 E4 F4 YB4 DI DS PI PS
      cases flag
      all_goals
        go_wp2_with fail
        refine (sameInts_same _ _ P _ D5.out E5.out (by omega)).mono ?_
        rintro e y6 ⟨rfl, d6, hd6⟩
        have yb6 : Below y5.heap.size y5 y6 := by rw [hd6]; exact below_drewN (Below.refl _ _) d6
        have YB6 := Lib.hid (YB5.out.trans (yb6.mono YB5.out.size))
        have D6 := Lib.hid (D5.out.kept yb6)
        have F6 := Lib.hid (F5.out.kept yb6)
        have G6 := Lib.hid (G5.out.kept yb6)
        clear hd6 yb6 D5 E5 F5 G5 YB5
        go_wp2_with fail
        refine (sameInts_same _ _ Q _ F6.out G6.out (by omega)).mono ?_
        rintro e y7 ⟨rfl, d7, hd7⟩
        have yb7 : Below y6.heap.size y6 y7 := by rw [hd7]; exact below_drewN (Below.refl _ _) d7
        have YB7 := Lib.hid (YB6.out.trans (yb7.mono YB6.out.size))
        have D7 := Lib.hid (D6.out.kept yb7)
        have F7 := Lib.hid (F6.out.kept yb7)
        clear hd7 yb7 D6 F6 G6 YB6
        go_wp2_with fail
        refine (within_yes _ _ P Q _ D7.out F7.out (by omega) (by omega) HPQ.out).mono ?_
        rintro e y8 ⟨rfl, rfl⟩
        go_wp2
        go_ret
        exact ⟨rfl, YB7.out⟩
    · skip
      obtain ⟨o, hbel, hlead⟩ := HFA.out rfl
      have HLD := Lib.hid hlead
      have HBE := Lib.hid hbel
      clear hlead hbel HFA
      go_wp2_with (first | (refine wpList_store_row rfl 26 _ _ rfl _ _ rfl rfl 26 _ (heap_alloc_new _ _) (by kernel_rfl) rfl (by kernel_rfl) ?_; rw [World.setRow_alloc_new]) | (refine wpList_load_row rfl 26 _ rfl _ rfl 26 _ _ _ ((HM.out)) Try.underlying26 rfl (by kernel_rfl) ?_) | fail)
      generalize w1.alloc (.cells #[.string s, .int .i64 n, .slice a L.length cap] 26) = A at *
      obtain ⟨mb, hmb⟩ : ∃ mb, w1.heap.size = mb := ⟨_, rfl⟩
      rw [hmb] at HM
      simp only [hmb]
      clear hmb
      refine (HI.out _ _ HT.out).mono ?_
      rintro e w2 ⟨v2, rfl, hn2, hb2⟩
      have HK2 := Lib.hid hb2
      have HH2 := Lib.hid hn2.own
      clear hn2 hb2 HI
      go_wp2_with (first | (refine wpList_load_row rfl 26 _ rfl _ rfl 26 _ _ _ ((HM.out.kept HK2.out)) Try.underlying26 rfl (by kernel_rfl) ?_) | fail)
      refine (HS.out _ _ (HT.out.kept HK2.out)).mono ?_
      rintro e w3 ⟨v3, rfl, hn3, hb3⟩
      have HK3 := Lib.hid (HK2.out.trans (hb3.mono HK2.out.size))
      have HH3 := Lib.hid (HH2.out.kept hb3)
      have HW3 := Lib.hid hn3.own
      clear hn3 hb3 HS HK2 HH2
      go_wp2_with (first | (refine wpList_load_row rfl 26 _ rfl _ rfl 26 _ _ _ ((HM.out.kept HK3.out)) Try.underlying26 rfl (by kernel_rfl) ?_) | fail)
      refine (KI.out _ _ (HT.out.kept HK3.out)).mono ?_
      rintro e w4 ⟨v4, rfl, hn4, hb4⟩
      have HK4 := Lib.hid (HK3.out.trans (hb4.mono HK3.out.size))
      have HH4 := Lib.hid (HH3.out.kept hb4)
      have HW4 := Lib.hid (HW3.out.kept hb4)
      have HS4 := Lib.hid hn4.own
      clear hn4 hb4 KI HK3 HH3 HW3
      go_wp2_with (first | (refine wpList_load_row rfl 26 _ rfl _ rfl 26 _ _ _ ((HM.out.kept HK4.out)) Try.underlying26 rfl (by kernel_rfl) ?_) | fail)
      refine (KS.out _ _ (HT.out.kept HK4.out)).mono ?_
      rintro e w5 ⟨v5, rfl, hn5, hb5⟩
      have HK5 := Lib.hid (HK4.out.trans (hb5.mono HK4.out.size))
      have HH5 := Lib.hid (HH4.out.kept hb5)
      have HW5 := Lib.hid (HW4.out.kept hb5)
      have HS5 := Lib.hid (HS4.out.kept hb5)
      have HT5 := Lib.hid hn5.own
      clear hn5 hb5 KS HK4 HH4 HW4 HS4
      go_wp2_with fail
      refine (sameInts_same _ _ (bs.map fun (k : Nat) => (k : Int)) _ HH5.out HW5.out (by rw [List.length_map]; omega)).mono ?_
      rintro e w6 ⟨rfl, d6, hd6⟩
      have hb6 : Below w5.heap.size w5 w6 := by rw [hd6]; exact below_drewN (Below.refl _ _) d6
      have HK6 := Lib.hid (HK5.out.trans (hb6.mono HK5.out.size))
      have HH6 := Lib.hid (HH5.out.kept hb6)
      have HS6 := Lib.hid (HS5.out.kept hb6)
      have HT6 := Lib.hid (HT5.out.kept hb6)
      clear hd6 hb6 HK5 HH5 HW5 HS5 HT5
      go_wp2_with fail
      refine (sameInts_same _ _ (cp.map fun (k : Nat) => (k : Int)) _ HS6.out HT6.out (by rw [List.length_map]; omega)).mono ?_
      rintro e w7 ⟨rfl, d7, hd7⟩
      have hb7 : Below w6.heap.size w6 w7 := by rw [hd7]; exact below_drewN (Below.refl _ _) d7
      have HK7 := Lib.hid (HK6.out.trans (hb7.mono HK6.out.size))
      have HH7 := Lib.hid (HH6.out.kept hb7)
      have HS7 := Lib.hid (HS6.out.kept hb7)
      clear hd7 hb7 HK6 HH6 HS6 HT6
      go_wp2_with (first | (refine wpList_load_row rfl 26 _ rfl _ rfl 26 _ _ _ ((HM.out.kept HK7.out)) Try.underlying26 rfl (by kernel_rfl) ?_) | fail)
      refine (HLD.out _ _ (HT.out.kept HK7.out)).mono ?_
      rintro e w8 ⟨rfl, hb8⟩
      have HK8 := Lib.hid (HK7.out.trans (hb8.mono HK7.out.size))
      have HH8 := Lib.hid (HH7.out.kept hb8)
      have HS8 := Lib.hid (HS7.out.kept hb8)
      clear hb8 HLD HK7 HH7 HS7
      obtain ⟨lb, hlb⟩ : ∃ lb, bs.length = lb := ⟨_, rfl⟩
      obtain ⟨c, hc⟩ : ∃ c, L.length = c := ⟨_, rfl⟩
      obtain ⟨pl, hpl⟩ : ∃ pl, cp.length = pl := ⟨_, rfl⟩
      have HLB := Lib.hid hlb
      have HCL := Lib.hid hc
      have q1 := HBE.out.one
      have q8 := HBE.out.eight
      have qc1 := HBE.out.c1
      have qc40 := HBE.out.c40
      have qf := HBE.out.first
      have qw := HBE.out.whole
      have qp := HBE.out.cplen
      rw [hlb] at q1 q8 qw qp
      rw [hc] at qc1 qc40 qp
      rw [hpl] at qp
      obtain ⟨al, kl, hv2, hal⟩ := HH8.out.view
      rw [nums_len, hlb] at hv2 hal
      obtain ⟨gl, rfl⟩ := hal (by omega)
      subst hv2
      obtain ⟨ap, kp, hv4, -⟩ := HS8.out.view
      rw [nums_len, hpl] at hv4
      subst hv4
      have HCB : Hid (∀ W i, i < lb → Own W 3 (.slice (some ⟨gl, 0, none⟩) lb kl) (nums bs) → W.cell? ⟨gl, i, none⟩ = some (.int .i64 (bs.getD i 0 : Nat))) := Lib.hid (fun W i hi h => h.cell i _ (by simp [nums, ints, List.getD_eq_getElem?_getD, show i < bs.length by omega]))
      have k0 := HCB.out _ 0 (by omega) HH8.out
      rw [qf] at k0
      have k2 := (HM.out.kept HK8.out).cell 2 rfl
      rw [hc] at k2
      have m1 : ((lb : Int) == 0) = false := by rw [beq_eq_false_iff_ne]; omega
      have m2 : (o : Int) % (lb : Int) = 0 := by rw [← Int.natCast_emod, qw]; rfl
      have m5 : lb * c ≤ 320 := Nat.mul_le_mul q8 qc40
      have m6 : (pl : Int) = (lb : Int) * (c : Int) := by rw [qp]; simp
      have m3 : (pl : Int) ≤ 320 := by omega
      have m4 : IntKind.i64.wrap ((lb : Int) * (c : Int)) = (pl : Int) := by rw [← m6]; exact Go.IntWalk.i64_in _ ⟨by omega, by omega⟩
      have ob := HBE.out.le
      clear hlb hc hpl m5 m6 hal
      go_wp2
      clear k0 k2 m1 m2 m3 m4
      go_loopg [127] lb (fun q x wr => ∃ j : Nat, q + j = lb ∧ x = .int .i64 j ∧ Below w8.heap.size w8 wr)
      case atStart => exact ⟨0, by omega, rfl, Below.refl _ _⟩
      case round =>
        obtain ⟨j, hq, rfl, hbj⟩ := hrel
        have HBJ := Lib.hid hbj
        have HKJ := Lib.hid (HK8.out.trans (hbj.mono HK8.out.size))
        clear hbj
        by_cases hlt : j < lb
        · have hji : (j : Int) < lb := by omega
          have hjb : j < bs.length := by rw [HLB.out]; exact hlt
          have kx := HCB.out wr j hlt (HH8.out.kept HBJ.out)
          have HMJ := Lib.hid (HM.out.kept HKJ.out)
          have hask := HBE.out.ask j hjb
          have hpl := HBE.out.plen j hjb
          have hpf := HBE.out.pfirst j hjb
          have hpe := HBE.out.plast j hjb
          have HPX := Lib.hid (fun u w h => HPA.out (bs.getD j 0 : Nat) u w h)
          rw [hask] at HPX
          rw [HCL.out] at hpl hpe
          rw [HLB.out] at hpe
          obtain ⟨nx, hnx⟩ : ∃ nx, (j + 1) % lb = nx := ⟨_, rfl⟩
          have hnl : nx < lb := by rw [← hnx]; exact Nat.mod_lt _ (by omega)
          have hnli : (nx : Int) < lb := by omega
          have hmod : ((j : Int) + 1) % (lb : Int) = (nx : Int) := by rw [← hnx]; simp
          rw [hnx] at hpe
          obtain ⟨xn, hxn⟩ : ∃ xn, bs.getD nx 0 = xn := ⟨_, rfl⟩
          have HXN := Lib.hid hxn
          rw [hxn] at hpe
          clear hask hxn hnx
          obtain ⟨xs, hxs⟩ : ∃ xs, pathL s n L (bs.getD j 0 : Nat) = xs := ⟨_, rfl⟩
          rw [hxs] at hpl hpf hpe HPX
          generalize bs.getD j 0 = x0 at *
          clear hxs
          have HPF := Lib.hid hpf
          have HPE := Lib.hid hpe
          have HPN := Lib.hid hpl
          have hcw : IntKind.i64.wrap ((c : Int) + 1 - 1) = (c : Int) := by rw [Int.add_sub_cancel]; exact Go.IntWalk.i64_in _ ⟨by omega, by omega⟩
          clear hpl hpf hpe
          go_wp2_with (first | (refine wpList_load_row rfl 26 _ rfl _ rfl 26 _ _ _ (HMJ.out) Try.underlying26 rfl (by kernel_rfl) ?_) | fail)
          refine (HPX.out _ _ (HT.out.kept HKJ.out)).mono ?_
          rintro e w9 ⟨v9, rfl, hn9, hb9⟩
          have HB9 := Lib.hid (HBJ.out.trans (hb9.mono HBJ.out.size))
          have HM9 := Lib.hid (HMJ.out.kept hb9)
          have ky := HCB.out w9 nx hnl (HH8.out.kept HB9.out)
          rw [HXN.out] at ky
          have k2 := HM9.out.cell 2 rfl
          rw [HCL.out] at k2
          obtain ⟨a9, c9, hv9, ha9⟩ := hn9.own.view
          rw [nums_len, HPN.out] at hv9 ha9
          obtain ⟨gy, rfl⟩ := ha9 (by omega)
          subst hv9
          have y0 : w9.cell? ⟨gy, 0, none⟩ = some (.int .i64 (x0 : Nat)) := by
            rw [← HPF.out]
            exact hn9.own.cell 0 _ (by have := HPN.out; simp [nums, ints, List.getD_eq_getElem?_getD, show 0 < xs.length by omega])
          have yl : w9.cell? ⟨gy, c, none⟩ = some (.int .i64 (xn : Nat)) := by
            rw [← HPE.out]
            exact hn9.own.cell c _ (by have := HPN.out; simp [nums, ints, List.getD_eq_getElem?_getD, show c < xs.length by omega])
          clear hn9 hb9 ha9 kx HBJ HKJ HMJ HPX
          obtain ⟨ly, hly⟩ : ∃ ly : Nat, c + 1 = ly := ⟨_, rfl⟩
          rw [hly]
          have g1 : IntKind.i64.wrap ((c : Int) + 1) = (ly : Int) := by rw [← hly]; exact Go.IntWalk.i64_in _ ⟨by omega, by omega⟩
          have g2 : IntKind.i64.wrap ((ly : Int) - 1) = (c : Int) := by rw [← hly]; exact hcw
          have g3 : IntKind.i64.wrap ((j : Int) + 1) = (j : Int) + 1 := Go.IntWalk.i64_in _ ⟨by omega, by omega⟩
          have g4 : Int.tmod ((j : Int) + 1) (lb : Int) = (nx : Int) := by rw [Int.tmod_eq_emod_of_nonneg (by omega)]; exact hmod
          have g5 : IntKind.i64.wrap (nx : Int) = (nx : Int) := Go.IntWalk.i64_in _ ⟨by omega, by omega⟩
          have h1 : ((ly : Int) != (ly : Int)) = false := by simp
          have h2 : ((x0 : Int) != (x0 : Int)) = false := by simp
          have h3 : ((xn : Int) != (xn : Int)) = false := by simp
          have i1 : (0 : Int) ≤ (c : Int) := by omega
          have i2 : (c : Int) < (ly : Int) := by omega
          have i3 : (0 : Int) ≤ (nx : Int) := by omega
          have i4 : (0 : Int) < (ly : Int) := by omega
          have i5 : (0 : Int) ≤ (0 : Int) := by omega
          have i6 : ((lb : Int) == 0) = false := by rw [beq_eq_false_iff_ne]; omega
          have i7 : ¬ ((lb : Int) = 0) := by omega
          clear hly hcw hmod
          go_wp2
          go_quiet (fail)
          go_wp2
          go_roundg (lb - (j + 1))
          case measure => omega
          case rel => exact ⟨j + 1, by omega, by go_num, below_drewN HB9.out _⟩
        · obtain rfl : j = lb := by omega
          have HB := Lib.hid (HBA.out.trans (HKJ.out.mono HBA.out.size))
          clear HM HT HKJ HK8 HBA HPA HCB HH8 HS8 HBJ HBE
          try (go_wp2_with fail)
          refine (DrawDodgesIn_any a2 l2 c2 z2 _ (HZ2.out.belowW HB.out) HL2.out).mono ?_
          rintro e y1 ⟨qv, xs, rfl, qlen, qn, yb1⟩
          obtain ⟨P, Q, flag, hP, hQ, hPQ, di, ds, pi, ps⟩ := bothTurns xs qlen
          have DI := Lib.hid di
          have DS := Lib.hid ds
          have PI := Lib.hid pi
          have PS := Lib.hid ps
          have HPQ := Lib.hid hPQ
          have QV := Lib.hid qn.own
          have YB1 := Lib.hid (HB.out.trans (yb1.mono HB.out.size))
          unfold IntsAny at DI DS PI PS
          clear qn yb1 di ds pi ps hPQ HB
          go_wp2_with fail
          refine (DI.out _ _ QV.out).mono ?_
          rintro e y2 ⟨u2, rfl, un2, yb2⟩
          have YB2 := Lib.hid (YB1.out.trans (yb2.mono YB1.out.size))
          have Q2 := Lib.hid (QV.out.kept yb2)
          have D2 := Lib.hid un2.own
          clear un2 yb2 QV YB1
          go_wp2_with fail
          refine (DS.out _ _ Q2.out).mono ?_
          rintro e y3 ⟨u3, rfl, un3, yb3⟩
          have YB3 := Lib.hid (YB2.out.trans (yb3.mono YB2.out.size))
          have Q3 := Lib.hid (Q2.out.kept yb3)
          have D3 := Lib.hid (D2.out.kept yb3)
          have E3 := Lib.hid un3.own
          clear un3 yb3 Q2 D2 YB2
          go_wp2_with fail
          refine (PI.out _ _ Q3.out).mono ?_
          rintro e y4 ⟨u4, rfl, un4, yb4⟩
          have YB4 := Lib.hid (YB3.out.trans (yb4.mono YB3.out.size))
          have Q4 := Lib.hid (Q3.out.kept yb4)
          have D4 := Lib.hid (D3.out.kept yb4)
          have E4 := Lib.hid (E3.out.kept yb4)
          have F4 := Lib.hid un4.own
          clear un4 yb4 Q3 D3 E3 YB3
          go_wp2_with fail
          refine (PS.out _ _ Q4.out).mono ?_
          rintro e y5 ⟨u5, rfl, un5, yb5⟩
          have YB5 := Lib.hid (YB4.out.trans (yb5.mono YB4.out.size))
          have D5 := Lib.hid (D4.out.kept yb5)
          have E5 := Lib.hid (E4.out.kept yb5)
          have F5 := Lib.hid (F4.out.kept yb5)
          have G5 := Lib.hid un5.own
          clear un5 yb5 Q4 D4 E4 F4 YB4 DI DS PI PS
          cases flag
          all_goals
            go_wp2_with fail
            refine (sameInts_same _ _ P _ D5.out E5.out (by omega)).mono ?_
            rintro e y6 ⟨rfl, d6, hd6⟩
            have yb6 : Below y5.heap.size y5 y6 := by rw [hd6]; exact below_drewN (Below.refl _ _) d6
            have YB6 := Lib.hid (YB5.out.trans (yb6.mono YB5.out.size))
            have D6 := Lib.hid (D5.out.kept yb6)
            have F6 := Lib.hid (F5.out.kept yb6)
            have G6 := Lib.hid (G5.out.kept yb6)
            clear hd6 yb6 D5 E5 F5 G5 YB5
            go_wp2_with fail
            refine (sameInts_same _ _ Q _ F6.out G6.out (by omega)).mono ?_
            rintro e y7 ⟨rfl, d7, hd7⟩
            have yb7 : Below y6.heap.size y6 y7 := by rw [hd7]; exact below_drewN (Below.refl _ _) d7
            have YB7 := Lib.hid (YB6.out.trans (yb7.mono YB6.out.size))
            have D7 := Lib.hid (D6.out.kept yb7)
            have F7 := Lib.hid (F6.out.kept yb7)
            clear hd7 yb7 D6 F6 G6 YB6
            go_wp2_with fail
            refine (within_yes _ _ P Q _ D7.out F7.out (by omega) (by omega) HPQ.out).mono ?_
            rintro e y8 ⟨rfl, rfl⟩
            go_wp2
            go_ret
            exact ⟨rfl, YB7.out⟩
end Go.Proofs.Ytpfnamiacagocaa
