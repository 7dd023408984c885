/- The law FnPaths. -/
import Derived.Test.YtpfnamiacagocaaG15
namespace Go.Proofs.Ytpfnamiacagocaa
open Go.RowKit
set_option linter.unusedSimpArgs false
set_option linter.unusedVariables false

/-- an operation whose guard lets it run is walked as if it had none -/
theorem wpList_unguard {P : Program} {ops : Array Oper} {Q : Exit → Act → World → Prop} {a : Act} {w : World} {rest : List Oper} {o : Oper} (hw : Region.wanted o (yielded ops a.tmps) = true)
    (h : wpList P ops Q ({o with guard := none} :: rest) a w) : wpList P ops Q (o :: rest) a w := by
  unfold wpList at h ⊢
  rw [if_pos hw]
  rw [if_pos (show Region.wanted {o with guard := none} (yielded ops a.tmps) = true by simp [Region.wanted])] at h
  exact h
theorem strs_snoc1 (P : List (List Nat)) (h : List Nat) : strs P ++ [.string (txt h)] = strs (P ++ [h]) := by simp [strs]
theorem small10p {L : List (List Nat)} (h : ∀ l ∈ L, l.length ≤ 10) : Small L := fun l hl => by
  have := h l hl
  unfold maxLen
  omega
set_option maxRecDepth 100000 in
set_option maxHeartbeats 16000000 in
theorem lawPaths2 (a1 : Option Addr) (l1 c1 : Nat) (z1 : List Int) (a2 : Option Addr) (l2 c2 : Nat) (z2 : List Int) (w : World) (hz1 : IsBytes w a1 l1 c1 z1) (hz2 : IsBytes w a2 l2 c2 z2) :
    Calls Try.prog 3 #[.slice a1 l1 c1, .slice a2 l2 c2] w fun e w' => e = .returned (.bool true) ∧ Below w.heap.size w w' := by
  have HZ1 := Lib.hid hz1
  have HZ2 := Lib.hid hz2
  clear hz1 hz2
  go_enter Try.func3, Try.ntmps3
  go_wp2_with fail
  refine (big_any a1 a2 l1 l2 c1 c2 HZ1.out.lenW HZ2.out.lenW _).mono ?_
  rintro e w0 ⟨rfl, rfl⟩
  by_cases hbig : 1048576 < l1 + l2
  · rw [decide_eq_true hbig]
    go_wp2
    go_ret
    exact ⟨rfl, Below.refl _ _⟩
  · rw [decide_eq_false hbig]
    have HL1 := Lib.hid (show l1 ≤ 1048576 by omega)
    have HL2 := Lib.hid (show l2 ≤ 1048576 by omega)
    clear hbig
    go_wp2_with fail
    refine (DrawPathsOf_any a1 l1 c1 z1 _ HZ1.out HL1.out).mono ?_
    rintro e w1 ⟨s, n, v, L, rfl, hsz, hn2, hn9, hn, hL, hs, hb1⟩
    have hsmx : s.size ≤ maxLen := by unfold maxLen; omega
    have HI := Lib.hid (fun u w h => iPathsOf_any s hsmx n u L w h (by omega))
    have HS := Lib.hid (fun u w h => sPathsOf_any s hsmx n u L w h (by omega) (small10p hs))
    have HFA := Lib.hid (fun h => pathFacts s hsmx n L (by omega) h)
    have HPA := Lib.hid (fun x u w h => iPathOf_any s hsmx n u L x w h (by omega))
    have HWA := Lib.hid (fun x u w h => iWorkText_any s hsmx n u L x w h (by omega))
    have HLA := Lib.hid (fun r hr u w h => iLeadRows_any s hsmx n u L r hr w h (by omega))
    have HCT := Lib.hid (fun h => pathsC_three s n L h)
    have HC0 : Hid (goodM s n L = true → pathsC s n L = n.toNat) := Lib.hid (fun h => by unfold pathsC; rw [if_pos h])
    have HFL := Lib.hid (pathsF_len s n L)
    have hc8 : pathsC s n L ≤ 8 := by
      by_cases h : 0 < pathsC s n L
      · exact (HCT.out h).2.1
      · omega
    unfold ListsR at HI HS
    unfold NumsAny at HPA
    obtain ⟨a, cap, hv, -⟩ := hn.own.view
    rw [strs_len] at hv
    subst hv
    obtain ⟨o1, ho1⟩ : ∃ o1, Obj.cells #[.string s, .int .i64 n, .slice a L.length cap] 26 = o1 := ⟨_, rfl⟩
    have hal := (Below.refl w1.heap.size w1).alloc (Nat.le_refl _) o1
    have HBA : Hid (Below w.heap.size w (w1.alloc o1)) := Lib.hid (hb1.trans (hal.mono hb1.size))
    have HT := Lib.hid (hn.own.txts.kept hal)
    have HM : Hid (RowAt (w1.alloc o1) w1.heap.size 26 #[.string s, .int .i64 n, .slice a L.length cap]) := Lib.hid (by rw [← ho1]; exact RowAt.new w1 _ _)
    have HLL := Lib.hid hL
    clear hn hb1 hal hs hsz hsmx hn2 hn9 HZ1 HL1 hL
    subst ho1
    obtain ⟨ok, hok⟩ : ∃ ok, goodM s n L = ok := ⟨_, rfl⟩
    rw [hok] at HI HS
    simp only [hok] at HFA HC0
    clear hok
    obtain ⟨p, hp⟩ : ∃ p, pathsC s n L = p := ⟨_, rfl⟩
    rw [hp] at HI HS hc8
    simp only [hp] at HC0
    clear hp HCT
    cases ok
    · skip
      go_wp2_with (first | (refine wpList_store_row rfl 26 _ _ rfl _ _ rfl rfl 26 _ (heap_alloc_new _ _) (by kernel_rfl) rfl (by kernel_rfl) ?_; rw [World.setRow_alloc_new]) | (refine wpList_load_row rfl 26 _ rfl _ rfl 26 _ _ _ ((HM.out)) Try.underlying26 rfl (by kernel_rfl) ?_) | fail)
      generalize w1.alloc (.cells #[.string s, .int .i64 n, .slice a L.length cap] 26) = A at *
      obtain ⟨mb, hmb⟩ : ∃ mb, w1.heap.size = mb := ⟨_, rfl⟩
      rw [hmb] at HM
      simp only [hmb]
      clear hmb
      refine (HI.out _ _ HT.out).mono ?_
      rintro e w2 ⟨v2, vs2, rfl, hn2, hb2⟩
      have HK2 := Lib.hid hb2
      have HH2 := Lib.hid hn2
      clear hn2 hb2 HI
      go_wp2_with (first | (refine wpList_load_row rfl 26 _ rfl _ rfl 26 _ _ _ ((HM.out.kept HK2.out)) Try.underlying26 rfl (by kernel_rfl) ?_) | fail)
      refine (HS.out _ _ (HT.out.kept HK2.out)).mono ?_
      rintro e w3 ⟨v3, vs3, rfl, hn3, hb3⟩
      have HK3 := Lib.hid (HK2.out.trans (hb3.mono HK2.out.size))
      have HH3 := Lib.hid (HH2.out.kept hb3)
      have HW3 := Lib.hid hn3
      clear hn3 hb3 HS HK2 HH2
      go_wp2_with fail
      refine (sameLists_same _ _ _ _ vs2 vs3 p (pathsF s n L) _ HH3.out HW3.out (by omega) (fun i _ => by have := HFL.out i; have := HLL.out; omega)).mono ?_
      rintro e w4 ⟨rfl, d4, hd4⟩
      have hb4 : Below w3.heap.size w3 w4 := by rw [hd4]; exact below_drewN (Below.refl _ _) d4
      have HK4 := Lib.hid (HK3.out.trans (hb4.mono HK3.out.size))
      have HH4 := Lib.hid (HH3.out.kept hb4)
      clear hd4 hb4 HK3 HH3 HW3
      have HB := Lib.hid (HBA.out.trans (HK4.out.mono HBA.out.size))
      clear HM HT HK4 HBA HFA HPA HWA HLA HC0 HFL HLL HH4
      try (go_wp2_with fail)
      refine (DrawRowsOf_any a2 l2 c2 z2 _ (HZ2.out.belowW HB.out) HL2.out).mono ?_
      rintro e y1 ⟨qv, F, rfl, qn, ql, qm, yb1⟩
      obtain ⟨P, flag, hP, ri, rs⟩ := bothRowsOf F (by omega) (fun k => by have := qm k; omega)
      have RI := Lib.hid ri
      have RS := Lib.hid rs
      have QV := Lib.hid qn
      have YB1 := Lib.hid (HB.out.trans (yb1.mono HB.out.size))
      unfold TextsAny at RI RS
      clear qn yb1 ri rs HB
      go_wp2_with fail
      refine (RI.out _ _ QV.out).mono ?_
      rintro e y2 ⟨u2, rfl, un2, yb2⟩
      have YB2 := Lib.hid (YB1.out.trans (yb2.mono YB1.out.size))
      have Q2 := Lib.hid (QV.out.kept yb2)
      have D2 := Lib.hid un2.own
      clear un2 yb2 QV YB1
      go_wp2_with fail
      refine (RS.out _ _ Q2.out).mono ?_
      rintro e y3 ⟨u3, rfl, un3, yb3⟩
      have YB3 := Lib.hid (YB2.out.trans (yb3.mono YB2.out.size))
      have D3 := Lib.hid (D2.out.kept yb3)
      have E3 := Lib.hid un3.own
      clear un3 yb3 Q2 D2 YB2
      go_wp2_with fail
      refine (DrawPathOf_any a2 l2 c2 z2 _ (HZ2.out.belowW YB3.out) HL2.out).mono ?_
      rintro e y4 ⟨ds, dn, dv, D, db, rfl, dsz, -, -, dnw, dL, dsm, yb4⟩
      obtain ⟨da, dc, hdv, -⟩ := dnw.own.view
      rw [strs_len] at hdv
      subst hdv
      have hdsx : ds.size ≤ maxLen := by unfold maxLen; omega
      obtain ⟨R, pflag, hR, pi, ps⟩ := bothPathOf ds hdsx dn D (by omega) (small10p dsm) db
      have PI := Lib.hid pi
      have PS := Lib.hid ps
      have WI := Lib.hid (fun u w h => iWorkText_any ds hdsx dn u D db w h (by omega))
      have WS := Lib.hid (fun u w h => sWorkText_any ds hdsx dn u D db w h (by omega) (small10p dsm))
      unfold IntsAny at PI PS
      generalize workS ds dn D db = wt at *
      generalize askB ds dn D db = wf at *
      obtain ⟨o1, ho1⟩ : ∃ o1, Obj.cells #[.string ds, .int .i64 dn, .slice da D.length dc] 26 = o1 := ⟨_, rfl⟩
      have hal := (Below.refl y4.heap.size y4).alloc (Nat.le_refl _) o1
      have hba := yb4.trans (hal.mono yb4.size)
      have YB4 := Lib.hid (YB3.out.trans (hba.mono YB3.out.size))
      have D4 := Lib.hid (D3.out.kept hba)
      have E4 := Lib.hid (E3.out.kept hba)
      have DT := Lib.hid (dnw.own.txts.kept hal)
      have DM : Hid (RowAt (y4.alloc o1) y4.heap.size 26 #[.string ds, .int .i64 dn, .slice da D.length dc]) := Lib.hid (by rw [← ho1]; exact RowAt.new y4 _ _)
      clear dnw yb4 hal hba dsm pi ps YB3 D3 E3
      subst ho1
      go_wp2_with (first | (refine wpList_store_row rfl 26 _ _ rfl _ _ rfl rfl 26 _ (heap_alloc_new _ _) (by kernel_rfl) rfl (by kernel_rfl) ?_; rw [World.setRow_alloc_new]) | (refine wpList_load_row rfl 26 _ rfl _ rfl 26 _ _ _ ((DM.out)) Try.underlying26 rfl (by kernel_rfl) ?_) | fail)
      generalize y4.alloc (.cells #[.string ds, .int .i64 dn, .slice da D.length dc] 26) = Y at *
      refine (PI.out _ _ DT.out).mono ?_
      rintro e y5 ⟨u5, rfl, un5, yb5⟩
      have YK5 := Lib.hid yb5
      have YB5 := Lib.hid (YB4.out.trans (yb5.mono YB4.out.size))
      have D5 := Lib.hid (D4.out.kept yb5)
      have E5 := Lib.hid (E4.out.kept yb5)
      have F5 := Lib.hid un5.own
      clear un5 yb5 D4 E4 YB4 PI
      go_wp2_with (first | (refine wpList_load_row rfl 26 _ rfl _ rfl 26 _ _ _ ((DM.out.kept YK5.out)) Try.underlying26 rfl (by kernel_rfl) ?_) | fail)
      refine (PS.out _ _ (DT.out.kept YK5.out)).mono ?_
      rintro e y6 ⟨u6, rfl, un6, yb6⟩
      have YK6 := Lib.hid (YK5.out.trans (yb6.mono YK5.out.size))
      have YB6 := Lib.hid (YB5.out.trans (yb6.mono YB5.out.size))
      have D6 := Lib.hid (D5.out.kept yb6)
      have E6 := Lib.hid (E5.out.kept yb6)
      have F6 := Lib.hid (F5.out.kept yb6)
      have G6 := Lib.hid un6.own
      clear un6 yb6 D5 E5 F5 YB5 YK5 PS
      go_wp2_with (first | (refine wpList_load_row rfl 26 _ rfl _ rfl 26 _ _ _ ((DM.out.kept YK6.out)) Try.underlying26 rfl (by kernel_rfl) ?_) | fail)
      refine (WI.out _ _ (DT.out.kept YK6.out)).mono ?_
      rintro e y7 ⟨rfl, yb7⟩
      have YK7 := Lib.hid (YK6.out.trans (yb7.mono YK6.out.size))
      have YB7 := Lib.hid (YB6.out.trans (yb7.mono YB6.out.size))
      have D7 := Lib.hid (D6.out.kept yb7)
      have E7 := Lib.hid (E6.out.kept yb7)
      have F7 := Lib.hid (F6.out.kept yb7)
      have G7 := Lib.hid (G6.out.kept yb7)
      clear yb7 D6 E6 F6 G6 YB6 YK6 WI
      go_wp2_with (first | (refine wpList_load_row rfl 26 _ rfl _ rfl 26 _ _ _ ((DM.out.kept YK7.out)) Try.underlying26 rfl (by kernel_rfl) ?_) | fail)
      refine (WS.out _ _ (DT.out.kept YK7.out)).mono ?_
      rintro e y8 ⟨rfl, yb8⟩
      have YB8 := Lib.hid (YB7.out.trans (yb8.mono YB7.out.size))
      have D8 := Lib.hid (D7.out.kept yb8)
      have E8 := Lib.hid (E7.out.kept yb8)
      have F8 := Lib.hid (F7.out.kept yb8)
      have G8 := Lib.hid (G7.out.kept yb8)
      have htx : (wt.toList == wt.toList) = true := by simp
      clear yb8 D7 E7 F7 G7 YB7 YK7 WS DT DM
      have t1 : (flag == flag) = true := by simp
      have t2 : (pflag == pflag) = true := by simp
      have t3 : (wf == wf) = true := by simp
      go_wp2_with fail
      refine (sameTexts_same _ _ P _ D8.out E8.out (by omega)).mono ?_
      rintro e y9 ⟨rfl, d9, hd9⟩
      have yb9 : Below y8.heap.size y8 y9 := by rw [hd9]; exact below_drewN (Below.refl _ _) d9
      have YB9 := Lib.hid (YB8.out.trans (yb9.mono YB8.out.size))
      have F9 := Lib.hid (F8.out.kept yb9)
      have G9 := Lib.hid (G8.out.kept yb9)
      clear hd9 yb9 D8 E8 F8 G8 YB8
      go_wp2_with fail
      refine (sameInts_same _ _ R _ F9.out G9.out (by omega)).mono ?_
      rintro e y10 ⟨rfl, d10, hd10⟩
      have yb10 : Below y9.heap.size y9 y10 := by rw [hd10]; exact below_drewN (Below.refl _ _) d10
      have YB10 := Lib.hid (YB9.out.trans (yb10.mono YB9.out.size))
      clear hd10 yb10 F9 G9 YB9
      go_wp2
      go_ret
      exact ⟨rfl, YB10.out⟩
    · skip
      obtain ⟨k, hd, rfl, hok, hh⟩ := HFA.out rfl
      have HLH := Lib.hid hh
      have HOK := Lib.hid hok
      obtain rfl : k = p := by have := HC0.out rfl; simpa using this.symm
      have h3 := hok.three
      have h8 := hok.eight
      have hrr := hok.rows
      have hlen := hok.leadLen
      have HRO : Hid (∀ u w, LLI w u ((List.range k).map (pathsF s k L)) → Calls Try.prog 18 #[u] w (TextsAny (leadL s k L (rnds k) ++ [hd]) true w)) := Lib.hid (fun u w h => by
        have := iRowsOf_any u ((List.range k).map (pathsF s k L)) w h (by simp; omega) (fun j => by
          have := lk_small (G := pathsF s k L) (n := k) (c := 1000) (fun i _ => by have := HFL.out i; have := HLL.out; omega) j
          omega)
        rw [HOK.out.rowsOk, HOK.out.rows] at this
        exact this)
      have HLR : Hid (∀ u w, Txts w u L → Calls Try.prog 20 #[.agg #[.string s, .int .i64 k, u], .string (rnds k)] w (TextsAny (leadL s k L (rnds k)) true w)) := Lib.hid (fun u w h => by
        have := HLA.out (rnds k) (by rw [← strOf_rdf, strOf_size]; unfold maxLen; omega) u w h
        rw [HOK.out.lead] at this
        exact this)
      unfold TextsAny at HRO HLR
      have hc1 := hok.c1
      have hc40 := hok.c40
      generalize leadL s k L (rnds k) = LR at *
      clear hrr hok hh HLA HFA HC0
      obtain ⟨m, hm⟩ : ∃ m, L.length = m := ⟨_, rfl⟩
      have HM0 := Lib.hid hm
      rw [hm] at hlen hc1 hc40
      have HLN := Lib.hid hlen
      clear hm hlen
      go_wp2_with (first | (refine wpList_store_row rfl 26 _ _ rfl _ _ rfl rfl 26 _ (heap_alloc_new _ _) (by kernel_rfl) rfl (by kernel_rfl) ?_; rw [World.setRow_alloc_new]) | (refine wpList_load_row rfl 26 _ rfl _ rfl 26 _ _ _ ((HM.out)) Try.underlying26 rfl (by kernel_rfl) ?_) | fail)
      generalize w1.alloc (.cells #[.string s, .int .i64 k, .slice a L.length cap] 26) = A at *
      obtain ⟨mb, hmb⟩ : ∃ mb, w1.heap.size = mb := ⟨_, rfl⟩
      rw [hmb] at HM
      simp only [hmb]
      clear hmb
      refine (HI.out _ _ HT.out).mono ?_
      rintro e w2 ⟨v2, vs2, rfl, hn2, hb2⟩
      have HK2 := Lib.hid hb2
      have HH2 := Lib.hid hn2
      clear hn2 hb2 HI
      go_wp2_with (first | (refine wpList_load_row rfl 26 _ rfl _ rfl 26 _ _ _ ((HM.out.kept HK2.out)) Try.underlying26 rfl (by kernel_rfl) ?_) | fail)
      refine (HS.out _ _ (HT.out.kept HK2.out)).mono ?_
      rintro e w3 ⟨v3, vs3, rfl, hn3, hb3⟩
      have HK3 := Lib.hid (HK2.out.trans (hb3.mono HK2.out.size))
      have HH3 := Lib.hid (HH2.out.kept hb3)
      have HW3 := Lib.hid hn3
      clear hn3 hb3 HS HK2 HH2
      go_wp2_with fail
      refine (sameLists_same _ _ _ _ vs2 vs3 k (pathsF s k L) _ HH3.out HW3.out (by omega) (fun i _ => by have := HFL.out i; have := HLL.out; omega)).mono ?_
      rintro e w4 ⟨rfl, d4, hd4⟩
      have hb4 : Below w3.heap.size w3 w4 := by rw [hd4]; exact below_drewN (Below.refl _ _) d4
      have HK4 := Lib.hid (HK3.out.trans (hb4.mono HK3.out.size))
      have HH4 := Lib.hid (HH3.out.kept hb4)
      clear hd4 hb4 HK3 HH3 HW3
      go_wp2_with fail
      refine (HRO.out _ _ HH4.out.lliF).mono ?_
      rintro e w5 ⟨v5, rfl, hn5, hb5⟩
      have HK5 := Lib.hid (HK4.out.trans (hb5.mono HK4.out.size))
      have HH5 := Lib.hid (HH4.out.kept hb5)
      have HR5 := Lib.hid hn5.own
      clear hn5 hb5 HK4 HH4 HRO
      have f1 := (HM.out.kept HK5.out).cell 1 rfl
      go_wp2_with fail
      refine (iRoundsOf_yes k h3 h8 _).mono ?_
      rintro e w6 ⟨rfl, hb6⟩
      have HK6 := Lib.hid (HK5.out.trans (hb6.mono HK5.out.size))
      have HH6 := Lib.hid (HH5.out.kept hb6)
      have HR6 := Lib.hid (HR5.out.kept hb6)
      clear hb6 HK5 HH5 HR5 f1
      go_wp2_with (first | (refine wpList_load_row rfl 26 _ rfl _ rfl 26 _ _ _ ((HM.out.kept HK6.out)) Try.underlying26 rfl (by kernel_rfl) ?_) | fail)
      refine (HLR.out _ _ (HT.out.kept HK6.out)).mono ?_
      rintro e w7 ⟨v7, rfl, hn7, hb7⟩
      have HK7 := Lib.hid (HK6.out.trans (hb7.mono HK6.out.size))
      have HH7 := Lib.hid (HH6.out.kept hb7)
      have HR7 := Lib.hid (HR6.out.kept hb7)
      have HL7 := Lib.hid hn7.own
      clear hn7 hb7 HK6 HH6 HR6 HLR
      go_wp2_with (first | (refine wpList_load_row rfl 26 _ rfl _ rfl 26 _ _ _ ((HM.out.kept HK7.out)) Try.underlying26 rfl (by kernel_rfl) ?_) | fail)
      refine (HLH.out _ _ (HT.out.kept HK7.out)).mono ?_
      rintro e w8 ⟨rfl, hb8⟩
      have HK8 := Lib.hid (HK7.out.trans (hb8.mono HK7.out.size))
      have HH8 := Lib.hid (HH7.out.kept hb8)
      have HR8 := Lib.hid (HR7.out.kept hb8)
      have HL8 := Lib.hid (HL7.out.kept hb8)
      clear hb8 HK7 HH7 HR7 HL7 HLH
      obtain ⟨al, cl, hvl, hal⟩ := HL8.out.view
      rw [strs_len, HLN.out] at hvl hal
      obtain ⟨gl, rfl⟩ := hal (by omega)
      subst hvl
      obtain ⟨i0, hi0, hz0, hz1, hz2⟩ := info_parts infoText
      have I0 := Lib.hid (⟨hi0, hz0, hz1, hz2⟩ : _ ∧ _ ∧ _ ∧ _)
      have HLIT := Lib.hid (show New w8.heap.size (w8.alloc (.cells #[] 9)) 9 (.slice (some ⟨w8.heap.size, 0, none⟩) 0 0) [] from ⟨Own.lit w8 9 [] (by simp), fun g hg => by simp [Value.ownBlock] at hg; omega⟩)
      have HBL := Lib.hid ((Below.refl w8.heap.size w8).alloc (Nat.le_refl _) (.cells #[] 9))
      have HCL : Hid (∀ j u, (strs LR)[j]? = some u → (w8.alloc (.cells #[] 9)).cell? ((⟨gl, 0, none⟩ : Addr).add j) = some u) := Lib.hid (fun j u hj => by
        rw [addZ, Nat.zero_add]
        exact (HL8.out.kept HBL.out).cell j u hj)
      have hLl : (strs LR).length ≤ 100000 := by rw [strs_len, HLN.out]; omega
      clear hi0 hz0 hz1 hz2 hal
      go_wp2_with (first | (at_builtin; refine wpList_unguard rfl ?_; refine wpList_appN rfl (.tmp 104) (.tmp 105) 24 rfl 9 i0 (.string ⟨#[]⟩) 16 Try.underlying24 I0.out.1 I0.out.2.1 I0.out.2.2.1 I0.out.2.2.2 rfl w8.heap.size w8 _ [] rfl HLIT.out ⟨gl, 0, none⟩ m cl (strs LR) rfl (by rw [strs_len, HLN.out]) HCL.out (strs_one LR) HBL.out.size HBL.out (by simp; omega) (by omega) ?_) | fail)
      intro v9 w9 hn9 _ hb9 hs9 _
      have HN9 := Lib.hid hn9
      have HB9 := Lib.hid hb9
      clear hn9 hb9
      have hs99 := HB9.out.size
      go_wp2_with (first | (at_builtin; refine wpList_unguard rfl ?_; refine wpList_app1 rfl (.tmp 106) (.tmp 108) 24 rfl 9 i0 (.string ⟨#[]⟩) 16 Try.underlying24 I0.out.1 I0.out.2.1 I0.out.2.2.1 I0.out.2.2.2 rfl w8.heap.size w8 _ (strs LR) rfl HN9.out rfl rfl hs99 HB9.out hLl (by omega) ?_) | fail)
      intro v10 w10 hn10 _ hb10 _
      rw [strs_snoc1] at hn10
      have HN10 := Lib.hid hn10.own
      have HB10 := Lib.hid hb10
      have HK10 := Lib.hid (HK8.out.trans (hb10.mono HK8.out.size))
      have HH10 := Lib.hid (HH8.out.kept hb10)
      have HR10 := Lib.hid (HR8.out.kept hb10)
      clear hn10 hb10 HK8 HH8 HR8 HL8 HLIT HBL HCL hLl HN9 HB9
      go_wp2_with fail
      refine (sameTexts_same _ _ (LR ++ [hd]) _ HR10.out HN10.out (by rw [List.length_append, HLN.out]; simp; omega)).mono ?_
      rintro e wS ⟨rfl, dS, hdS⟩
      have hbS : Below w10.heap.size w10 wS := by rw [hdS]; exact below_drewN (Below.refl _ _) dS
      have HKS := Lib.hid (HK10.out.trans (hbS.mono HK10.out.size))
      have HHS := Lib.hid (HH10.out.kept hbS)
      clear hdS hbS HK10 HH10 HR10 HN10 HB10
      have f1 := (HM.out.kept HKS.out).cell 1 rfl
      obtain ⟨a2', c2', hv2, -⟩ := HHS.out.view
      have hkk : ((k : Int) != (k : Int)) = false := by simp
      subst hv2
      obtain ⟨a2'', c2'', hv2, ha2⟩ := HHS.out.view
      injection hv2 with e1 e2 e3
      subst e1 e3
      obtain ⟨g2, rfl⟩ := ha2 (by omega)
      clear ha2
      go_wp2
      clear f1 hkk
      go_loopg [122] k (fun q x wr => ∃ j : Nat, q + j = k ∧ x = .int .i64 j ∧ Below wS.heap.size wS wr)
      case atStart => exact ⟨0, by omega, rfl, Below.refl _ _⟩
      case round =>
        obtain ⟨j, hq, rfl, hbj⟩ := hrel
        have HBJ := Lib.hid hbj
        have HKJ := Lib.hid (HKS.out.trans (hbj.mono HKS.out.size))
        have HHJ := Lib.hid (HHS.out.kept hbj)
        clear hbj
        by_cases hlt : j < k
        · generalize wr = WJ at *
          have hji : (j : Int) < k := by omega
          have cx := HHJ.out.outer.cell j _ (HHJ.out.at j hlt)
          have hxi := HHJ.out.inner j hlt
          have hpl := HOK.out.plen j hlt
          have hwk := HOK.out.work j hlt
          have hst := HOK.out.steps j hlt
          have hsm := HOK.out.small j hlt
          have HPX := Lib.hid (fun u w h => HPA.out ((j : Int) + 1) u w h)
          have HWX := Lib.hid (fun u w h => HWA.out ((j : Int) + 1) u w h)
          rw [HOK.out.ask j hlt] at HPX HWX
          rw [HOK.out.path j hlt] at hxi
          rw [HM0.out] at hpl hwk
          obtain ⟨xs, hxs⟩ : ∃ xs, pathL s k L ((j : Int) + 1) = xs := ⟨_, rfl⟩
          obtain ⟨ws, hws⟩ : ∃ ws, workS s k L ((j : Int) + 1) = ws := ⟨_, rfl⟩
          rw [hxs] at HPX hpl hst hsm hxi
          rw [hws] at HWX hwk
          obtain ⟨ax, cxx, hvx, hax⟩ := hxi.viewI rfl
          rw [List.length_map, hpl] at hvx hax
          obtain ⟨gx, rfl⟩ := hax (by omega)
          rw [hvx] at cx hxi
          have HXI := Lib.hid hxi
          have HST := Lib.hid hst
          have HSM := Lib.hid hsm
          have HPN := Lib.hid hpl
          have HWN := Lib.hid hwk
          have HMJ := Lib.hid (HM.out.kept HKJ.out)
          clear hxs hws hxi hst hsm hpl hax hvx hwk
          go_wp2_with (first | (refine wpList_load_row rfl 26 _ rfl _ rfl 26 _ _ _ (HMJ.out) Try.underlying26 rfl (by kernel_rfl) ?_) | fail)
          refine (HPX.out _ _ (HT.out.kept HKJ.out)).mono ?_
          rintro e w9 ⟨v9, rfl, hn9, hb9⟩
          have HB9 := Lib.hid (HBJ.out.trans (hb9.mono HBJ.out.size))
          have HK9 := Lib.hid (HKJ.out.trans (hb9.mono HKJ.out.size))
          have HM9 := Lib.hid (HMJ.out.kept hb9)
          have HX9 := Lib.hid (HXI.out.kept hb9)
          have HY9 := Lib.hid hn9.own
          clear hn9 hb9 HBJ HKJ HMJ HXI HPX cx
          go_wp2_with (first | (refine wpList_load_row rfl 26 _ rfl _ rfl 26 _ _ _ (HM9.out) Try.underlying26 rfl (by kernel_rfl) ?_) | fail)
          refine (HWX.out _ _ (HT.out.kept HK9.out)).mono ?_
          rintro e w10 ⟨rfl, hb10⟩
          have HB10 := Lib.hid (HB9.out.trans (hb10.mono HB9.out.size))
          have HX10 := Lib.hid (HX9.out.kept hb10)
          have HY10 := Lib.hid (HY9.out.kept hb10)
          clear hb10 HB9 HK9 HM9 HX9 HY9 HWX
          go_wp2_with fail
          refine (sameInts_same _ _ (xs.map fun (x : Nat) => (x : Int)) _ HX10.out HY10.out (by rw [List.length_map, HPN.out]; omega)).mono ?_
          rintro e w11 ⟨rfl, d11, hd11⟩
          have hb11 : Below w10.heap.size w10 w11 := by rw [hd11]; exact below_drewN (Below.refl _ _) d11
          have HB11 := Lib.hid (HB10.out.trans (hb11.mono HB10.out.size))
          have HX11 := Lib.hid (HX10.out.kept hb11)
          have hwz := HWN.out
          have hcw : IntKind.i64.wrap ((m : Int) + 1 - 1) = (m : Int) := by rw [Int.add_sub_cancel]; exact Go.IntWalk.i64_in _ ⟨by omega, by omega⟩
          clear hd11 hb11 HX10 HY10 HB10
          go_wp2
          clear hwz hcw
          go_loopg [24] m (fun q x wq => ∃ i : Nat, q + i = m ∧ x = .int .i64 ((i : Int) + 1) ∧ Below w11.heap.size w11 wq)
          case atStart => exact ⟨0, by omega, rfl, Below.refl _ _⟩
          case round =>
            obtain ⟨i, hqi, rfl, hbi⟩ := hrel
            have HBI := Lib.hid hbi
            clear hbi
            by_cases hli : i < m
            · have hii : (i : Int) + 1 < (m : Int) + 1 := by omega
              obtain ⟨x0, hx0⟩ : ∃ x0, xs.getD i 0 = x0 := ⟨_, rfl⟩
              obtain ⟨x1, hx1⟩ : ∃ x1, xs.getD (i + 1) 0 = x1 := ⟨_, rfl⟩
              have hs9 := HST.out.at i (by rw [HPN.out]; omega)
              rw [hx0, hx1] at hs9
              have hs0 : x0 ≤ 8 := by rw [← hx0, List.getD_eq_getElem?_getD, List.getElem?_eq_getElem (by rw [HPN.out]; omega)]; exact HSM.out _ (List.getElem_mem _)
              have q0 : wr.cell? ⟨gx, i, none⟩ = some (.int .i64 (x0 : Nat)) := by
                rw [← hx0]
                exact (HX11.out.kept HBI.out).cell i _ (by simp [ints, List.getD_eq_getElem?_getD, show i < xs.length by rw [HPN.out]; omega])
              have q1 : wr.cell? ⟨gx, i + 1, none⟩ = some (.int .i64 (x1 : Nat)) := by
                rw [← hx1]
                exact (HX11.out.kept HBI.out).cell (i + 1) _ (by simp [ints, List.getD_eq_getElem?_getD, show i + 1 < xs.length by rw [HPN.out]; omega])
              have b0 : (0 : Int) ≤ (i : Int) := by omega
              have b1 : (i : Int) < (m : Int) + 1 := by omega
              have b2 : (0 : Int) ≤ (i : Int) + 1 := by omega
              have b3 : IntKind.i64.wrap ((i : Int) + 1 - 1) = (i : Int) := by rw [Int.add_sub_cancel]; exact Go.IntWalk.i64_in _ ⟨by omega, by omega⟩
              obtain ⟨dd, hdd⟩ : ∃ dd : Int, (x1 : Int) - (x0 : Int) = dd := ⟨_, rfl⟩
              have b4 : IntKind.i64.wrap ((x1 : Int) - (x0 : Int)) = dd := by rw [hdd]; exact Go.IntWalk.i64_in _ ⟨by omega, by omega⟩
              have b5 : ¬ dd < -1 := by omega
              have b6 : ¬ 1 < dd := by omega
              clear hx0 hx1 hs9 hs0 hdd
              go_wp2
              go_quiet (fail)
              go_wp2
              go_roundg (m - (i + 1))
              case measure => omega
              case rel => exact ⟨i + 1, by omega, by go_num, below_drewN HBI.out _⟩
            · obtain rfl : i = m := by omega
              go_wp2
              go_roundg (k - (j + 1))
              case measure => omega
              case rel => exact ⟨j + 1, by omega, by go_num, HB11.out.trans (HBI.out.mono HB11.out.size)⟩
        · obtain rfl : j = k := by omega
          have HB := Lib.hid (HBA.out.trans (HKJ.out.mono HBA.out.size))
          clear HM HT HKJ HKS HBA HPA HWA HOK HHJ HHS HBJ HM0 HFL HLL
          try (go_wp2_with fail)
          refine (DrawRowsOf_any a2 l2 c2 z2 _ (HZ2.out.belowW HB.out) HL2.out).mono ?_
          rintro e y1 ⟨qv, F, rfl, qn, ql, qm, yb1⟩
          obtain ⟨P, flag, hP, ri, rs⟩ := bothRowsOf F (by omega) (fun k => by have := qm k; omega)
          have RI := Lib.hid ri
          have RS := Lib.hid rs
          have QV := Lib.hid qn
          have YB1 := Lib.hid (HB.out.trans (yb1.mono HB.out.size))
          unfold TextsAny at RI RS
          clear qn yb1 ri rs HB
          go_wp2_with fail
          refine (RI.out _ _ QV.out).mono ?_
          rintro e y2 ⟨u2, rfl, un2, yb2⟩
          have YB2 := Lib.hid (YB1.out.trans (yb2.mono YB1.out.size))
          have Q2 := Lib.hid (QV.out.kept yb2)
          have D2 := Lib.hid un2.own
          clear un2 yb2 QV YB1
          go_wp2_with fail
          refine (RS.out _ _ Q2.out).mono ?_
          rintro e y3 ⟨u3, rfl, un3, yb3⟩
          have YB3 := Lib.hid (YB2.out.trans (yb3.mono YB2.out.size))
          have D3 := Lib.hid (D2.out.kept yb3)
          have E3 := Lib.hid un3.own
          clear un3 yb3 Q2 D2 YB2
          go_wp2_with fail
          refine (DrawPathOf_any a2 l2 c2 z2 _ (HZ2.out.belowW YB3.out) HL2.out).mono ?_
          rintro e y4 ⟨ds, dn, dv, D, db, rfl, dsz, -, -, dnw, dL, dsm, yb4⟩
          obtain ⟨da, dc, hdv, -⟩ := dnw.own.view
          rw [strs_len] at hdv
          subst hdv
          have hdsx : ds.size ≤ maxLen := by unfold maxLen; omega
          obtain ⟨R, pflag, hR, pi, ps⟩ := bothPathOf ds hdsx dn D (by omega) (small10p dsm) db
          have PI := Lib.hid pi
          have PS := Lib.hid ps
          have WI := Lib.hid (fun u w h => iWorkText_any ds hdsx dn u D db w h (by omega))
          have WS := Lib.hid (fun u w h => sWorkText_any ds hdsx dn u D db w h (by omega) (small10p dsm))
          unfold IntsAny at PI PS
          generalize workS ds dn D db = wt at *
          generalize askB ds dn D db = wf at *
          obtain ⟨o1, ho1⟩ : ∃ o1, Obj.cells #[.string ds, .int .i64 dn, .slice da D.length dc] 26 = o1 := ⟨_, rfl⟩
          have hal := (Below.refl y4.heap.size y4).alloc (Nat.le_refl _) o1
          have hba := yb4.trans (hal.mono yb4.size)
          have YB4 := Lib.hid (YB3.out.trans (hba.mono YB3.out.size))
          have D4 := Lib.hid (D3.out.kept hba)
          have E4 := Lib.hid (E3.out.kept hba)
          have DT := Lib.hid (dnw.own.txts.kept hal)
          have DM : Hid (RowAt (y4.alloc o1) y4.heap.size 26 #[.string ds, .int .i64 dn, .slice da D.length dc]) := Lib.hid (by rw [← ho1]; exact RowAt.new y4 _ _)
          clear dnw yb4 hal hba dsm pi ps YB3 D3 E3
          subst ho1
          go_wp2_with (first | (refine wpList_store_row rfl 26 _ _ rfl _ _ rfl rfl 26 _ (heap_alloc_new _ _) (by kernel_rfl) rfl (by kernel_rfl) ?_; rw [World.setRow_alloc_new]) | (refine wpList_load_row rfl 26 _ rfl _ rfl 26 _ _ _ ((DM.out)) Try.underlying26 rfl (by kernel_rfl) ?_) | fail)
          generalize y4.alloc (.cells #[.string ds, .int .i64 dn, .slice da D.length dc] 26) = Y at *
          refine (PI.out _ _ DT.out).mono ?_
          rintro e y5 ⟨u5, rfl, un5, yb5⟩
          have YK5 := Lib.hid yb5
          have YB5 := Lib.hid (YB4.out.trans (yb5.mono YB4.out.size))
          have D5 := Lib.hid (D4.out.kept yb5)
          have E5 := Lib.hid (E4.out.kept yb5)
          have F5 := Lib.hid un5.own
          clear un5 yb5 D4 E4 YB4 PI
          go_wp2_with (first | (refine wpList_load_row rfl 26 _ rfl _ rfl 26 _ _ _ ((DM.out.kept YK5.out)) Try.underlying26 rfl (by kernel_rfl) ?_) | fail)
          refine (PS.out _ _ (DT.out.kept YK5.out)).mono ?_
          rintro e y6 ⟨u6, rfl, un6, yb6⟩
          have YK6 := Lib.hid (YK5.out.trans (yb6.mono YK5.out.size))
          have YB6 := Lib.hid (YB5.out.trans (yb6.mono YB5.out.size))
          have D6 := Lib.hid (D5.out.kept yb6)
          have E6 := Lib.hid (E5.out.kept yb6)
          have F6 := Lib.hid (F5.out.kept yb6)
          have G6 := Lib.hid un6.own
          clear un6 yb6 D5 E5 F5 YB5 YK5 PS
          go_wp2_with (first | (refine wpList_load_row rfl 26 _ rfl _ rfl 26 _ _ _ ((DM.out.kept YK6.out)) Try.underlying26 rfl (by kernel_rfl) ?_) | fail)
          refine (WI.out _ _ (DT.out.kept YK6.out)).mono ?_
          rintro e y7 ⟨rfl, yb7⟩
          have YK7 := Lib.hid (YK6.out.trans (yb7.mono YK6.out.size))
          have YB7 := Lib.hid (YB6.out.trans (yb7.mono YB6.out.size))
          have D7 := Lib.hid (D6.out.kept yb7)
          have E7 := Lib.hid (E6.out.kept yb7)
          have F7 := Lib.hid (F6.out.kept yb7)
          have G7 := Lib.hid (G6.out.kept yb7)
          clear yb7 D6 E6 F6 G6 YB6 YK6 WI
          go_wp2_with (first | (refine wpList_load_row rfl 26 _ rfl _ rfl 26 _ _ _ ((DM.out.kept YK7.out)) Try.underlying26 rfl (by kernel_rfl) ?_) | fail)
          refine (WS.out _ _ (DT.out.kept YK7.out)).mono ?_
          rintro e y8 ⟨rfl, yb8⟩
          have YB8 := Lib.hid (YB7.out.trans (yb8.mono YB7.out.size))
          have D8 := Lib.hid (D7.out.kept yb8)
          have E8 := Lib.hid (E7.out.kept yb8)
          have F8 := Lib.hid (F7.out.kept yb8)
          have G8 := Lib.hid (G7.out.kept yb8)
          have htx : (wt.toList == wt.toList) = true := by simp
          clear yb8 D7 E7 F7 G7 YB7 YK7 WS DT DM
          have t1 : (flag == flag) = true := by simp
          have t2 : (pflag == pflag) = true := by simp
          have t3 : (wf == wf) = true := by simp
          go_wp2_with fail
          refine (sameTexts_same _ _ P _ D8.out E8.out (by omega)).mono ?_
          rintro e y9 ⟨rfl, d9, hd9⟩
          have yb9 : Below y8.heap.size y8 y9 := by rw [hd9]; exact below_drewN (Below.refl _ _) d9
          have YB9 := Lib.hid (YB8.out.trans (yb9.mono YB8.out.size))
          have F9 := Lib.hid (F8.out.kept yb9)
          have G9 := Lib.hid (G8.out.kept yb9)
          clear hd9 yb9 D8 E8 F8 G8 YB8
          go_wp2_with fail
          refine (sameInts_same _ _ R _ F9.out G9.out (by omega)).mono ?_
          rintro e y10 ⟨rfl, d10, hd10⟩
          have yb10 : Below y9.heap.size y9 y10 := by rw [hd10]; exact below_drewN (Below.refl _ _) d10
          have YB10 := Lib.hid (YB9.out.trans (yb10.mono YB9.out.size))
          clear hd10 yb10 F9 G9 YB9
          go_wp2
          go_ret
          exact ⟨rfl, YB10.out⟩
end Go.Proofs.Ytpfnamiacagocaa
