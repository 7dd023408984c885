/- The law FnLeads. -/
import Derived.Test.YtnoepobbecobbaaUS
import Derived.Test.YtnoepobbecobbaaUT
import Derived.Test.YtnoepobbecobbaaW4
import Derived.Deep.RegionHeld3
namespace Go.Proofs.Ytnoepobbecobbaa
open Go.RowKit
set_option linter.unusedSimpArgs false
set_option linter.unusedVariables false

theorem sameTexts_bel (v v' : Value) (xs : List (List Nat)) (w : World) (h : Own w 9 v (strs xs)) (h' : Own w 9 v' (strs xs)) (hb : xs.length ≤ 2000000) :
    Calls Try.prog 46 #[v, v'] w fun e w' => e = .returned (.bool true) ∧ Below w.heap.size w w' := by
  refine (sameTexts_same v v' xs w h h' hb).mono ?_
  rintro e w1 ⟨rfl, d, hd⟩
  rw [hd]
  exact ⟨rfl, below_drewN (Below.refl _ _) d⟩

set_option maxRecDepth 100000 in
set_option maxHeartbeats 32000000 in
theorem lawLeads (a1 : Option Addr) (l1 c1 : Nat) (z1 : List Int) (a2' : Option Addr) (l2 c2' : Nat) (z2 : List Int) (w : World) (hz1 : IsBytes w a1 l1 c1 z1) (hz2 : IsBytes w a2' l2 c2' z2) :
    Calls Try.prog 12 #[.slice a1 l1 c1, .slice a2' l2 c2'] w fun e w' => e = .returned (.bool true) ∧ Below w.heap.size w w' := by
  have HZ1 := Lib.hid hz1
  have HZ2 := Lib.hid hz2
  clear hz1 hz2
  go_enter Try.func12, Try.ntmps12
  go_wp2_with fail
  refine (big_any a1 a2' l1 l2 c1 c2' HZ1.out.lenW HZ2.out.lenW _).mono ?_
  rintro e w0 ⟨rfl, rfl⟩
  by_cases hbig : 1048576 < l1 + l2
  · rw [decide_eq_true hbig]
    go_wp2
    go_ret
    exact ⟨rfl, Below.refl _ _⟩
  · rw [decide_eq_false hbig]
    have HL1 := Lib.hid (show l1 ≤ 1048576 by omega)
    have HL2 := Lib.hid (show l2 ≤ 1048576 by omega)
    clear hbig
    go_wp2_with fail
    refine (DrawLeadRows_any a1 l1 c1 z1 _ HZ1.out HL1.out).mono ?_
    rintro e w1 ⟨s, n, v, L, r, rfl, hsz, hn2, hn9, hn, hL, hs, hr10, hb1⟩
    have hsmx : s.size ≤ maxLen := by unfold maxLen; omega
    obtain ⟨P, b, g, hPL, hi, hsp, hgi, hgs, hfact⟩ := leadsFacts s hsmx n L (by omega) (small10s hs) r (by unfold maxLen; omega)
    have HI := Lib.hid hi
    have HS := Lib.hid hsp
    have HGI := Lib.hid hgi
    have HGS := Lib.hid hgs
    have HFACT := Lib.hid hfact
    unfold TextsAny at HI HS
    obtain ⟨a, cap, hv, -⟩ := hn.own.view
    rw [strs_len] at hv
    subst hv
    obtain ⟨o1, ho1⟩ : ∃ o1, Obj.cells #[.string s, .int .i64 n, .slice a L.length cap] 47 = o1 := ⟨_, rfl⟩
    have hal := (Below.refl w1.heap.size w1).alloc (Nat.le_refl _) o1
    have HBA : Hid (Below w.heap.size w (w1.alloc o1)) := Lib.hid (hb1.trans (hal.mono hb1.size))
    have HT := Lib.hid (hn.own.txts.kept hal)
    have HM : Hid (RowAt (w1.alloc o1) w1.heap.size 47 #[.string s, .int .i64 n, .slice a L.length cap]) := Lib.hid (by rw [← ho1]; exact RowAt.new w1 _ _)
    clear hn hb1 hal hs hsz hi hsp hgi hgs hfact hsmx hn2 hn9 HZ1 HL1 hr10
    subst ho1
    cases b
    · skip
      go_wp2_with (first | (refine wpList_store_row rfl 47 _ _ rfl _ _ rfl rfl 47 _ (heap_alloc_new _ _) (by kernel_rfl) rfl (by kernel_rfl) ?_; rw [World.setRow_alloc_new]) | (refine wpList_load_row rfl 47 _ rfl _ rfl 47 _ _ _ ((HM.out)) Try.underlying47 rfl (by kernel_rfl) ?_) | fail)
      generalize w1.alloc (.cells #[.string s, .int .i64 n, .slice a L.length cap] 47) = A at *
      obtain ⟨mb, hmb⟩ : ∃ b, w1.heap.size = b := ⟨_, rfl⟩
      rw [hmb] at HM
      simp only [hmb]
      clear hmb
      refine (HI.out _ _ HT.out).mono ?_
      rintro e w2 ⟨v2, rfl, hn2, hb2⟩
      have HM2 := Lib.hid (HM.out.kept hb2)
      have HT2 := Lib.hid (HT.out.kept hb2)
      have HB2 := Lib.hid (HBA.out.trans (hb2.mono HBA.out.size))
      obtain ⟨a2, k2, hv2, -⟩ := hn2.own.view
      rw [strs_len] at hv2
      subst hv2
      have HN2 := Lib.hid hn2.own
      clear HM HT HBA hb2 hn2 HI
      go_wp2_with (first | (refine wpList_load_row rfl 47 _ rfl _ rfl 47 _ _ _ ((HM2.out)) Try.underlying47 rfl (by kernel_rfl) ?_) | fail)
      refine (HS.out _ _ HT2.out).mono ?_
      rintro e w3 ⟨v3, rfl, hn3, hb3⟩
      have HM3 := Lib.hid (HM2.out.kept hb3)
      have HT3 := Lib.hid (HT2.out.kept hb3)
      have HN3 := Lib.hid (HN2.out.kept hb3)
      have HB3 := Lib.hid (HB2.out.trans (hb3.mono HB2.out.size))
      obtain ⟨a3, k3, hv3, -⟩ := hn3.own.view
      rw [strs_len] at hv3
      subst hv3
      have HQ3 := Lib.hid hn3.own
      clear HM2 HT2 HN2 HB2 hb3 hn3 HS
      have hl1 := HM3.out.lt
      have HSW : Hid (∀ W', Below w3.heap.size w3 W' → (W'.cell? ⟨mb, 0, none⟩ = some (.string s) ∧ W'.cell? ⟨mb, 1, none⟩ = some (.int .i64 n) ∧ W'.cell? ⟨mb, 2, none⟩ = some (.slice a L.length cap) ∧ Below w3.heap.size w3 W')) := Lib.hid (fun W' h => by
        have x1 := HM3.out.keep h hl1
        exact ⟨x1.cell 0 rfl, x1.cell 1 rfl, x1.cell 2 rfl, h⟩)
      have C1 : Hid (∀ W', Below w3.heap.size w3 W' → Calls Try.prog 46 #[.slice a2 P.length k2, .slice a3 P.length k3] W' fun e w' => e = .returned (.bool true) ∧ Below w3.heap.size w3 w') := Lib.hid (fun W' h => (sameTexts_bel _ _ P W' (HN3.out.kept h) (HQ3.out.kept h) (by omega)).mono fun e w' hw => ⟨hw.1, h.trans (hw.2.mono h.size)⟩)
      have C2 : Hid (∀ W', Below w3.heap.size w3 W' → Calls Try.prog 47 #[.agg #[.string s, .int .i64 n, .slice a L.length cap]] W' fun e w' => e = .returned (.bool g) ∧ Below w3.heap.size w3 w') := Lib.hid (fun W' h => (HGI.out _ W' (HT3.out.kept h)).mono fun e w' hw => ⟨hw.1, h.trans (hw.2.mono h.size)⟩)
      have C3 : Hid (∀ W', Below w3.heap.size w3 W' → Calls Try.prog 48 #[.agg #[.string s, .int .i64 n, .slice a L.length cap]] W' fun e w' => e = .returned (.bool g) ∧ Below w3.heap.size w3 w') := Lib.hid (fun W' h => (HGS.out _ W' (HT3.out.kept h)).mono fun e w' hw => ⟨hw.1, h.trans (hw.2.mono h.size)⟩)
      have hgg1 : (g == g) = true := by simp
      have hgg2 : (g != g) = false := by simp
      clear hl1 HGI HGS
      go_wp2
      go_region_held3 (fun W' => W'.cell? ⟨mb, 0, none⟩ = some (.string s) ∧ W'.cell? ⟨mb, 1, none⟩ = some (.int .i64 n) ∧ W'.cell? ⟨mb, 2, none⟩ = some (.slice a L.length cap) ∧ Below w3.heap.size w3 W') (first | assumption | exact HSW.out _ (Below.refl _ _).drew) (first
        | (have q3 := hb2; go_at_call 48; refine (C3.out _ hb2).mono ?_; rintro e3 x3 ⟨rfl, hb3⟩; have hS3 := HSW.out _ hb3)
        | (go_at_call 46; refine (C1.out _ (Below.refl _ _).drew).mono ?_; rintro e1 x1 ⟨rfl, hb1⟩; have hS1 := HSW.out _ hb1)
        | (go_at_call 47; refine (C2.out _ hb1).mono ?_; rintro e2 x2 ⟨rfl, hb2⟩; have hS2 := HSW.out _ hb2)
        | fail)
      have HM4 := Lib.hid (HM3.out.kept hb3)
      have HT4 := Lib.hid (HT3.out.kept hb3)
      have HN4 := Lib.hid (HN3.out.kept hb3)
      have HB4 := Lib.hid (HB3.out.trans (hb3.mono HB3.out.size))
      clear hb1 hb2 hb3 q3 hS1 hS2 hS3 HSW C1 C2 C3 HM3 HT3 HN3 HQ3 HB3 hgg1 hgg2
      have HB := HB4
      clear HM4 HT4 HN4 HB4 HFACT
      go_wp2_with fail
      refine (DrawCourseRows_any a2' l2 c2' z2 _ (HZ2.out.belowW HB.out) HL2.out).mono ?_
      rintro e y1 ⟨ds, dn, dv, D, rfl, dsz, -, -, dnw, dL, dsm, yb1⟩
      obtain ⟨da, dc, hdv, -⟩ := dnw.own.view
      rw [strs_len] at hdv
      subst hdv
      obtain ⟨CP, cb, ct, clb, hCP, hct, hci, hcs, hli, hls, hcf⟩ := courseFacts ds (by unfold maxLen; omega) dn D (by omega) (small10s dsm)
      have CI := Lib.hid hci
      have CS := Lib.hid hcs
      have LI := Lib.hid hli
      have LS := Lib.hid hls
      have CF := Lib.hid hcf
      unfold TextsAny at CI CS
      have YB1 := Lib.hid (HB.out.trans (yb1.mono HB.out.size))
      have DT1 := Lib.hid dnw.own.txts
      clear dnw yb1 dsm hci hcs hli hls hcf HB
      obtain ⟨o5, ho5⟩ : ∃ o, Obj.cells #[.string ds, .int .i64 dn, .slice da D.length dc] 47 = o := ⟨_, rfl⟩
      have hal5 := (Below.refl y1.heap.size y1).alloc (Nat.le_refl _) o5
      have DT2 := Lib.hid (DT1.out.kept hal5)
      have YB2 := Lib.hid (YB1.out.trans (hal5.mono YB1.out.size))
      have DM2 : Hid (RowAt (y1.alloc o5) y1.heap.size 47 #[.string ds, .int .i64 dn, .slice da D.length dc]) := Lib.hid (by rw [← ho5]; exact RowAt.new y1 _ _)
      clear hal5 DT1 YB1
      subst ho5
      go_wp2_with (first | (refine wpList_store_row rfl 47 _ _ rfl _ _ rfl rfl 47 _ (heap_alloc_new _ _) (by kernel_rfl) rfl (by kernel_rfl) ?_; rw [World.setRow_alloc_new]) | (refine wpList_load_row rfl 47 _ rfl _ rfl 47 _ _ _ ((DM2.out)) Try.underlying47 rfl (by kernel_rfl) ?_) | fail)
      generalize y1.alloc (.cells #[.string ds, .int .i64 dn, .slice da D.length dc] 47) = Y1 at *
      obtain ⟨db, hdb⟩ : ∃ b, y1.heap.size = b := ⟨_, rfl⟩
      rw [hdb] at DM2
      simp only [hdb]
      clear hdb
      refine (CI.out _ _ DT2.out).mono ?_
      rintro e y2 ⟨v4, rfl, hn4, hb4⟩
      have DM3 := Lib.hid (DM2.out.kept hb4)
      have DT3 := Lib.hid (DT2.out.kept hb4)
      have YB3 := Lib.hid (YB2.out.trans (hb4.mono YB2.out.size))
      obtain ⟨a4, k4, hv4, -⟩ := hn4.own.view
      rw [strs_len] at hv4
      subst hv4
      have EN3 := Lib.hid hn4.own
      clear DM2 DT2 YB2 hb4 hn4 CI
      go_wp2_with (first | (refine wpList_load_row rfl 47 _ rfl _ rfl 47 _ _ _ ((DM3.out)) Try.underlying47 rfl (by kernel_rfl) ?_) | fail)
      refine (CS.out _ _ DT3.out).mono ?_
      rintro e y3 ⟨v5, rfl, hn5, hb5⟩
      have DM4 := Lib.hid (DM3.out.kept hb5)
      have DT4 := Lib.hid (DT3.out.kept hb5)
      have EN4 := Lib.hid (EN3.out.kept hb5)
      have YB4 := Lib.hid (YB3.out.trans (hb5.mono YB3.out.size))
      obtain ⟨a5, k5, hv5, -⟩ := hn5.own.view
      rw [strs_len] at hv5
      subst hv5
      have FN4 := Lib.hid hn5.own
      clear DM3 DT3 EN3 YB3 hb5 hn5 CS
      go_wp2_with (first | (refine wpList_load_row rfl 47 _ rfl _ rfl 47 _ _ _ ((DM4.out)) Try.underlying47 rfl (by kernel_rfl) ?_) | fail)
      refine (LI.out _ _ DT4.out).mono ?_
      rintro e y4 ⟨rfl, hb6⟩
      have DM5 := Lib.hid (DM4.out.kept hb6)
      have DT5 := Lib.hid (DT4.out.kept hb6)
      have EN5 := Lib.hid (EN4.out.kept hb6)
      have FN5 := Lib.hid (FN4.out.kept hb6)
      have YB5 := Lib.hid (YB4.out.trans (hb6.mono YB4.out.size))
      clear DM4 DT4 EN4 FN4 YB4 hb6 LI
      go_wp2_with (first | (refine wpList_load_row rfl 47 _ rfl _ rfl 47 _ _ _ ((DM5.out)) Try.underlying47 rfl (by kernel_rfl) ?_) | fail)
      refine (LS.out _ _ DT5.out).mono ?_
      rintro e y5 ⟨rfl, hb7⟩
      have DM6 := Lib.hid (DM5.out.kept hb7)
      have EN6 := Lib.hid (EN5.out.kept hb7)
      have FN6 := Lib.hid (FN5.out.kept hb7)
      have YB6 := Lib.hid (YB5.out.trans (hb7.mono YB5.out.size))
      clear DM5 DT5 EN5 FN5 YB5 hb7 LS
      have hcc1 : (clb == clb) = true := by simp
      have hcc2 : (clb != clb) = false := by simp
      have htt1 : ((ct : Int) == (ct : Int)) = true := by simp
      have htt2 : ((ct : Int) != (ct : Int)) = false := by simp
      have HST : Hid (Calls Try.prog 46 #[.slice a4 CP.length k4, .slice a5 CP.length k5] y5 fun e w' => e = .returned (.bool true) ∧ Below y5.heap.size y5 w') := Lib.hid (sameTexts_bel _ _ CP y5 EN6.out FN6.out (by omega))
      clear FN6
      cases cb
      · clear CF
        go_wp2_with fail
        refine HST.out.mono ?_
        rintro e y6 ⟨rfl, hb8⟩
        go_wp2
        go_ret
        exact ⟨rfl, YB6.out.trans (hb8.mono YB6.out.size)⟩
      · obtain ⟨hlb, hcpl, hd40, hnx⟩ := CF.out rfl
        subst hlb
        have HNX := Lib.hid hnx
        clear CF hnx
        by_cases h1 : 1 < CP.length
        · have h1i : (1 : Int) < (CP.length : Int) := by omega
          have hct2 : ct * D.length ≤ 840 * 40 := Nat.mul_le_mul hct hd40
          have hmul0 : (ct : Int) * (D.length : Int) = (CP.length : Int) := by rw [hcpl, Int.natCast_mul]
          have hmul : IntKind.i64.wrap ((ct : Int) * (D.length : Int)) = (CP.length : Int) := by
            rw [hmul0]
            exact IntWalk.i64_in _ ⟨by omega, by omega⟩
          have hpp1 : ((CP.length : Int) == (CP.length : Int)) = true := by simp
          have hcp1000 : (CP.length : Int) ≤ 1000 := by omega
          clear hcpl hmul0 hct2
          go_wp2_with fail
          refine HST.out.mono ?_
          rintro e y6 ⟨rfl, hb8⟩
          have DM7 := Lib.hid (DM6.out.kept hb8)
          have EN7 := Lib.hid (EN6.out.kept hb8)
          have YB7 := Lib.hid (YB6.out.trans (hb8.mono YB6.out.size))
          clear hb8 DM6 EN6 YB6 HST
          go_wp2_with fail
          refine (HNX.out _ _ EN7.out.txts).mono ?_
          rintro e y7 ⟨rfl, hb9⟩
          have DM8 := Lib.hid (DM7.out.kept hb9)
          have YB8 := Lib.hid (YB7.out.trans (hb9.mono YB7.out.size))
          have d2 := DM8.out.cell 2 rfl
          clear hb9 DM7 EN7 YB7 HNX
          go_wp2
          go_ret
          exact ⟨rfl, YB8.out⟩
        · have h1i : ¬ (1 : Int) < (CP.length : Int) := by omega
          clear hcpl
          go_wp2_with fail
          refine HST.out.mono ?_
          rintro e y6 ⟨rfl, hb8⟩
          go_wp2
          go_ret
          exact ⟨rfl, YB6.out.trans (hb8.mono YB6.out.size)⟩
    · skip
      go_wp2_with (first | (refine wpList_store_row rfl 47 _ _ rfl _ _ rfl rfl 47 _ (heap_alloc_new _ _) (by kernel_rfl) rfl (by kernel_rfl) ?_; rw [World.setRow_alloc_new]) | (refine wpList_load_row rfl 47 _ rfl _ rfl 47 _ _ _ ((HM.out)) Try.underlying47 rfl (by kernel_rfl) ?_) | fail)
      generalize w1.alloc (.cells #[.string s, .int .i64 n, .slice a L.length cap] 47) = A at *
      obtain ⟨mb, hmb⟩ : ∃ b, w1.heap.size = b := ⟨_, rfl⟩
      rw [hmb] at HM
      simp only [hmb]
      clear hmb
      refine (HI.out _ _ HT.out).mono ?_
      rintro e w2 ⟨v2, rfl, hn2, hb2⟩
      have HM2 := Lib.hid (HM.out.kept hb2)
      have HT2 := Lib.hid (HT.out.kept hb2)
      have HB2 := Lib.hid (HBA.out.trans (hb2.mono HBA.out.size))
      obtain ⟨a2, k2, hv2, -⟩ := hn2.own.view
      rw [strs_len] at hv2
      subst hv2
      have HN2 := Lib.hid hn2.own
      clear HM HT HBA hb2 hn2 HI
      go_wp2_with (first | (refine wpList_load_row rfl 47 _ rfl _ rfl 47 _ _ _ ((HM2.out)) Try.underlying47 rfl (by kernel_rfl) ?_) | fail)
      refine (HS.out _ _ HT2.out).mono ?_
      rintro e w3 ⟨v3, rfl, hn3, hb3⟩
      have HM3 := Lib.hid (HM2.out.kept hb3)
      have HT3 := Lib.hid (HT2.out.kept hb3)
      have HN3 := Lib.hid (HN2.out.kept hb3)
      have HB3 := Lib.hid (HB2.out.trans (hb3.mono HB2.out.size))
      obtain ⟨a3, k3, hv3, -⟩ := hn3.own.view
      rw [strs_len] at hv3
      subst hv3
      have HQ3 := Lib.hid hn3.own
      clear HM2 HT2 HN2 HB2 hb3 hn3 HS
      have hl1 := HM3.out.lt
      have HSW : Hid (∀ W', Below w3.heap.size w3 W' → (W'.cell? ⟨mb, 0, none⟩ = some (.string s) ∧ W'.cell? ⟨mb, 1, none⟩ = some (.int .i64 n) ∧ W'.cell? ⟨mb, 2, none⟩ = some (.slice a L.length cap) ∧ Below w3.heap.size w3 W')) := Lib.hid (fun W' h => by
        have x1 := HM3.out.keep h hl1
        exact ⟨x1.cell 0 rfl, x1.cell 1 rfl, x1.cell 2 rfl, h⟩)
      have C1 : Hid (∀ W', Below w3.heap.size w3 W' → Calls Try.prog 46 #[.slice a2 P.length k2, .slice a3 P.length k3] W' fun e w' => e = .returned (.bool true) ∧ Below w3.heap.size w3 w') := Lib.hid (fun W' h => (sameTexts_bel _ _ P W' (HN3.out.kept h) (HQ3.out.kept h) (by omega)).mono fun e w' hw => ⟨hw.1, h.trans (hw.2.mono h.size)⟩)
      have C2 : Hid (∀ W', Below w3.heap.size w3 W' → Calls Try.prog 47 #[.agg #[.string s, .int .i64 n, .slice a L.length cap]] W' fun e w' => e = .returned (.bool g) ∧ Below w3.heap.size w3 w') := Lib.hid (fun W' h => (HGI.out _ W' (HT3.out.kept h)).mono fun e w' hw => ⟨hw.1, h.trans (hw.2.mono h.size)⟩)
      have C3 : Hid (∀ W', Below w3.heap.size w3 W' → Calls Try.prog 48 #[.agg #[.string s, .int .i64 n, .slice a L.length cap]] W' fun e w' => e = .returned (.bool g) ∧ Below w3.heap.size w3 w') := Lib.hid (fun W' h => (HGS.out _ W' (HT3.out.kept h)).mono fun e w' hw => ⟨hw.1, h.trans (hw.2.mono h.size)⟩)
      have hgg1 : (g == g) = true := by simp
      have hgg2 : (g != g) = false := by simp
      clear hl1 HGI HGS
      go_wp2
      go_region_held3 (fun W' => W'.cell? ⟨mb, 0, none⟩ = some (.string s) ∧ W'.cell? ⟨mb, 1, none⟩ = some (.int .i64 n) ∧ W'.cell? ⟨mb, 2, none⟩ = some (.slice a L.length cap) ∧ Below w3.heap.size w3 W') (first | assumption | exact HSW.out _ (Below.refl _ _).drew) (first
        | (have q3 := hb2; go_at_call 48; refine (C3.out _ hb2).mono ?_; rintro e3 x3 ⟨rfl, hb3⟩; have hS3 := HSW.out _ hb3)
        | (go_at_call 46; refine (C1.out _ (Below.refl _ _).drew).mono ?_; rintro e1 x1 ⟨rfl, hb1⟩; have hS1 := HSW.out _ hb1)
        | (go_at_call 47; refine (C2.out _ hb1).mono ?_; rintro e2 x2 ⟨rfl, hb2⟩; have hS2 := HSW.out _ hb2)
        | fail)
      have HM4 := Lib.hid (HM3.out.kept hb3)
      have HT4 := Lib.hid (HT3.out.kept hb3)
      have HN4 := Lib.hid (HN3.out.kept hb3)
      have HB4 := Lib.hid (HB3.out.trans (hb3.mono HB3.out.size))
      clear hb1 hb2 hb3 q3 hS1 hS2 hS3 HSW C1 C2 C3 HM3 HT3 HN3 HQ3 HB3 hgg1 hgg2
      obtain ⟨H, E, U, TT, X, F⟩ := HFACT.out (by first | rfl | trivial)
      obtain ⟨hpos, hfew, hpl, htl, fhead, ftimes, fturn, fhead2, fback, fat, fend, fapp⟩ := F
      have F1 := Lib.hid fhead
      have F2 := Lib.hid ftimes
      have F3 := Lib.hid fturn
      have F4 := Lib.hid fhead2
      have F5 := Lib.hid fback
      have F6 := Lib.hid fat
      have F7 := Lib.hid fend
      have F8 := Lib.hid fapp
      have HPL := Lib.hid hpl
      unfold MethAny at F3
      rw [hpl]
      rw [hpl] at HN4
      clear HFACT fhead ftimes fturn fhead2 fback fat fend fapp hpl
      go_wp2_with (first | (refine wpList_load_row rfl 47 _ rfl _ rfl 47 _ _ _ ((HM4.out)) Try.underlying47 rfl (by kernel_rfl) ?_) | fail)
      refine (F1.out _ _ HT4.out).mono ?_
      rintro e w5 ⟨rfl, hb5⟩
      have HM5 := Lib.hid (HM4.out.kept hb5)
      have HT5 := Lib.hid (HT4.out.kept hb5)
      have HN5 := Lib.hid (HN4.out.kept hb5)
      have HB5 := Lib.hid (HB4.out.trans (hb5.mono HB4.out.size))
      clear hb5 HM4 HT4 HN4 HB4 F1
      go_wp2_with fail
      refine (F2.out _).mono ?_
      rintro e w6 ⟨rfl, hb6⟩
      have HM6 := Lib.hid (HM5.out.kept hb6)
      have HT6 := Lib.hid (HT5.out.kept hb6)
      have HN6 := Lib.hid (HN5.out.kept hb6)
      have HB6 := Lib.hid (HB5.out.trans (hb6.mono HB5.out.size))
      clear hb6 HM5 HT5 HN5 HB5 F2
      go_wp2_with (first | (refine wpList_load_row rfl 47 _ rfl _ rfl 47 _ _ _ ((HM6.out)) Try.underlying47 rfl (by kernel_rfl) ?_) | fail)
      refine (F3.out _ _ HT6.out).mono ?_
      rintro e w7 ⟨v7, rfl, hn7, hb7⟩
      have HM7 := Lib.hid (HM6.out.kept hb7)
      have HT7 := Lib.hid (HT6.out.kept hb7)
      have HN7 := Lib.hid (HN6.out.kept hb7)
      have HB7 := Lib.hid (HB6.out.trans (hb7.mono HB6.out.size))
      obtain ⟨a7, k7, hv7, -⟩ := hn7.own.view
      rw [strs_len] at hv7
      subst hv7
      have HP7 := Lib.hid hn7.own.txts
      clear hb7 hn7 HM6 HT6 HN6 HB6 F3
      obtain ⟨o7, ho7⟩ : ∃ o, Obj.cells #[.string s, .int .i64 n, .slice a7 TT.length k7] 47 = o := ⟨_, rfl⟩
      have hal7 := (Below.refl w7.heap.size w7).alloc (Nat.le_refl _) o7
      have HM8 := Lib.hid (HM7.out.kept hal7)
      have HT8 := Lib.hid (HT7.out.kept hal7)
      have HN8 := Lib.hid (HN7.out.kept hal7)
      have HP8 := Lib.hid (HP7.out.kept hal7)
      have HB8 := Lib.hid (HB7.out.trans (hal7.mono HB7.out.size))
      have HR8 : Hid (RowAt (w7.alloc o7) w7.heap.size 47 #[.string s, .int .i64 n, .slice a7 TT.length k7]) := Lib.hid (by rw [← ho7]; exact RowAt.new w7 _ _)
      clear hal7 HM7 HT7 HN7 HP7 HB7
      subst ho7
      go_wp2_with (first | (refine wpList_store_row rfl 47 _ _ rfl _ _ rfl rfl 47 _ (heap_alloc_new _ _) (by kernel_rfl) rfl (by kernel_rfl) ?_; rw [World.setRow_alloc_new]) | (refine wpList_load_row rfl 47 _ rfl _ rfl 47 _ _ _ ((HR8.out)) Try.underlying47 rfl (by kernel_rfl) ?_) | fail)
      generalize w7.alloc (.cells #[.string s, .int .i64 n, .slice a7 TT.length k7] 47) = A7 at *
      obtain ⟨tb, htb⟩ : ∃ b, w7.heap.size = b := ⟨_, rfl⟩
      rw [htb] at HR8
      simp only [htb]
      clear htb
      refine (F4.out _ _ HP8.out).mono ?_
      rintro e w9 ⟨rfl, hb9⟩
      have HM9 := Lib.hid (HM8.out.kept hb9)
      have HT9 := Lib.hid (HT8.out.kept hb9)
      have HN9 := Lib.hid (HN8.out.kept hb9)
      have HB9 := Lib.hid (HB8.out.trans (hb9.mono HB8.out.size))
      clear hb9 HM8 HT8 HN8 HB8 HP8 HR8 F4
      go_wp2_with fail
      refine (F5.out _).mono ?_
      rintro e w0' ⟨rfl, hb10⟩
      have HM10 := Lib.hid (HM9.out.kept hb10)
      have HT10 := Lib.hid (HT9.out.kept hb10)
      have HN10 := Lib.hid (HN9.out.kept hb10)
      have HB10 := Lib.hid (HB9.out.trans (hb10.mono HB9.out.size))
      clear hb10 HM9 HT9 HN9 HB9 F5
      have c2 := HM10.out.cell 2 rfl
      have hU1 : (U.toList == U.toList) = true := by simp
      have hU2 : (U.toList != U.toList) = false := by simp
      have hLL1 : ((L.length : Int) == (L.length : Int)) = true := by simp
      have hLL2 : ((L.length : Int) != (L.length : Int)) = false := by simp
      obtain ⟨gl, off, rfl, hgl, hcl⟩ : ∃ gl off, a = some ⟨gl, off, none⟩ ∧ gl < w0'.heap.size ∧ ∀ j, j < L.length → w0'.cell? ⟨gl, off + j, none⟩ = some (.string (txt (L.getD j []))) := by
        obtain ⟨a', c', e', -, hc'⟩ := HT10.out
        injection e' with e1 e2 e3
        obtain ⟨g', o', e4, h5, h6⟩ := hc' (by omega)
        exact ⟨g', o', by rw [e1]; exact e4, h5, h6⟩
      obtain ⟨gp, rfl⟩ : ∃ gp, a2 = some ⟨gp, 0, none⟩ := by
        obtain ⟨a', c', e', hc'⟩ := HN10.out.view
        rw [strs_len, HPL.out] at e' hc'
        injection e' with e1 e2 e3
        obtain ⟨g', e4⟩ := hc' (by omega)
        exact ⟨g', by rw [e1]; exact e4⟩
      have HCL := Lib.hid hcl
      have hL41 : (L.length : Int) ≤ 41 := by omega
      clear hcl HT10 HM10
      go_wp2
      go_loopg [134] L.length (fun q i wr => ∃ k : Nat, q + k = L.length ∧ i = .int .i64 k ∧ Below w0'.heap.size w0' wr)
      case atStart => exact ⟨0, by omega, rfl, Below.refl _ _⟩
      case round =>
        obtain ⟨k, hq, rfl, hbk⟩ := hrel
        have HQ := Lib.hid hq
        have HBK := Lib.hid hbk
        clear hq hbk
        by_cases hlt : k < L.length
        · obtain ⟨q', rfl⟩ : ∃ q', gk = q' + 1 := ⟨gk - 1, by have := HQ.out; omega⟩
          have c1 := (HBK.out.cell (p := ⟨gl, off + k, none⟩) hgl).trans (HCL.out k hlt)
          have e1 := (HN10.out.kept HBK.out).cell k _ (strs_at P k (by rw [HPL.out]; exact hlt))
          rw [F6.out k hlt] at e1
          have HAP := Lib.hid (F8.out k hlt)
          have hki : (k : Int) < (L.length : Int) := by omega
          have hk41 : (k : Int) ≤ 41 := by omega
          have HEND : Hid (k + 1 = L.length → X (k + 1) = E) := Lib.hid (fun e => by rw [e]; exact F7.out)
          have hss1 : ((X (k + 1)).toList == (X (k + 1)).toList) = true := by simp
          have hss2 : ((X (k + 1)).toList != (X (k + 1)).toList) = false := by simp
          have HE1 : Hid (k + 1 < L.length → w0'.cell? ⟨gp, k + 1, none⟩ = some (.string (X (k + 1)))) := Lib.hid (fun h => by
            have := HN10.out.cell (k + 1) _ (strs_at P (k + 1) (by rw [HPL.out]; exact h))
            rwa [F6.out (k + 1) h] at this)
          have hgpl := HN10.out.lt gp rfl
          by_cases hk1 : k + 1 < L.length
          · have e2 := (HBK.out.cell (p := ⟨gp, k + 1, none⟩) hgpl).trans (HE1.out hk1)
            have hk1i : (k : Int) + 1 < (L.length : Int) := by omega
            have hk1p : (0 : Int) ≤ (k : Int) + 1 := by omega
            have hk1t : ((k : Int) + 1).toNat = k + 1 := by omega
            clear HEND HE1
            generalize X (k + 1) = xn at *
            generalize X k = xk at *
            generalize txt (L.getD k []) = lk at *
            go_wp2_with fail
            refine (HAP.out _).mono ?_
            rintro e w11 ⟨rfl, hb11⟩
            go_wp2
            go_roundg q'
            case measure => have := HQ.out; omega
            case rel => exact ⟨k + 1, by have := HQ.out; omega, by go_num, HBK.out.trans (hb11.mono HBK.out.size)⟩
          · have hx := HEND.out (by omega)
            rw [hx] at HAP hss1 hss2
            have hk1i : ¬ (k : Int) + 1 < (L.length : Int) := by omega
            clear HEND HE1 hx
            generalize X k = xk at *
            generalize txt (L.getD k []) = lk at *
            go_wp2_with fail
            refine (HAP.out _).mono ?_
            rintro e w11 ⟨rfl, hb11⟩
            go_wp2
            go_roundg q'
            case measure => have := HQ.out; omega
            case rel => exact ⟨k + 1, by have := HQ.out; omega, by go_num, HBK.out.trans (hb11.mono HBK.out.size)⟩
        · obtain hkm : k = L.length := by have := HQ.out; omega
          have hki : ¬ (k : Int) < (L.length : Int) := by omega
          have HB := Lib.hid (HB10.out.trans (HBK.out.mono HB10.out.size))
          clear hkm hlt HQ HBK F6 F7 F8 HCL HN10 HB10 HPL c2 hU1 hU2 hLL1 hLL2
          go_wp2_with fail
          refine (DrawCourseRows_any a2' l2 c2' z2 _ (HZ2.out.belowW HB.out) HL2.out).mono ?_
          rintro e y1 ⟨ds, dn, dv, D, rfl, dsz, -, -, dnw, dL, dsm, yb1⟩
          obtain ⟨da, dc, hdv, -⟩ := dnw.own.view
          rw [strs_len] at hdv
          subst hdv
          obtain ⟨CP, cb, ct, clb, hCP, hct, hci, hcs, hli, hls, hcf⟩ := courseFacts ds (by unfold maxLen; omega) dn D (by omega) (small10s dsm)
          have CI := Lib.hid hci
          have CS := Lib.hid hcs
          have LI := Lib.hid hli
          have LS := Lib.hid hls
          have CF := Lib.hid hcf
          unfold TextsAny at CI CS
          have YB1 := Lib.hid (HB.out.trans (yb1.mono HB.out.size))
          have DT1 := Lib.hid dnw.own.txts
          clear dnw yb1 dsm hci hcs hli hls hcf HB
          obtain ⟨o5, ho5⟩ : ∃ o, Obj.cells #[.string ds, .int .i64 dn, .slice da D.length dc] 47 = o := ⟨_, rfl⟩
          have hal5 := (Below.refl y1.heap.size y1).alloc (Nat.le_refl _) o5
          have DT2 := Lib.hid (DT1.out.kept hal5)
          have YB2 := Lib.hid (YB1.out.trans (hal5.mono YB1.out.size))
          have DM2 : Hid (RowAt (y1.alloc o5) y1.heap.size 47 #[.string ds, .int .i64 dn, .slice da D.length dc]) := Lib.hid (by rw [← ho5]; exact RowAt.new y1 _ _)
          clear hal5 DT1 YB1
          subst ho5
          go_wp2_with (first | (refine wpList_store_row rfl 47 _ _ rfl _ _ rfl rfl 47 _ (heap_alloc_new _ _) (by kernel_rfl) rfl (by kernel_rfl) ?_; rw [World.setRow_alloc_new]) | (refine wpList_load_row rfl 47 _ rfl _ rfl 47 _ _ _ ((DM2.out)) Try.underlying47 rfl (by kernel_rfl) ?_) | fail)
          generalize y1.alloc (.cells #[.string ds, .int .i64 dn, .slice da D.length dc] 47) = Y1 at *
          obtain ⟨db, hdb⟩ : ∃ b, y1.heap.size = b := ⟨_, rfl⟩
          rw [hdb] at DM2
          simp only [hdb]
          clear hdb
          refine (CI.out _ _ DT2.out).mono ?_
          rintro e y2 ⟨v4, rfl, hn4, hb4⟩
          have DM3 := Lib.hid (DM2.out.kept hb4)
          have DT3 := Lib.hid (DT2.out.kept hb4)
          have YB3 := Lib.hid (YB2.out.trans (hb4.mono YB2.out.size))
          obtain ⟨a4, k4, hv4, -⟩ := hn4.own.view
          rw [strs_len] at hv4
          subst hv4
          have EN3 := Lib.hid hn4.own
          clear DM2 DT2 YB2 hb4 hn4 CI
          go_wp2_with (first | (refine wpList_load_row rfl 47 _ rfl _ rfl 47 _ _ _ ((DM3.out)) Try.underlying47 rfl (by kernel_rfl) ?_) | fail)
          refine (CS.out _ _ DT3.out).mono ?_
          rintro e y3 ⟨v5, rfl, hn5, hb5⟩
          have DM4 := Lib.hid (DM3.out.kept hb5)
          have DT4 := Lib.hid (DT3.out.kept hb5)
          have EN4 := Lib.hid (EN3.out.kept hb5)
          have YB4 := Lib.hid (YB3.out.trans (hb5.mono YB3.out.size))
          obtain ⟨a5, k5, hv5, -⟩ := hn5.own.view
          rw [strs_len] at hv5
          subst hv5
          have FN4 := Lib.hid hn5.own
          clear DM3 DT3 EN3 YB3 hb5 hn5 CS
          go_wp2_with (first | (refine wpList_load_row rfl 47 _ rfl _ rfl 47 _ _ _ ((DM4.out)) Try.underlying47 rfl (by kernel_rfl) ?_) | fail)
          refine (LI.out _ _ DT4.out).mono ?_
          rintro e y4 ⟨rfl, hb6⟩
          have DM5 := Lib.hid (DM4.out.kept hb6)
          have DT5 := Lib.hid (DT4.out.kept hb6)
          have EN5 := Lib.hid (EN4.out.kept hb6)
          have FN5 := Lib.hid (FN4.out.kept hb6)
          have YB5 := Lib.hid (YB4.out.trans (hb6.mono YB4.out.size))
          clear DM4 DT4 EN4 FN4 YB4 hb6 LI
          go_wp2_with (first | (refine wpList_load_row rfl 47 _ rfl _ rfl 47 _ _ _ ((DM5.out)) Try.underlying47 rfl (by kernel_rfl) ?_) | fail)
          refine (LS.out _ _ DT5.out).mono ?_
          rintro e y5 ⟨rfl, hb7⟩
          have DM6 := Lib.hid (DM5.out.kept hb7)
          have EN6 := Lib.hid (EN5.out.kept hb7)
          have FN6 := Lib.hid (FN5.out.kept hb7)
          have YB6 := Lib.hid (YB5.out.trans (hb7.mono YB5.out.size))
          clear DM5 DT5 EN5 FN5 YB5 hb7 LS
          have hcc1 : (clb == clb) = true := by simp
          have hcc2 : (clb != clb) = false := by simp
          have htt1 : ((ct : Int) == (ct : Int)) = true := by simp
          have htt2 : ((ct : Int) != (ct : Int)) = false := by simp
          have HST : Hid (Calls Try.prog 46 #[.slice a4 CP.length k4, .slice a5 CP.length k5] y5 fun e w' => e = .returned (.bool true) ∧ Below y5.heap.size y5 w') := Lib.hid (sameTexts_bel _ _ CP y5 EN6.out FN6.out (by omega))
          clear FN6
          cases cb
          · clear CF
            go_wp2_with fail
            refine HST.out.mono ?_
            rintro e y6 ⟨rfl, hb8⟩
            go_wp2
            go_ret
            exact ⟨rfl, YB6.out.trans (hb8.mono YB6.out.size)⟩
          · obtain ⟨hlb, hcpl, hd40, hnx⟩ := CF.out rfl
            subst hlb
            have HNX := Lib.hid hnx
            clear CF hnx
            by_cases h1 : 1 < CP.length
            · have h1i : (1 : Int) < (CP.length : Int) := by omega
              have hct2 : ct * D.length ≤ 840 * 40 := Nat.mul_le_mul hct hd40
              have hmul0 : (ct : Int) * (D.length : Int) = (CP.length : Int) := by rw [hcpl, Int.natCast_mul]
              have hmul : IntKind.i64.wrap ((ct : Int) * (D.length : Int)) = (CP.length : Int) := by
                rw [hmul0]
                exact IntWalk.i64_in _ ⟨by omega, by omega⟩
              have hpp1 : ((CP.length : Int) == (CP.length : Int)) = true := by simp
              have hcp1000 : (CP.length : Int) ≤ 1000 := by omega
              clear hcpl hmul0 hct2
              go_wp2_with fail
              refine HST.out.mono ?_
              rintro e y6 ⟨rfl, hb8⟩
              have DM7 := Lib.hid (DM6.out.kept hb8)
              have EN7 := Lib.hid (EN6.out.kept hb8)
              have YB7 := Lib.hid (YB6.out.trans (hb8.mono YB6.out.size))
              clear hb8 DM6 EN6 YB6 HST
              go_wp2_with fail
              refine (HNX.out _ _ EN7.out.txts).mono ?_
              rintro e y7 ⟨rfl, hb9⟩
              have DM8 := Lib.hid (DM7.out.kept hb9)
              have YB8 := Lib.hid (YB7.out.trans (hb9.mono YB7.out.size))
              have d2 := DM8.out.cell 2 rfl
              clear hb9 DM7 EN7 YB7 HNX
              go_wp2
              go_ret
              exact ⟨rfl, YB8.out⟩
            · have h1i : ¬ (1 : Int) < (CP.length : Int) := by omega
              clear hcpl
              go_wp2_with fail
              refine HST.out.mono ?_
              rintro e y6 ⟨rfl, hb8⟩
              go_wp2
              go_ret
              exact ⟨rfl, YB6.out.trans (hb8.mono YB6.out.size)⟩
end Go.Proofs.Ytnoepobbecobbaa
