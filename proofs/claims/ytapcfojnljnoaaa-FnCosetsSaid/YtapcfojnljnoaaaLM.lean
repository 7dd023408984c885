/- The law FnClosed. -/
import Derived.Test.YtapcfojnljnoaaaLH
import Derived.Test.YtapcfojnljnoaaaLI
import Derived.Test.YtapcfojnljnoaaaW4
namespace Go.Proofs.Ytapcfojnljnoaaa
open Go.RowKit
set_option linter.unusedSimpArgs false
set_option linter.unusedVariables false

theorem Txts.rowsAt {n : Nat} {W : World} {a : Option Addr} {m cap : Nat} {fs : List (Nat → Nat)} (h : Txts W (.slice a m cap) (rowsL n fs)) (h0 : 0 < fs.length) :
    m = fs.length ∧ ∃ g off, a = some ⟨g, off, none⟩ ∧ g < W.heap.size ∧ ∀ j (hj : j < fs.length), W.cell? ⟨g, off + j, none⟩ = some (.string (strOf n fs[j])) := by
  obtain ⟨a', cap', e, hcap, ha⟩ := h
  injection e with e1 e2 e3
  subst e1 e3
  rw [rowsL_len] at e2 ha
  obtain ⟨g, off, e, hg, hcc⟩ := ha h0
  refine ⟨e2, g, off, e, hg, fun j hj => ?_⟩
  rw [hcc j hj, rowsL, List.getD_eq_getElem?_getD, List.getElem?_map, List.getElem?_eq_getElem hj, Option.map_some, Option.getD_some, txt_rowL]
/-- whether a text is met among the first -/
def metB (n : Nat) (S : List (Nat → Nat)) (r : ByteArray) : Nat → Bool
  | 0 => false
  | j + 1 => metB n S r j || ((strOf n (S.getD j (rdf n))).toList == r.toList)
theorem metB_yes {n : Nat} {S : List (Nat → Nat)} {r : ByteArray} {i : Nat} (hi : i < S.length) (h : strOf n S[i] = r) : ∀ j, i < j → metB n S r j = true
  | 0, h0 => by omega
  | j + 1, h0 => by
    unfold metB
    by_cases e : i = j
    · subst e
      rw [List.getD_eq_getElem?_getD, List.getElem?_eq_getElem hi, Option.getD_some, h]
      simp
    · rw [metB_yes hi h j (by omega)]
      rfl
theorem fact_step {k : Nat} (h : 2 ≤ k) : fact k = fact (k - 1) * k := by
  obtain ⟨j, rfl⟩ : ∃ j, k = j + 1 := ⟨k - 1, by omega⟩
  rfl
theorem fact_le7 {k : Nat} (h : k ≤ 8) : fact (k - 1) ≤ 40320 := fact_le (by omega)

set_option maxRecDepth 100000 in
set_option maxHeartbeats 16000000 in
theorem lawClosed (a1 : Option Addr) (l1 c1 : Nat) (z1 : List Int) (a2 : Option Addr) (l2 c2 : Nat) (z2 : List Int) (w : World) (hz1 : IsBytes w a1 l1 c1 z1) (hz2 : IsBytes w a2 l2 c2 z2) :
    Calls Try.prog 12 #[.slice a1 l1 c1, .slice a2 l2 c2] w fun e w' => e = .returned (.bool true) ∧ Below w.heap.size w w' := by
  have HZ1 := Lib.hid hz1
  have HZ2 := Lib.hid hz2
  clear hz1 hz2
  go_enter Try.func12, Try.ntmps12
  go_wp2_with fail
  refine (big_any a1 a2 l1 l2 c1 c2 HZ1.out.lenW HZ2.out.lenW _).mono ?_
  rintro e w0 ⟨rfl, rfl⟩
  by_cases hbig : 1048576 < l1 + l2
  · rw [decide_eq_true hbig]
    go_wp2
    go_ret
    exact ⟨rfl, Below.refl _ _⟩
  · rw [decide_eq_false hbig]
    have HL1 := Lib.hid (show l1 ≤ 1048576 by omega)
    have HL2 := Lib.hid (show l2 ≤ 1048576 by omega)
    clear hbig
    go_wp2_with fail
    refine (DrawCloseRows_any a1 l1 c1 z1 _ HZ1.out HL1.out).mono ?_
    rintro e w1 ⟨L, v, hl3, hsm8, rfl, hn, hb1⟩
    have hsm : ∀ l ∈ L, l.length ≤ maxLen := fun l hl => by have := hsm8 l hl; unfold maxLen; omega
    have HI := Lib.hid (fun u w h => iCloseRows_any u L w h (by omega) hsm)
    have HS := Lib.hid (fun u w h => sCloseRows_any u L w h (by omega) hsm)
    unfold TextsAny at HI HS
    have HCF := closedF (L := L)
    have hcl := clL_len L
    have HT := Lib.hid hn.own.txts
    have HB1 := Lib.hid hb1
    obtain ⟨va, vc, rfl, -⟩ := hn.own.view
    obtain ⟨k, hk⟩ : ∃ k, L.length = k := ⟨_, rfl⟩
    rw [strs_len, hk] at HT ⊢
    generalize clL L = C at *
    generalize clB L = ok at *
    have HK := Lib.hid hk
    have HCL := Lib.hid hcl
    have HF := Lib.hid HCF
    clear hn hb1 hsm8 hsm HCF hcl hk HZ1 HL1
    cases ok
    · go_wp2_with fail
      refine (HI.out _ _ HT.out).mono ?_
      rintro e w2 ⟨v2, rfl, hn2, hb2⟩
      have HB2 := Lib.hid (HB1.out.trans (hb2.mono HB1.out.size))
      have HT2 := Lib.hid (HT.out.kept hb2)
      have H2 := Lib.hid hn2.own
      obtain ⟨sl, hsl⟩ : ∃ k, C.length = k := ⟨_, rfl⟩
      obtain ⟨va2, vc2, rfl, hva⟩ := hn2.own.view
      rw [strs_len, hsl] at H2 hva ⊢
      have HVA := Lib.hid hva
      have HSL := Lib.hid hsl
      clear hn2 hb2 HB1 HT HI hsl hva
      go_wp2_with fail
      refine (HS.out _ _ HT2.out).mono ?_
      rintro e w3 ⟨v3, rfl, hn3, hb3⟩
      have HB3 := Lib.hid (HB2.out.trans (hb3.mono HB2.out.size))
      have HT3 := Lib.hid (HT2.out.kept hb3)
      have H3 := Lib.hid (H2.out.kept hb3)
      have K3 := Lib.hid hn3.own
      clear hn3 hb3 HB2 HT2 H2 HS
      go_wp2_with fail
      refine (sameTexts_same _ _ C _ H3.out K3.out (by have := HCL.out; omega)).mono ?_
      rintro e w4 ⟨rfl, d4, hd4⟩
      have hb4 : Below w3.heap.size w3 w4 := by rw [hd4]; exact below_drewN (Below.refl _ _) d4
      have HB4 := Lib.hid (HB3.out.trans (hb4.mono HB3.out.size))
      have HT4 := Lib.hid (HT3.out.kept hb4)
      have H4 := Lib.hid (H3.out.kept hb4)
      clear hd4 hb4 HB3 HT3 H3 K3
      have HB := HB4
      clear HT4 H4 HB4 HF HCL HSL HK HVA
      go_wp2_with fail
      refine (DrawIsGroup_any a2 l2 c2 z2 _ (HZ2.out.belowW HB.out) HL2.out).mono ?_
      rintro e y1 ⟨M, qv, hm8, hms, rfl, qt, yb1⟩
      have hmx : ∀ l ∈ M, l.length ≤ maxLen := fun l hl => by have := hms l hl; unfold maxLen; omega
      have DI := Lib.hid (fun u w h => iIsGroup_any u M w h (by omega) hmx)
      have DS := Lib.hid (fun u w h => sIsGroup_any u M w h (by omega) hmx)
      have YB1 := Lib.hid (HB.out.trans (yb1.mono HB.out.size))
      have Q1 := Lib.hid qt
      generalize isG M = ig at *
      generalize riseB M = ir at *
      clear qt yb1 hm8 hms hmx HB
      go_wp2_with fail
      refine (DI.out _ _ Q1.out).mono ?_
      rintro e y2 ⟨rfl, yb2⟩
      have YB2 := Lib.hid (YB1.out.trans (yb2.mono YB1.out.size))
      have Q2 := Lib.hid (Q1.out.kept yb2)
      clear yb2 YB1 Q1 DI
      go_wp2_with fail
      refine (DS.out _ _ Q2.out).mono ?_
      rintro e y3 ⟨rfl, yb3⟩
      have YB3 := Lib.hid (YB2.out.trans (yb3.mono YB2.out.size))
      clear yb3 YB2 Q2 DS
      go_wp2_with fail
      refine (DrawGoodRows_any a2 l2 c2 z2 _ (HZ2.out.belowW YB3.out) HL2.out).mono ?_
      rintro e y4 ⟨R, rv, r7, rs, rfl, rn, yb4⟩
      have hrx : ∀ l ∈ R, l.length ≤ maxLen := fun l hl => by have := rs l hl; unfold maxLen; omega
      have GI := Lib.hid (fun w h => iGoodRows_any rv R w h (by omega) hrx)
      have GS := Lib.hid (fun w h => sGoodRows_any rv R w h (by omega) hrx)
      have YB4 := Lib.hid (YB3.out.trans (yb4.mono YB3.out.size))
      have R4 := Lib.hid rn.own.txts
      generalize listB R = lb at *
      clear rn yb4 r7 rs hrx YB3
      cases ig
      all_goals cases ir
      all_goals cases lb
      all_goals
        go_wp2_with fail
        refine (GI.out _ R4.out).mono ?_
        rintro e y5 ⟨rfl, yb5⟩
        have YB5 := Lib.hid (YB4.out.trans (yb5.mono YB4.out.size))
        have R5 := Lib.hid (R4.out.kept yb5)
        clear yb5
        go_wp2_with fail
        refine (GS.out _ R5.out).mono ?_
        rintro e y6 ⟨rfl, yb6⟩
        have YB6 := Lib.hid (YB5.out.trans (yb6.mono YB5.out.size))
        clear yb6
        go_wp2
        go_ret
        exact ⟨rfl, YB6.out⟩
    · obtain ⟨n, fs, S, hF, hC⟩ := HF.out rfl
      subst hC
      go_wp2_with fail
      refine (HI.out _ _ HT.out).mono ?_
      rintro e w2 ⟨v2, rfl, hn2, hb2⟩
      have HB2 := Lib.hid (HB1.out.trans (hb2.mono HB1.out.size))
      have HT2 := Lib.hid (HT.out.kept hb2)
      have H2 := Lib.hid hn2.own
      obtain ⟨sl, hsl⟩ : ∃ k, (rowsL n S).length = k := ⟨_, rfl⟩
      obtain ⟨va2, vc2, rfl, hva⟩ := hn2.own.view
      rw [strs_len, hsl] at H2 hva ⊢
      have HVA := Lib.hid hva
      have HSL := Lib.hid hsl
      clear hn2 hb2 HB1 HT HI hsl hva
      go_wp2_with fail
      refine (HS.out _ _ HT2.out).mono ?_
      rintro e w3 ⟨v3, rfl, hn3, hb3⟩
      have HB3 := Lib.hid (HB2.out.trans (hb3.mono HB2.out.size))
      have HT3 := Lib.hid (HT2.out.kept hb3)
      have H3 := Lib.hid (H2.out.kept hb3)
      have K3 := Lib.hid hn3.own
      clear hn3 hb3 HB2 HT2 H2 HS
      go_wp2_with fail
      refine (sameTexts_same _ _ (rowsL n S) _ H3.out K3.out (by have := HCL.out; omega)).mono ?_
      rintro e w4 ⟨rfl, d4, hd4⟩
      have hb4 : Below w3.heap.size w3 w4 := by rw [hd4]; exact below_drewN (Below.refl _ _) d4
      have HB4 := Lib.hid (HB3.out.trans (hb4.mono HB3.out.size))
      have HT4 := Lib.hid (HT3.out.kept hb4)
      have H4 := Lib.hid (H3.out.kept hb4)
      clear hd4 hb4 HB3 HT3 H3 K3
      have hSl : S.length = sl := by have := HSL.out; rwa [rowsL_len] at this
      by_cases h130 : sl ≤ 130
      · have h130i : (sl : Int) ≤ 130 := by omega
        have HG := Lib.hid (fun u w h => iIsGroup_any u (rowsL n S) w h (by rw [rowsL_len]; omega) (fun l hl => by have := sml_rowsL hF.eight S l hl; unfold maxLen; omega))
        rw [hF.isg, hF.rise] at HG
        have hfl : fs.length = k := by rw [hF.len]; exact HK.out
        have hk3 : k ≤ 3 := by rw [← HK.out]; exact hl3
        obtain ⟨hkk, gb, off, rfl, hgb, hcc⟩ := (hF.txts _ _ HT4.out).rowsAt hF.pos
        have hps := hF.pos
        have c0 := hcc 0 hps
        rw [Nat.add_zero] at c0
        have hs0 : (strOf n fs[0]).size = n := strOf_size _ _
        generalize strOf n fs[0] = s0 at *
        have HFF := Lib.hid hF
        have HCC := Lib.hid hcc
        have HFL := Lib.hid hfl
        have HSL2 := Lib.hid hSl
        have h3n := hF.three
        have h8n := hF.eight
        have hsp : 0 < sl := by rw [← hSl]; exact hF.spos
        have hkp : 0 < k := by rw [← hfl]; exact hF.pos
        obtain ⟨gl, rfl⟩ := HVA.out hsp
        clear hF hcc hfl hkk h130 hSl HF HCL HSL HVA
        go_wp2_with fail
        refine (HG.out _ _ H4.out.txts).mono ?_
        rintro e w5 ⟨rfl, hb5⟩
        have HK5 := Lib.hid hb5
        have H5 := Lib.hid (H4.out.kept hb5)
        have HT5 := Lib.hid (HT4.out.kept hb5)
        have HB5 := Lib.hid (HB4.out.trans (hb5.mono HB4.out.size))
        have HC5 : Hid (∀ W', Below w5.heap.size w5 W' → ∀ j (hj : j < fs.length), W'.cell? ⟨gb, off + j, none⟩ = some (.string (strOf n fs[j]))) := Lib.hid (fun W' hb j hj => (hb.cell (p := ⟨gb, off + j, none⟩) (Nat.lt_of_lt_of_le hgb hb5.size)).trans ((hb5.cell (p := ⟨gb, off + j, none⟩) hgb).trans (HCC.out j hj)))
        have HC0 : Hid (∀ W', Below w5.heap.size w5 W' → W'.cell? ⟨gb, off, none⟩ = some (.string s0)) := Lib.hid (fun W' hb => (hb.cell (p := ⟨gb, off, none⟩) (Nat.lt_of_lt_of_le hgb hb5.size)).trans ((hb5.cell (p := ⟨gb, off, none⟩) hgb).trans c0))
        clear hb5 c0 HG H4 HT4 HB4
        obtain ⟨cd, hcd⟩ := HFF.out.div
        rw [HSL2.out] at hcd
        have hfle : fact n ≤ 40320 := fact_le h8n
        have hkp2 : (0 : Int) < (k : Int) := by omega
        obtain ⟨fn, hfn⟩ : ∃ fn, fact n = fn := ⟨_, rfl⟩
        rw [hfn] at hcd hfle
        have HFN := Lib.hid hfn
        have hmod : Int.tmod (fn : Int) (sl : Int) = 0 := by rw [hcd, Int.tmod_eq_emod_of_nonneg (by omega)]; simp
        have HMOD := Lib.hid hmod
        have HFLE := Lib.hid hfle
        clear hcd hmod hfle hfn
        go_wp2
        go_loopg [12, 13] (n - 1) (fun q al kk wr => ∃ (x : Nat), q + x = n + 1 ∧ 2 ≤ x ∧ kk = .int .i64 x ∧ al = .int .i64 (fact (x - 1) : Nat) ∧ Below w5.heap.size w5 wr)
        case atStart => exact ⟨2, by omega, by omega, rfl, rfl, Below.refl _ _⟩
        case round =>
          obtain ⟨x, hq, hx2, rfl, rfl, hbj⟩ := hrel
          have HBJ := Lib.hid hbj
          have c0 := HC0.out wr hbj
          by_cases hlt : x ≤ n
          · have hxi : (x : Int) ≤ (n : Int) := by omega
            obtain ⟨f1, hf1⟩ : ∃ f, fact (x - 1) = f := ⟨_, rfl⟩
            have hfm : fact x = f1 * x := by rw [fact_step hx2, hf1]
            have hfb : fact x ≤ 40320 := fact_le (by omega)
            obtain ⟨f2, hf2⟩ : ∃ f, fact x = f := ⟨_, rfl⟩
            rw [hf2] at hfm hfb
            have hwm : IntKind.i64.wrap ((f1 : Int) * (x : Int)) = (f2 : Int) := by
              rw [hfm]
              have : ((f1 * x : Nat) : Int) = (f1 : Int) * (x : Int) := by simp
              rw [← this]
              exact Go.IntWalk.i64_in _ ⟨by omega, by omega⟩
            have HF2 := Lib.hid hf2
            rw [hf1]
            clear hf1 hf2 hfm hfb hbj
            go_wp2
            go_roundg (n - x)
            case measure => omega
            case rel => exact ⟨x + 1, by omega, by omega, by go_num, by rw [Nat.add_sub_cancel, HF2.out], by first | exact HBJ.out | exact below_drewN HBJ.out _⟩
          · obtain rfl : x = n + 1 := by omega
            have hxi : ¬ ((n + 1 : Nat) : Int) ≤ (n : Int) := by omega
            rw [Nat.add_sub_cancel, HFN.out]
            have h0m : ((fn : Int).tmod (sl : Int)) = 0 := HMOD.out
            have hw0 : IntKind.i64.wrap (0 : Int) = 0 := Go.IntWalk.i64_in _ ⟨by omega, by omega⟩
            have h00 : ((0 : Int) != 0) = false := by simp
            have hs1 : ((sl : Int) == 0) = false := by rw [beq_eq_false_iff_ne]; omega
            have hs2 : ¬ ((sl : Int) = 0) := by omega
            clear hbj
            go_wp2
            clear c0 h0m h00
            go_loopg [88] k (fun q x wx => ∃ i : Nat, q + i = k ∧ x = .int .i64 i ∧ Below w5.heap.size w5 wx)
            case atStart => exact ⟨0, by omega, rfl, by first | exact HBJ.out | exact below_drewN HBJ.out _⟩
            case round =>
              clear HBJ
              obtain ⟨i, hq, rfl, hbi⟩ := hrel
              have HBI := Lib.hid hbi
              by_cases hlt : i < k
              · have hii : (i : Int) < (k : Int) := by omega
                have hif : i < fs.length := by rw [HFL.out]; exact hlt
                have cr := HC5.out wr hbi i hif
                obtain ⟨m, cm, hm, hcm, hmp⟩ := HFF.out.ord i hif
                obtain ⟨js, hjs, hje⟩ := HFF.out.has i hif
                have HOR := Lib.hid (fun w => iOrderOf_yes n fs[i] (HFF.out.rows _ (List.getElem_mem hif)) m hm w)
                have hmet := metB_yes (n := n) hjs (r := strOf n fs[i]) (by rw [hje]) sl (by rw [← HSL2.out]; exact hjs)
                rw [HSL2.out] at hcm
                have hmodm : Int.tmod (sl : Int) (m : Int) = 0 := by rw [hcm, Int.tmod_eq_emod_of_nonneg (by omega)]; simp
                have HMET := Lib.hid hmet
                have HMM := Lib.hid hmodm
                generalize strOf n fs[i] = sr at *
                clear hbi hif hm hcm hjs hje hmet hmodm
                go_wp2
                go_loopg [94, 16] sl (fun q x mt wy => ∃ j : Nat, q + j = sl ∧ x = .int .i64 j ∧ mt = .bool (metB n S sr j) ∧ Below w5.heap.size w5 wy)
                case atStart => exact ⟨0, by omega, rfl, rfl, by first | exact HBI.out | exact below_drewN HBI.out _⟩
                case round =>
                  clear HBI
                  obtain ⟨j, hq, rfl, rfl, hbj⟩ := hrel
                  have HBJ := Lib.hid hbj
                  by_cases hlt : j < sl
                  · have hji : (j : Int) < (sl : Int) := by omega
                    have hjs : j < S.length := by rw [HSL2.out]; exact hlt
                    have H6 := H5.out.kept hbj
                    have cj := H6.cell j _ (strs_rowsL_get n S j hjs)
                    have hstep : metB n S sr (j + 1) = (metB n S sr j || ((strOf n S[j]).toList == sr.toList)) := by
                      rw [metB, List.getD_eq_getElem?_getD, List.getElem?_eq_getElem hjs, Option.getD_some]
                    generalize strOf n S[j] = sx at *
                    have HST := Lib.hid hstep
                    clear hbj hjs H6 hstep
                    cases hmb : metB n S sr j
                    · rw [hmb] at HST
                      cases heq : (sx.toList == sr.toList)
                      all_goals
                        rw [heq] at HST
                        go_wp2
                        go_roundg (sl - (j + 1))
                        case measure => omega
                        case rel => exact ⟨j + 1, by omega, by go_num, by rw [HST.out]; rfl, by first | exact HBJ.out | exact below_drewN HBJ.out _⟩
                    · rw [hmb] at HST
                      go_wp2
                      go_roundg (sl - (j + 1))
                      case measure => omega
                      case rel => exact ⟨j + 1, by omega, by go_num, by rw [HST.out]; rfl, by first | exact HBJ.out | exact below_drewN HBJ.out _⟩
                  · obtain rfl : j = sl := by omega
                    rw [HMET.out]
                    have hji : ¬ (j : Int) < (j : Int) := by omega
                    clear hbj
                    go_wp2_with fail
                    refine (HOR.out _).mono ?_
                    rintro e w7 ⟨rfl, hb7⟩
                    have HB7 := Lib.hid (HBJ.out.trans (hb7.mono HBJ.out.size))
                    have h0m := HMM.out
                    have h00 : ((0 : Int) != 0) = false := by simp
                    have hm1 : ((m : Int) == 0) = false := by rw [beq_eq_false_iff_ne]; omega
                    have hm2 : ¬ ((m : Int) = 0) := by omega
                    clear hb7
                    go_wp2
                    go_roundg (k - (i + 1))
                    case measure => omega
                    case rel => exact ⟨i + 1, by omega, by go_num, by first | exact HB7.out | exact below_drewN HB7.out _⟩
              · obtain rfl : i = k := by omega
                have hii : ¬ (i : Int) < (i : Int) := by omega
                have HB := Lib.hid (HB5.out.trans (HBI.out.mono HB5.out.size))
                clear hbi HBI HFF HCC HC5 HC0 H5 HT5 HB5 HK5 HFN HMOD HFLE HFL HSL2 HK
                go_wp2_with fail
                refine (DrawIsGroup_any a2 l2 c2 z2 _ (HZ2.out.belowW HB.out) HL2.out).mono ?_
                rintro e y1 ⟨M, qv, hm8, hms, rfl, qt, yb1⟩
                have hmx : ∀ l ∈ M, l.length ≤ maxLen := fun l hl => by have := hms l hl; unfold maxLen; omega
                have DI := Lib.hid (fun u w h => iIsGroup_any u M w h (by omega) hmx)
                have DS := Lib.hid (fun u w h => sIsGroup_any u M w h (by omega) hmx)
                have YB1 := Lib.hid (HB.out.trans (yb1.mono HB.out.size))
                have Q1 := Lib.hid qt
                generalize isG M = ig at *
                generalize riseB M = ir at *
                clear qt yb1 hm8 hms hmx HB
                go_wp2_with fail
                refine (DI.out _ _ Q1.out).mono ?_
                rintro e y2 ⟨rfl, yb2⟩
                have YB2 := Lib.hid (YB1.out.trans (yb2.mono YB1.out.size))
                have Q2 := Lib.hid (Q1.out.kept yb2)
                clear yb2 YB1 Q1 DI
                go_wp2_with fail
                refine (DS.out _ _ Q2.out).mono ?_
                rintro e y3 ⟨rfl, yb3⟩
                have YB3 := Lib.hid (YB2.out.trans (yb3.mono YB2.out.size))
                clear yb3 YB2 Q2 DS
                go_wp2_with fail
                refine (DrawGoodRows_any a2 l2 c2 z2 _ (HZ2.out.belowW YB3.out) HL2.out).mono ?_
                rintro e y4 ⟨R, rv, r7, rs, rfl, rn, yb4⟩
                have hrx : ∀ l ∈ R, l.length ≤ maxLen := fun l hl => by have := rs l hl; unfold maxLen; omega
                have GI := Lib.hid (fun w h => iGoodRows_any rv R w h (by omega) hrx)
                have GS := Lib.hid (fun w h => sGoodRows_any rv R w h (by omega) hrx)
                have YB4 := Lib.hid (YB3.out.trans (yb4.mono YB3.out.size))
                have R4 := Lib.hid rn.own.txts
                generalize listB R = lb at *
                clear rn yb4 r7 rs hrx YB3
                cases ig
                all_goals cases ir
                all_goals cases lb
                all_goals
                  go_wp2_with fail
                  refine (GI.out _ R4.out).mono ?_
                  rintro e y5 ⟨rfl, yb5⟩
                  have YB5 := Lib.hid (YB4.out.trans (yb5.mono YB4.out.size))
                  have R5 := Lib.hid (R4.out.kept yb5)
                  clear yb5
                  go_wp2_with fail
                  refine (GS.out _ R5.out).mono ?_
                  rintro e y6 ⟨rfl, yb6⟩
                  have YB6 := Lib.hid (YB5.out.trans (yb6.mono YB5.out.size))
                  clear yb6
                  go_wp2
                  go_ret
                  exact ⟨rfl, YB6.out⟩
      · have h130i : ¬ (sl : Int) ≤ 130 := by omega
        have HB := HB4
        clear HT4 H4 HB4 HF HCL HSL HK hF hSl h130 HVA
        go_wp2_with fail
        refine (DrawIsGroup_any a2 l2 c2 z2 _ (HZ2.out.belowW HB.out) HL2.out).mono ?_
        rintro e y1 ⟨M, qv, hm8, hms, rfl, qt, yb1⟩
        have hmx : ∀ l ∈ M, l.length ≤ maxLen := fun l hl => by have := hms l hl; unfold maxLen; omega
        have DI := Lib.hid (fun u w h => iIsGroup_any u M w h (by omega) hmx)
        have DS := Lib.hid (fun u w h => sIsGroup_any u M w h (by omega) hmx)
        have YB1 := Lib.hid (HB.out.trans (yb1.mono HB.out.size))
        have Q1 := Lib.hid qt
        generalize isG M = ig at *
        generalize riseB M = ir at *
        clear qt yb1 hm8 hms hmx HB
        go_wp2_with fail
        refine (DI.out _ _ Q1.out).mono ?_
        rintro e y2 ⟨rfl, yb2⟩
        have YB2 := Lib.hid (YB1.out.trans (yb2.mono YB1.out.size))
        have Q2 := Lib.hid (Q1.out.kept yb2)
        clear yb2 YB1 Q1 DI
        go_wp2_with fail
        refine (DS.out _ _ Q2.out).mono ?_
        rintro e y3 ⟨rfl, yb3⟩
        have YB3 := Lib.hid (YB2.out.trans (yb3.mono YB2.out.size))
        clear yb3 YB2 Q2 DS
        go_wp2_with fail
        refine (DrawGoodRows_any a2 l2 c2 z2 _ (HZ2.out.belowW YB3.out) HL2.out).mono ?_
        rintro e y4 ⟨R, rv, r7, rs, rfl, rn, yb4⟩
        have hrx : ∀ l ∈ R, l.length ≤ maxLen := fun l hl => by have := rs l hl; unfold maxLen; omega
        have GI := Lib.hid (fun w h => iGoodRows_any rv R w h (by omega) hrx)
        have GS := Lib.hid (fun w h => sGoodRows_any rv R w h (by omega) hrx)
        have YB4 := Lib.hid (YB3.out.trans (yb4.mono YB3.out.size))
        have R4 := Lib.hid rn.own.txts
        generalize listB R = lb at *
        clear rn yb4 r7 rs hrx YB3
        cases ig
        all_goals cases ir
        all_goals cases lb
        all_goals
          go_wp2_with fail
          refine (GI.out _ R4.out).mono ?_
          rintro e y5 ⟨rfl, yb5⟩
          have YB5 := Lib.hid (YB4.out.trans (yb5.mono YB4.out.size))
          have R5 := Lib.hid (R4.out.kept yb5)
          clear yb5
          go_wp2_with fail
          refine (GS.out _ R5.out).mono ?_
          rintro e y6 ⟨rfl, yb6⟩
          have YB6 := Lib.hid (YB5.out.trans (yb6.mono YB5.out.size))
          clear yb6
          go_wp2
          go_ret
          exact ⟨rfl, YB6.out⟩
end Go.Proofs.Ytapcfojnljnoaaa
