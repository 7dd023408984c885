/- RowsOf in the model, the function. -/
import Derived.Test.YtpfnamiacagocaaI6
namespace Go.Proofs.Ytpfnamiacagocaa
open Go.RowKit
set_option linter.unusedSimpArgs false
set_option linter.unusedVariables false

theorem allIn_fail {xs : List Int} {lo hi : Int} (h : allIn xs lo hi = false) : ∃ i, i < xs.length ∧ ¬ (lo ≤ gx xs i ∧ gx xs i ≤ hi) := by
  unfold allIn at h
  rw [List.all_eq_false] at h
  obtain ⟨i, hi, h⟩ := h
  exact ⟨i, List.mem_range.1 hi, by simpa using h⟩
theorem rowI_txt {F : List (List Int)} {n i : Nat} (hn : F.length = n) (hc : colB F i = true) : strOf n (fill (cF F n i) (fun _ => 0) n) = txt (rowI F i) := by
  have h := colB_row hc
  unfold rowI
  rw [txt_rowL]
  subst hn
  exact strOf_congr (fun j hj => fill_inv h (fun _ => 0) j hj)

set_option maxRecDepth 100000 in
set_option maxHeartbeats 1000000 in
theorem sRowsOf_any (v : Value) (F : List (List Int)) (w : World) (h : LLI w v F) (hl : F.length ≤ 2000000) (hm : ∀ k, (lk F k).length ≤ 100000000) :
    Calls Try.prog 27 #[v] w (TextsAny (rowsT F) (rowsB F) w) := by
  obtain ⟨n, hn⟩ : ∃ n, F.length = n := ⟨_, rfl⟩
  have HL := Lib.hid h
  obtain ⟨a, cap, rfl, -⟩ := id h
  have hni : (n : Int) ≤ 2000000 := by omega
  have HIN := Lib.hid (fun x a b w => l1In_any x a b w)
  obtain ⟨res, hres⟩ : ∃ b, rowsB F = b := ⟨_, rfl⟩
  obtain ⟨out, hout⟩ : ∃ o, rowsT F = o := ⟨_, rfl⟩
  rw [hres, hout]
  have HON : Hid (res = false → out = []) := Lib.hid (fun h => by rw [← hout]; unfold rowsT; rw [hres, h]; rfl)
  by_cases hst : 3 ≤ n ∧ n ≤ 8
  · obtain ⟨h3, h8⟩ := hst
    obtain ⟨m, hll⟩ : ∃ m, (lk F 0).length = m := ⟨_, rfl⟩
    have hb : rowsB F = (eqB F && colsB F) := by
      unfold rowsB
      rw [hn, decide_eq_true h3, decide_eq_true h8]
      rfl
    have HOY : Hid (res = true → out = (List.range m).map (rowI F)) := Lib.hid (fun h => by rw [← hout, ← hll]; unfold rowsT; rw [hres, h]; rfl)
    have HEQ : Hid (∀ k, k < n → ¬ ((lk F k).length = m ∧ 1 ≤ (lk F k).length ∧ (lk F k).length ≤ 800) → res = false) := Lib.hid (fun k hk h => by
      rw [← hres, hb, eqB_no (by rw [hn]; exact hk) (by rw [hll]; exact h)]; rfl)
    have HCN : Hid (∀ i, i < m → colB F i = false → res = false) := Lib.hid (fun i hi h => by
      rw [← hres, hb, colsB_no (by rw [hll]; exact hi) h, Bool.and_false])
    have HRG : Hid (∀ k, k < n → (lk F k).length = m → allIn (lk F k) 1 n = false → res = false) := Lib.hid (fun k hk he h => by
      obtain ⟨i, hi, hno⟩ := allIn_fail h
      refine HCN.out i (by omega) (colB_no (fun hr => hno ?_))
      rw [hn] at hr
      exact col_range hr hk)
    have HY : Hid (1 ≤ m → m ≤ 800 → (∀ k, k < n → (lk F k).length = m) → (∀ i, i < m → colB F i = true) → res = true) := Lib.hid (fun h1 h2 h3 h4 => by
      rw [← hres, hb, eqB_yes (fun k hk => by rw [hn] at hk; rw [h3 k hk, hll]; exact ⟨rfl, h1, h2⟩), colsB_yes (by rw [hll]; exact h4)]; rfl)
    have HN0 := Lib.hid hn
    have HM := Lib.hid hm
    have HLL := Lib.hid hll
    rw [hn] at h ⊢
    have hmi : (m : Int) ≤ 100000000 := by have := hm 0; omega
    obtain ⟨i0, hi0, hz0, hz1, hz2⟩ := info_parts infoText
    have I0 := Lib.hid (⟨hi0, hz0, hz1, hz2⟩ : _ ∧ _ ∧ _ ∧ _)
    obtain ⟨i8, hi8, hy0, hy1, hy2⟩ := info_parts infoByte
    have I8 := Lib.hid (⟨hi8, hy0, hy1, hy2⟩ : _ ∧ _ ∧ _ ∧ _)
    have h0n : (0 : Int) < (n : Int) := by omega
    have hr0 : (0 : Int) ≤ (0 : Int) := by omega
    have d3 : decide (3 ≤ (n : Int)) = true := by rw [decide_eq_true_eq]; omega
    have d8 : decide ((n : Int) ≤ 8) = true := by rw [decide_eq_true_eq]; omega
    clear hi0 hz0 hz1 hz2 hi8 hy0 hy1 hy2 hb hres hout hl
    have H0 : Hid (∀ wr, Below w.heap.size w wr → ∃ ad a0 k0, a = some ad ∧ wr.cell? ad = some (.slice a0 m k0)) := Lib.hid (fun wr hb => by
      obtain ⟨a', cap', hv, ha⟩ := HL.out.kept hb
      injection hv with e1 e2 e3
      subst e1 e3
      obtain ⟨ad, rfl, had, hc⟩ := ha (by have := HN0.out; omega)
      obtain ⟨u0, c0, hu0⟩ := hc 0 (by have := HN0.out; omega)
      obtain ⟨a0, k0, rfl, -⟩ := hu0
      refine ⟨ad, a0, k0, rfl, ?_⟩
      have e0 : ad.add 0 = ad := by
        rcases ad with ⟨b, o, x⟩
        unfold Addr.add
        split <;> simp_all
      rw [e0, HLL.out] at c0
      exact c0)
    have HPK : Hid (∀ wr, Below w.heap.size w wr → ∃ ad : Addr, a = some ad ∧ ∀ k, k < n → ∃ a1 k1, wr.cell? (ad.add k) = some (.slice a1 (lk F k).length k1) ∧ ArgI wr (.slice a1 (lk F k).length k1) (lk F k)) := Lib.hid (fun wr hb => by
      obtain ⟨a', cap', hv, ha⟩ := HL.out.kept hb
      injection hv with e1 e2 e3
      subst e1 e3
      obtain ⟨ad, rfl, had, hc⟩ := ha (by have := HN0.out; omega)
      refine ⟨ad, rfl, fun k hk => ?_⟩
      obtain ⟨u, c1, hu⟩ := hc k (by have := HN0.out; omega)
      obtain ⟨a1, k1, rfl, -⟩ := id hu
      exact ⟨a1, k1, c1, hu⟩)
    clear h hn hm hll HL
    obtain ⟨ad, a0, k0, rfl, c00⟩ := H0.out w (Below.refl _ _)
    by_cases hml : 1 ≤ m ∧ m ≤ 800
    · have hm1 : (1 : Int) ≤ (m : Int) := by omega
      have hm8 : (m : Int) ≤ 800 := by omega
      have e1 : decide (1 ≤ (m : Int)) = true := by rw [decide_eq_true_eq]; exact hm1
      have e8 : decide ((m : Int) ≤ 800) = true := by rw [decide_eq_true_eq]; exact hm8
      have HY2 := Lib.hid (HY.out hml.1 hml.2)
      have q1 : (decide (3 ≤ (n : Int)) && decide ((n : Int) ≤ 8)) = true := by rw [d3, d8]; rfl
      have q2 : (decide (1 ≤ (m : Int)) && decide ((m : Int) ≤ 800)) = true := by rw [e1, e8]; rfl
      clear HY hml d3 d8 e1 e8
      go_enter Try.func27, Try.ntmps27
      go_wp2_with (first | (go_at_call 77; refine (HIN.out _ _ _ _).mono ?_; rintro e w1 ⟨rfl, rfl⟩; first | rw [q1] | rw [q2]) | fail)
      clear c00
      go_loopg [6, 27] n (fun q _ x wr => ∃ j : Nat, q + j = n ∧ x = .int .i64 j ∧ (∀ t, t < j → (lk F t).length = m ∧ allIn (lk F t) 1 n = true) ∧ w = wr)
      case atStart => exact ⟨0, by omega, rfl, fun t ht => absurd ht (by omega), rfl⟩
      case round =>
        obtain ⟨j, hq, rfl, hok, rfl⟩ := hrel
        have HOK := Lib.hid hok
        clear hok
        by_cases hlt : j < n
        · have hji : (j : Int) < n := by omega
          obtain ⟨ad', hva, hpk⟩ := HPK.out w (Below.refl _ _)
          injection hva with hva
          subst hva
          obtain ⟨a1, k1, c1, hu⟩ := hpk j hlt
          clear hpk
          obtain ⟨a0', k0', c00⟩ : ∃ a0 k0, w.cell? ad = some (.slice a0 m k0) := by
            obtain ⟨ad', a0, k0, hv, c⟩ := H0.out w (Below.refl _ _)
            injection hv with hv
            subst hv
            exact ⟨a0, k0, c⟩
          have hmj := HM.out j
          have HA := Lib.hid (fun w hu => l1AllA_any (.slice a1 (lk F j).length k1) (lk F j) 1 n w hu hmj)
          have HU := Lib.hid hu
          have HEJ := Lib.hid (HEQ.out j hlt)
          have HRJ := Lib.hid (HRG.out j hlt)
          have HUP : Hid ((lk F j).length = m → allIn (lk F j) 1 n = true → ∀ t, t < j + 1 → (lk F t).length = m ∧ allIn (lk F t) 1 n = true) := Lib.hid (fun h1 h2 t ht => by
            by_cases e : t = j
            · rw [e]; exact ⟨h1, h2⟩
            · exact HOK.out t (by omega))
          obtain ⟨lj, hlj⟩ : ∃ lj, (lk F j).length = lj := ⟨_, rfl⟩
          obtain ⟨bj, hbj⟩ : ∃ bj, allIn (lk F j) 1 n = bj := ⟨_, rfl⟩
          rw [hlj] at c1 HU HA HEJ HUP HRJ hmj
          rw [hbj] at HA HUP HRJ
          clear hu hlj hbj
          have hmji : (lj : Int) ≤ 100000000 := by omega
          by_cases hq1 : lj = m
          · have e1 : ((lj : Int) != (m : Int)) = false := by rw [bne_eq_false_iff_eq]; omega
            cases bj
            · have hr := HRJ.out hq1 rfl
              have ho := HON.out hr
              subst hr
              subst ho
              clear hq1
              go_wp2_with (first | (go_at_call 78; refine (HA.out _ HU.out).mono ?_; rintro e w2 ⟨rfl, rfl⟩) | fail)
              go_ret2
              exact ⟨_, rfl, New.nil _ _ _, Below.refl _ _⟩
            · have HUP2 := Lib.hid (HUP.out hq1 rfl)
              clear hq1
              go_wp2_with (first | (go_at_call 78; refine (HA.out _ HU.out).mono ?_; rintro e w2 ⟨rfl, rfl⟩) | fail)
              go_roundg (n - (j + 1))
              case measure => omega
              case rel => exact ⟨j + 1, by omega, by go_num, HUP2.out, rfl⟩
          · have e1 : ((lj : Int) != (m : Int)) = true := by rw [bne_iff_ne]; omega
            have hr := HEJ.out (fun h => hq1 h.1)
            have ho := HON.out hr
            subst hr
            subst ho
            clear hq1
            go_wp2
            go_ret2
            exact ⟨_, rfl, New.nil _ _ _, Below.refl _ _⟩
        · obtain rfl : j = n := by omega
          have HY3 := Lib.hid (HY2.out (fun k hk => (HOK.out k hk).1))
          have HOL : Hid (∀ k, k < j → (lk F k).length = m ∧ ∀ i, i < m → 1 ≤ pl F k i ∧ pl F k i ≤ j) := Lib.hid (fun k hk => by
            obtain ⟨h1, h2⟩ := HOK.out k hk
            exact ⟨h1, fun i hi => allIn_at h2 (by rw [h1]; exact hi)⟩)
          clear HY2 HOK HEQ HRG
          obtain ⟨a0', k0', c00⟩ : ∃ a0 k0, w.cell? ad = some (.slice a0 m k0) := by
            obtain ⟨ad', a0, k0, hv, c⟩ := H0.out w (Below.refl _ _)
            injection hv with hv
            subst hv
            exact ⟨a0, k0, c⟩
          go_wp2
          clear c00
          go_loopg [7, 49] m (fun q ov x wr => ∃ i : Nat, q + i = m ∧ x = .int .i64 i ∧ (∀ t, t < i → colB F t = true) ∧ New w.heap.size wr 9 ov (strs ((List.range i).map (rowI F))) ∧ Below w.heap.size w wr)
          case atStart => exact ⟨0, by omega, rfl, fun t ht => absurd ht (by omega), New.nil _ _ _, Below.refl _ _⟩
          case round =>
            clear H0
            obtain ⟨i, hq, rfl, hok, hnw, hb⟩ := hrel
            have HOK := Lib.hid hok
            have HN := Lib.hid hnw
            have HB := Lib.hid hb
            have hsz : w.heap.size ≤ wr.heap.size := hb.size
            obtain ⟨a9, c9, hv9, -⟩ := hnw.own.view
            subst hv9
            clear hok hnw hb
            by_cases hlti : i < m
            · have hii : (i : Int) < m := by omega
              generalize wr = W1 at *
              have HR : Hid (∀ k, k < j → 1 ≤ pl F k i ∧ pl F k i ≤ j) := Lib.hid (fun k hk => (HOL.out k hk).2 i hlti)
              have HLE : Hid (∀ k, k < j → (lk F k).length = m) := Lib.hid (fun k hk => (HOL.out k hk).1)
              obtain ⟨cf0, hcf⟩ : ∃ f, cF F j i = f := ⟨_, rfl⟩
              have HCF : Hid (∀ k, k < j → ∃ c : Nat, pl F k i = (c : Int) + 1 ∧ c < j ∧ cf0 k - 49 = c) := Lib.hid (fun k hk => by
                obtain ⟨h1, h2⟩ := HR.out k hk
                refine ⟨(pl F k i - 1).toNat, by omega, by omega, ?_⟩
                rw [← hcf]
                exact cF_minus hk (by omega))
              have HFR : Hid (goodB (strOf j (fill cf0 (fun _ => 0) j)) = colB F i) := Lib.hid (by
                rw [← hcf]
                have := fill_row (F := F) (i := i) (by rw [HN0.out]; exact h3) (by rw [HN0.out]; exact h8) (by rw [HN0.out]; exact HR.out)
                rw [HN0.out] at this
                exact this)
              have HTX : Hid (colB F i = true → strOf j (fill cf0 (fun _ => 0) j) = txt (rowI F i)) := Lib.hid (fun h => by
                rw [← hcf]; exact rowI_txt HN0.out h)
              clear hcf
              go_wp2_with (first | (at_make; refine wpList_make_full _ rfl _ _ 22 rfl W1.heap.size 5 i8 (.int .u8 0) 1 Try.underlying22 I8.out.1 I8.out.2.1 I8.out.2.2.1 .i64 .i64 _ _ j rfl rfl rfl rfl (by rw [I8.out.2.2.2]; omega) (by unfold maxLen; omega) (Nat.le_refl _) ?_) | fail)
              intro w2 hown hgrow
              have HB2 := Lib.hid ((Below.refl _ W1).grown hgrow (Nat.le_refl _) (fun k hk => by cases hk))
              have HN2 : Hid (New W1.heap.size w2 5 (.slice (some ⟨W1.heap.size, 0, none⟩) j j) (bytN j (fill cf0 (fun _ => 0) 0))) := Lib.hid (by
                have := hown
                rw [toList_madeCells_one] at this
                have e0 : List.replicate j (Value.int .u8 0) = bytN j (fill cf0 (fun _ => 0) 0) := by
                  apply List.ext_getElem
                  · simp [bytN]
                  · intro i h1 h2
                    simp [bytN, fill]
                rw [e0] at this
                exact New.of_owns this (bytN_len _ _))
              clear hown hgrow
              go_wp2
              go_loopg [56] j (fun q x wq => ∃ k : Nat, q + k = j ∧ x = .int .i64 k ∧ New W1.heap.size wq 5 (.slice (some ⟨W1.heap.size, 0, none⟩) j j) (bytN j (fill cf0 (fun _ => 0) k)) ∧ Below W1.heap.size W1 wq)
              case atStart => exact ⟨0, by omega, rfl, HN2.out, HB2.out⟩
              case round =>
                clear HN2 HB2
                obtain ⟨k, hqk, rfl, hn, hbl⟩ := hrel
                have HNK := Lib.hid hn
                have HBK := Lib.hid hbl
                clear hn hbl
                by_cases hltk : k < j
                · have hki : (k : Int) < j := by omega
                  have hbw : Below w.heap.size w wr := HB.out.trans (HBK.out.mono hsz)
                  obtain ⟨ad', hva, hpk⟩ := HPK.out wr hbw
                  injection hva with hva
                  subst hva
                  obtain ⟨a1, k1, c1, hu⟩ := hpk k hltk
                  rw [HLE.out k hltk] at c1 hu
                  have hlk := HLE.out k hltk
                  obtain ⟨a1', k1', hv1, ha1⟩ := hu
                  rw [hlk] at hv1 ha1
                  injection hv1 with q1 q2 q3
                  subst q1 q3
                  obtain ⟨ad1, rfl, had1, hc1⟩ := ha1 (by omega)
                  obtain ⟨c, hcx, hcn, hcf⟩ := HCF.out k hltk
                  have c2 : wr.cell? (ad1.add i) = some (.int .i64 ((c : Int) + 1)) := by
                    have := hc1 i hlti
                    rw [show gx (lk F k) i = pl F k i from rfl, hcx] at this
                    exact this
                  have hcn' : (c : Int) < j := by omega
                  have hc0 : (0 : Int) ≤ (c : Int) := by omega
                  have hcw : IntKind.i64.wrap ((c : Int) + 1 - 1) = (c : Int) := by rw [Int.add_sub_cancel]; exact Go.IntWalk.i64_in _ ⟨by omega, by omega⟩
                  obtain ⟨old, hold⟩ : ∃ u, (bytN j (fill cf0 (fun _ => 0) k))[c]? = some u := ⟨_, List.getElem?_eq_getElem (by rw [bytN_len]; exact hcn)⟩
                  have c5 : wr.cell? ⟨W1.heap.size, c, none⟩ = some old := HNK.out.own.cell c _ hold
                  have f5 : wr.frozen? ⟨W1.heap.size, c, none⟩ = false := HNK.out.own.free c
                  have hu8 : IntKind.u8.wrap (49 + (k : Int)) = ((49 + k : Nat) : Int) := by
                    rw [show (49 : Int) + k = ((49 + k : Nat) : Int) by omega]
                    simp [IntKind.wrap, IntKind.bits]
                    omega
                  have hk49 : IntKind.i64.wrap (49 + (k : Int)) = 49 + (k : Int) := Go.IntWalk.i64_in _ ⟨by omega, by omega⟩
                  have HN6 : Hid (New W1.heap.size (wr.setCell ⟨W1.heap.size, c, none⟩ (.int .u8 (49 + k : Nat))) 5 (.slice (some ⟨W1.heap.size, 0, none⟩) j j) (bytN j (fill cf0 (fun _ => 0) (k + 1)))) := Lib.hid (by
                    have e : bytN j (fill cf0 (fun _ => 0) (k + 1)) = (bytN j (fill cf0 (fun _ => 0) k)).set c (.int .u8 (49 + k : Nat)) := by
                      rw [bytN_set _ _ _ _ hcn]
                      show bytN j (setF (fill cf0 (fun _ => 0) k) (cf0 k - 49) (49 + k)) = _
                      rw [hcf]
                    rw [e]
                    exact ⟨(show Own wr 5 _ _ from HNK.out.own).set c _, HNK.out.base⟩)
                  have HB6 : Hid (Below W1.heap.size W1 (wr.setCell ⟨W1.heap.size, c, none⟩ (.int .u8 (49 + k : Nat)))) := Lib.hid (HBK.out.setCell (p := ⟨W1.heap.size, c, none⟩) (Nat.le_refl _) _)
                  clear hpk hc1 hold hcx hcf hlk ha1 hbw HNK HBK
                  go_wp2
                  go_roundg (j - (k + 1))
                  case measure => omega
                  case rel => exact ⟨k + 1, by omega, by go_num, HN6.out, HB6.out⟩
                · obtain rfl : k = j := by omega
                  obtain ⟨fl, hfl⟩ : ∃ f, fill cf0 (fun _ => 0) k = f := ⟨_, rfl⟩
                  rw [hfl] at HNK HFR HTX
                  have hconv := conv_dig wr W1.heap.size k k fl (fun i hi => HNK.out.own.cell i _ (bytN_at hi))
                  have HROW := Lib.hid (fun w => l1Row_any (strOf k fl) (by rw [strOf_size]; unfold maxLen; omega) w)
                  rw [HFR.out] at HROW
                  have HCV := Lib.hid (fun (W : World) (hb : Below wr.heap.size wr W) => conv_dig W W1.heap.size k k fl (fun i hi => (HNK.out.kept hb).own.cell i _ (bytN_at hi)))
                  have HBW := Lib.hid (HB.out.trans (HBK.out.mono hsz))
                  have HNW := Lib.hid (HN.out.kept HBK.out)
                  have hsw : w.heap.size ≤ wr.heap.size := HBW.out.size
                  clear hfl HNK HCF HR HLE
                  cases hcol : colB F i
                  · have hr := HCN.out i hlti hcol
                    have ho := HON.out hr
                    subst hr
                    subst ho
                    rw [hcol] at HROW
                    clear hcol
                    go_wp2_with fail
                    refine (HROW.out _).mono ?_
                    rintro e w5 ⟨rfl, hb5⟩
                    have HB5 := Lib.hid (HBW.out.trans (hb5.mono hsw))
                    clear hb5
                    go_wp2
                    go_ret2
                    exact ⟨_, rfl, New.nil _ _ _, HB5.out⟩
                  · have HTX2 := Lib.hid (HTX.out hcol)
                    have HOK2 : Hid (∀ t, t < i + 1 → colB F t = true) := Lib.hid (fun t ht => by
                      by_cases e : t = i
                      · rw [e]; exact hcol
                      · exact HOK.out t (by omega))
                    rw [hcol] at HROW
                    have HSN : Hid (strs ((List.range i).map (rowI F)) ++ [.string (strOf k fl)] = strs ((List.range (i + 1)).map (rowI F))) := Lib.hid (by rw [HTX2.out, upto_one, strs_snoc])
                    have hlen : (strs ((List.range i).map (rowI F))).length ≤ 100000 := by rw [strs_len, List.length_map, List.length_range]; omega
                    have HLEN := Lib.hid hlen
                    generalize (List.range i).map (rowI F) = acc at *
                    clear hcol hlen HTX
                    go_wp2_with fail
                    refine (HROW.out _).mono ?_
                    rintro e w5 ⟨rfl, hb5⟩
                    have HB5 := Lib.hid (HBW.out.trans (hb5.mono hsw))
                    have HN5 := Lib.hid (HNW.out.kept hb5)
                    have hconv5 := HCV.out w5 hb5
                    have hs5 := HB5.out.size
                    clear hb5 hconv
                    go_wp2_with (first | (at_builtin; refine wpList_app1 rfl (.tmp 76) (.tmp 79) 24 rfl 9 i0 (.string ⟨#[]⟩) 16 Try.underlying24 I0.out.1 I0.out.2.1 I0.out.2.2.1 I0.out.2.2.2 rfl w.heap.size w _ _ rfl HN5.out rfl rfl hs5 HB5.out HLEN.out (by omega) ?_) | fail)
                    intro v8 w8 hn8 hk8 hb8 hs8
                    rw [HSN.out] at hn8
                    have HN8 := Lib.hid hn8
                    have HB8 := Lib.hid hb8
                    clear hn8 hk8 hb8
                    go_wp2
                    go_roundg (m - (i + 1))
                    case measure => omega
                    case rel => exact ⟨i + 1, by omega, by go_num, HOK2.out, HN8.out, HB8.out⟩
            · obtain rfl : i = m := by omega
              have hr := HY3.out (fun t ht => HOK.out t ht)
              have ho := HOY.out hr
              subst hr
              generalize (List.range i).map (rowI F) = acc at *
              subst ho
              go_wp2
              go_ret2
              exact ⟨_, rfl, HN.out, HB.out⟩
    · have e2 : (decide (1 ≤ (m : Int)) && decide ((m : Int) ≤ 800)) = false := by
        cases h1 : decide (1 ≤ (m : Int))
        · rfl
        · cases h2 : decide ((m : Int) ≤ 800)
          · rfl
          · rw [decide_eq_true_eq] at h1 h2
            exact absurd ⟨by omega, by omega⟩ hml
      have q1 : (decide (3 ≤ (n : Int)) && decide ((n : Int) ≤ 8)) = true := by rw [d3, d8]; rfl
      have hr := HEQ.out 0 (by omega) (fun h => hml (by have := HLL.out; omega))
      have ho := HON.out hr
      subst hr
      subst ho
      clear HEQ HRG HCN HY HOY hml
      go_enter Try.func27, Try.ntmps27
      go_wp2_with (first | (go_at_call 77; refine (HIN.out _ _ _ _).mono ?_; rintro e w1 ⟨rfl, rfl⟩; first | rw [q1] | rw [e2]) | fail)
      go_ret2
      exact ⟨_, rfl, New.nil _ _ _, Below.refl _ _⟩
  · have e2 : (decide (3 ≤ (n : Int)) && decide ((n : Int) ≤ 8)) = false := by
      cases h1 : decide (3 ≤ (n : Int))
      · rfl
      · cases h2 : decide ((n : Int) ≤ 8)
        · rfl
        · rw [decide_eq_true_eq] at h1 h2
          exact absurd ⟨by omega, by omega⟩ hst
    have hr : res = false := by
      rw [← hres]
      unfold rowsB
      rw [hn]
      cases h1 : decide (3 ≤ n)
      · rfl
      · cases h2 : decide (n ≤ 8)
        · rfl
        · rw [decide_eq_true_eq] at h1 h2
          exact absurd ⟨h1, h2⟩ hst
    have ho := HON.out hr
    subst hr
    subst ho
    rw [hn]
    clear hst hres hout h hl hm HL hn HON
    go_enter Try.func27, Try.ntmps27
    go_wp2_with (first | (go_at_call 77; refine (HIN.out _ _ _ _).mono ?_; rintro e w1 ⟨rfl, rfl⟩; rw [e2]) | fail)
    go_ret2
    exact ⟨_, rfl, New.nil _ _ _, Below.refl _ _⟩
end Go.Proofs.Ytpfnamiacagocaa
