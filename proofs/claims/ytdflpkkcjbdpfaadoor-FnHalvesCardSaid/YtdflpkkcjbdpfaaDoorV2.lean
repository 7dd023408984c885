/- The model's reader of place notation: a block. -/
import Derived.Test.YtdflpkkcjbdpfaaDoorV1
namespace Go.Proofs.YtdflpkkcjbdpfaaDoor
open Go.RowKit
set_option linter.unusedSimpArgs false

/-- the reader's state while no change was wrong -/
def GS (b B n : Nat) (s : ByteArray) (p : Nat) (v : Value) (acc : List (List Nat)) (w W : World) : Prop := Rm W b n s p v (-1) ∧ Keep B b w W ∧ New B W 9 v (strs acc)
theorem GS.drewN {b B n : Nat} {s : ByteArray} {p : Nat} {v : Value} {acc : List (List Nat)} {w W : World} (h : GS b B n s p v acc w W) (k : Nat) : GS b B n s p v acc w (W.drewN k) := ⟨RowAt.drewN h.1 k, h.2.1.drewN k, h.2.2.drewN k⟩
theorem GS.next {b B n : Nat} {s : ByteArray} {p : Nat} {v : Value} {acc : List (List Nat)} {w W : World} (h : GS b B n s p v acc w W) (hb : b < B) : GS b B n s (p + 1) v acc w (W.setCell ⟨b, 2, none⟩ (.int .i64 ((p : Int) + 1))) := ⟨h.1.next, h.2.1.set 2 _, h.2.2.set hb 2 _⟩
/-- behind a change there is no digit, unless the change is - or x -/
def MaxD (s : ByteArray) (p : Nat) : Prop := p < s.size → isX (dg s (p - 1)) = true ∨ isD (dg s p) = false
theorem maxD_word {n : Nat} {s : ByteArray} {p : Nat} (h : wordP n (lets s) p ≠ []) : MaxD s (p + spanW ((lets s).drop p)) := by
  intro hlt
  have hpos := spanW_pos h
  have hp : p < s.size := by omega
  rw [drop_lets s p hp] at hpos hlt ⊢
  by_cases hx : isX (dg s p) = true
  · have e : spanW (dg s p :: (lets s).drop (p + 1)) = 1 := by
      show (if isX (dg s p) = true then 1 else spanD _) = 1
      rw [hx]; rfl
    rw [e]
    left
    simpa using hx
  · have e : spanW (dg s p :: (lets s).drop (p + 1)) = spanD (dg s p :: (lets s).drop (p + 1)) := by
      show (if isX (dg s p) = true then 1 else spanD (dg s p :: _)) = _
      rw [if_neg hx]
    rw [e] at hlt ⊢
    right
    have hsd := spanD_next (dg s p :: (lets s).drop (p + 1)) (by simp [lets_len]; omega)
    rw [← drop_lets s p hp] at hsd hlt ⊢
    have : ((lets s).drop p).getD (spanD ((lets s).drop p)) 0 = dg s (p + spanD ((lets s).drop p)) := by
      rw [List.getD_eq_getElem?_getD, List.getElem?_drop, ← List.getD_eq_getElem?_getD, getD_lets s _ hlt]
    rw [this] at hsd
    exact hsd
theorem wordP_none {n : Nat} {s : ByteArray} {p : Nat} (hp : p < s.size) (hx : isX (dg s p) = false) (hd : isD (dg s p) = false) : wordP n (lets s) p = [] := by
  unfold wordP
  have e : spanW ((lets s).drop p) = 0 := by
    rw [drop_lets s p hp]
    show (if isX (dg s p) = true then 1 else spanD (dg s p :: _)) = 0
    rw [hx, spanD, hd]
    rfl
  rw [if_pos e]

/-- a block is read, or its first wrong change is told -/
def BkRes (b B n : Nat) (s : ByteArray) (r : Blk) (w : World) (e : Ending) (w' : World) : Prop :=
  e = .returned (.tuple #[]) ∧ Keep B b w w' ∧ ∃ v', match r with
  | .error q => ∃ p', p' ≤ s.size ∧ Rm w' b n s p' v' q
  | .ok (cs, p) => New B w' 9 v' (strs cs) ∧ Rm w' b n s p v' (-1)

set_option maxRecDepth 100000 in
set_option maxHeartbeats 1000000 in
theorem sblock_in (n : Nat) (h3 : 3 ≤ n) (h8 : n ≤ 8) (b B : Nat) (s : ByteArray) (p : Nat) (v : Value) (w : World) (hs : s.size ≤ 1000) (hp : p ≤ s.size) (hbB : b < B) (hBw : B ≤ w.heap.size) (hv : New B w 9 v (strs [])) (h : Rm w b n s p v (-1)) :
    Calls Tryd.prog 50 #[.pointer (some ⟨b, 0, none⟩)] w (BkRes b B n s (blockP n (lets s) p) w) := by
  have HW : Hid (∀ W q u acc, q ≤ s.size → acc.length ≤ 1000 → GS b B n s q u acc w W → Calls Tryd.prog 69 #[.pointer (some ⟨b, 0, none⟩)] W (WdRes b B n s q acc W)) := Lib.hid (fun W q u acc hq ha hg => word_in n h3 h8 b B s q acc u W hs hq ha hbB (Nat.le_trans hBw hg.2.1.size) hg.2.2 hg.1)
  have HLL := Lib.hid (lets_len s)
  have hbp : blockP n (lets s) p = if wordP n (lets s) p = [] then .error p else Blk.cat [wordP n (lets s) p] (moreP n (lets s) (lets s).length (p + spanW ((lets s).drop p))) := rfl
  have HSP := Lib.hid (spanW_in (lets s) p (by rw [lets_len]; exact hp))
  have HPS := Lib.hid (spanW_pos (n := n) (L := lets s) (p := p))
  generalize blockP n (lets s) p = res at *
  have HBP := Lib.hid hbp
  have HG : Hid (GS b B n s p v [] w w) := Lib.hid ⟨h, Keep.refl _ _ _, hv⟩
  have hsi : (s.size : Int) ≤ 1000 := by omega
  clear hbp h hv
  go_enter Tryd.func50, Tryd.ntmps50
  go_wp2_with fail
  refine (HW.out _ p v [] hp (by simp) HG.out).mono ?_
  rintro e w1 ⟨rfl, hk1, v1, hif⟩
  have HST : Hid ((∃ acc p' v', Blk.cat acc (moreP n (lets s) (lets s).length p') = res ∧ 0 < p' ∧ p' ≤ s.size ∧ s.size < p' + (lets s).length ∧ acc.length ≤ p' ∧ MaxD s p' ∧ GS b B n s p' v' acc w w1) ∨ (∃ e p' v', res = .error e ∧ p' ≤ s.size ∧ Rm w1 b n s p' v' (e : Nat) ∧ Keep B b w w1)) := Lib.hid (by
    by_cases hw : wordP n (lets s) p = []
    · rw [if_pos hw] at hif
      obtain ⟨p', hp', hr'⟩ := hif
      have hbp := HBP.out
      rw [if_pos hw] at hbp
      exact .inr ⟨p, p', v1, hbp, hp', hr', hk1⟩
    · rw [if_neg hw] at hif
      have hbp := HBP.out
      rw [if_neg hw] at hbp
      have h1 := HPS.out hw
      have h2 := HSP.out
      rw [HLL.out] at h2
      exact .inl ⟨[wordP n (lets s) p], _, v1, hbp.symm, by omega, h2, by rw [HLL.out]; omega, by simp; omega, maxD_word hw, hif.2, hk1, by simpa using hif.1⟩)
  clear hif hk1 HG HSP HPS HBP
  go_wp2
  go_loopg [] (lets s).length (fun q wr => (∃ acc p' v', Blk.cat acc (moreP n (lets s) q p') = res ∧ 0 < p' ∧ p' ≤ s.size ∧ s.size < p' + q ∧ acc.length ≤ p' ∧ MaxD s p' ∧ GS b B n s p' v' acc w wr) ∨ (∃ e p' v', res = .error e ∧ p' ≤ s.size ∧ Rm wr b n s p' v' (e : Nat) ∧ Keep B b w wr))
  case atStart => exact HST.out
  case round =>
    clear HST
    rcases hrel with ⟨acc, p', v', hf, hp0, hps, hq, hal, hmx, hgs⟩ | ⟨e, p', v', hres, hps, hrm, hkp⟩
    · obtain ⟨f, rfl⟩ : ∃ f, gk = f + 1 := ⟨gk - 1, by omega⟩
      have HF := Lib.hid hf
      have HQ := Lib.hid hq
      have HAL := Lib.hid hal
      have HMX := Lib.hid hmx
      have HG := Lib.hid hgs
      have c1 := hgs.1.cell 1 rfl
      have c2 := hgs.1.cell 2 rfl
      have c4 := hgs.1.cell 4 rfl
      clear hf hq hal hmx hgs
      by_cases hlt : p' < s.size
      · have hd1 : decide ((p' : Int) < s.size) = true := by rw [decide_eq_true_eq]; omega
        have hpl : (p' : Int) < s.size := by omega
        have hdg : s[p'].toNat = dg s p' := by simp [dg, hlt]
        obtain ⟨m, hm⟩ : ∃ m, p' - 1 = m := ⟨_, rfl⟩
        have hmi : (p' : Int) - 1 = m := by omega
        have hml : m < s.size := by omega
        have hmls : (m : Int) < s.size := by omega
        have hdm : s[m].toNat = dg s m := by simp [dg, hml]
        have HGD := Lib.hid (getD_lets s p' hlt)
        have HMX2 := Lib.hid (by have := HMX.out hlt; rw [hm] at this; exact this)
        obtain ⟨c, hc⟩ : ∃ c, dg s p' = c := ⟨_, rfl⟩
        obtain ⟨l, hl⟩ : ∃ l, dg s m = l := ⟨_, rfl⟩
        rw [hc] at hdg HGD HMX2
        rw [hl] at hdm HMX2
        have HC := Lib.hid hc
        clear hc hl hm HMX
        by_cases h44 : c = 44
        · have e44 : ((c : Int) == 44) = true := by rw [beq_iff_eq]; omega
          have HRES : Hid (res = .ok (acc, p')) := Lib.hid (by rw [← HF.out, moreP_stop n (lets s) f p' (.inr (by rw [HGD.out]; exact h44))]; simp [Blk.cat])
          clear h44
          go_wp2
          go_quiet (fail)
          go_wp2
          first | go_end0 | refine bodyPost_ret (results_none rfl _ _ _) rfl ?_
          rw [HRES.out]
          exact ⟨rfl, HG.out.2.1.drewN _, v', HG.out.2.2.drewN _, RowAt.drewN HG.out.1 _⟩
        · have e44 : ((c : Int) == 44) = false := by rw [beq_eq_false_iff_ne]; omega
          have HNS : Hid (¬ ((lets s).length ≤ p' ∨ (lets s).getD p' 0 = 44)) := Lib.hid (fun h9 => by
            rcases h9 with h9 | h9
            · rw [HLL.out] at h9; omega
            · rw [HGD.out] at h9; exact h44 h9)
          clear h44
          go_wp2
          go_quiet (fail)
          go_wp2
          have HG2 := Lib.hid (HG.out.drewN nq)
          clear c1 c2 c4 HG
          generalize wr.drewN nq = w2 at *
          have c1 := HG2.out.1.cell 1 rfl
          have c2 := HG2.out.1.cell 2 rfl
          go_quiet (fail)
          go_wp2
          have HG3 := Lib.hid (HG2.out.drewN nq)
          clear c1 c2 HG2
          generalize w2.drewN nq = w3 at *
          have c1 := HG3.out.1.cell 1 rfl
          have c2 := HG3.out.1.cell 2 rfl
          have c4 := HG3.out.1.cell 4 rfl
          have f2 : ∀ k, (w3.drewN k).frozen? ⟨b, 2, none⟩ = false := fun k => RowAt.free (RowAt.drewN HG3.out.1 k) 2
          have f4 : ∀ k, (w3.drewN k).frozen? ⟨b, 4, none⟩ = false := fun k => RowAt.free (RowAt.drewN HG3.out.1 k) 4
          by_cases h46 : c = 46
          · have e46 : ((c : Int) == 46) = true := by rw [beq_iff_eq]; omega
            obtain ⟨P, hP⟩ : ∃ P, p' + 1 = P := ⟨_, rfl⟩
            have HNP : Hid (P ≤ s.size ∧ p' ≤ P ∧ nextP (lets s) p' = P) := Lib.hid ⟨by omega, by omega, by unfold nextP; rw [HGD.out, if_pos h46]; exact hP⟩
            have HGP0 : Hid (∀ k, GS b B n s P v' acc w ((w3.drewN k).setCell ⟨b, 2, none⟩ (.int .i64 ((p' : Int) + 1)))) := Lib.hid (fun k => by rw [← hP]; exact (HG3.out.drewN k).next hbB)
            clear hP h46 HG3 c4 f4
            go_quiet (fail)
            have f3 := f2 nq
            go_wp2_with fail
            have HGP := Lib.hid (HGP0.out nq)
            generalize (w3.drewN nq).setCell ⟨b, 2, none⟩ (.int .i64 ((p' : Int) + 1)) = wP at *
            clear c1 c2 f2 f3 HGP0
            refine (HW.out _ P v' acc HNP.out.1 (by have := HAL.out; omega) HGP.out).mono ?_
            rintro e w6 ⟨rfl, hk6, v6, hif⟩
            have HST6 : Hid ((∃ acc p' v', Blk.cat acc (moreP n (lets s) f p') = res ∧ 0 < p' ∧ p' ≤ s.size ∧ s.size < p' + f ∧ acc.length ≤ p' ∧ MaxD s p' ∧ GS b B n s p' v' acc w w6) ∨ (∃ e p' v', res = .error e ∧ p' ≤ s.size ∧ Rm w6 b n s p' v' (e : Nat) ∧ Keep B b w w6)) := Lib.hid (by
              have hnp := HNP.out.2.2
              by_cases hw : wordP n (lets s) P = []
              · rw [if_pos hw] at hif
                obtain ⟨p6, hp6, hr6⟩ := hif
                rw [← hnp] at hw
                exact .inr ⟨P, p6, v6, by rw [← HF.out, moreP_bad n (lets s) f p' HNS.out hw, hnp]; rfl, hp6, hr6, HGP.out.2.1.trans hk6⟩
              · rw [if_neg hw] at hif
                have hw' := hw
                rw [← hnp] at hw'
                have hstep := moreP_go n (lets s) f p' HNS.out hw'
                rw [hnp] at hstep
                have hspos := spanW_pos hw
                have hsin := spanW_in (lets s) P (by rw [HLL.out]; exact HNP.out.1)
                rw [HLL.out] at hsin
                have hf := HF.out
                rw [hstep, Blk.cat_cat] at hf
                have h1 := HNP.out
                have h2 := HQ.out
                have h3 := HAL.out
                exact .inl ⟨acc ++ [wordP n (lets s) P], _, v6, hf, by omega, hsin, by omega, by simp; omega, maxD_word hw, hif.2, HGP.out.2.1.trans hk6, hif.1⟩)
            clear hif hk6 HGP HNP
            go_wp2
            go_roundg f
            case measure => omega
            case rel => exact HST6.out
          · have e46 : ((c : Int) == 46) = false := by rw [beq_eq_false_iff_ne]; omega
            obtain ⟨P, hP⟩ : ∃ P, p' = P := ⟨_, rfl⟩
            have HNP : Hid (P ≤ s.size ∧ p' ≤ P ∧ nextP (lets s) p' = P) := Lib.hid ⟨by omega, by omega, by unfold nextP; rw [HGD.out, if_neg h46]; exact hP⟩
            have HGP0 : Hid (∀ k, GS b B n s P v' acc w (w3.drewN k)) := Lib.hid (fun k => by rw [← hP]; exact HG3.out.drewN k)
            have HP := Lib.hid hP
            clear hP
            have hcase : c = 45 ∨ (c ≠ 45 ∧ c = 120) ∨ (c ≠ 45 ∧ c ≠ 120 ∧ l = 45) ∨ (c ≠ 45 ∧ c ≠ 120 ∧ l ≠ 45 ∧ l = 120) ∨ (c ≠ 45 ∧ c ≠ 120 ∧ l ≠ 45 ∧ l ≠ 120) := by omega
            rcases hcase with kA | ⟨kA, kB⟩ | ⟨kA, kB, kC⟩ | ⟨kA, kB, kC, kD⟩ | ⟨kA, kB, kC, kD⟩
            · have e1 : ((c : Int) == 45) = true := by rw [beq_iff_eq]; omega
              have ne1 : ((c : Int) != 45) = false := by rw [bne_eq_false_iff_eq]; omega
              clear kA h46 HG3 c4 f2 f4
              go_quiet (fail)
              go_wp2_with fail
              have HGP := Lib.hid (HGP0.out nq)
              generalize w3.drewN nq = wP at *
              clear c1 c2 HGP0
              refine (HW.out _ P v' acc HNP.out.1 (by have := HAL.out; omega) HGP.out).mono ?_
              rintro e w6 ⟨rfl, hk6, v6, hif⟩
              have HST6 : Hid ((∃ acc p' v', Blk.cat acc (moreP n (lets s) f p') = res ∧ 0 < p' ∧ p' ≤ s.size ∧ s.size < p' + f ∧ acc.length ≤ p' ∧ MaxD s p' ∧ GS b B n s p' v' acc w w6) ∨ (∃ e p' v', res = .error e ∧ p' ≤ s.size ∧ Rm w6 b n s p' v' (e : Nat) ∧ Keep B b w w6)) := Lib.hid (by
                have hnp := HNP.out.2.2
                by_cases hw : wordP n (lets s) P = []
                · rw [if_pos hw] at hif
                  obtain ⟨p6, hp6, hr6⟩ := hif
                  rw [← hnp] at hw
                  exact .inr ⟨P, p6, v6, by rw [← HF.out, moreP_bad n (lets s) f p' HNS.out hw, hnp]; rfl, hp6, hr6, HGP.out.2.1.trans hk6⟩
                · rw [if_neg hw] at hif
                  have hw' := hw
                  rw [← hnp] at hw'
                  have hstep := moreP_go n (lets s) f p' HNS.out hw'
                  rw [hnp] at hstep
                  have hspos := spanW_pos hw
                  have hsin := spanW_in (lets s) P (by rw [HLL.out]; exact HNP.out.1)
                  rw [HLL.out] at hsin
                  have hf := HF.out
                  rw [hstep, Blk.cat_cat] at hf
                  have h1 := HNP.out
                  have h2 := HQ.out
                  have h3 := HAL.out
                  exact .inl ⟨acc ++ [wordP n (lets s) P], _, v6, hf, by omega, hsin, by omega, by simp; omega, maxD_word hw, hif.2, HGP.out.2.1.trans hk6, hif.1⟩)
              clear hif hk6 HGP HNP
              go_wp2
              go_roundg f
              case measure => omega
              case rel => exact HST6.out
            · have e1 : ((c : Int) == 45) = false := by rw [beq_eq_false_iff_ne]; omega
              have ne1 : ((c : Int) != 45) = true := by rw [bne_iff_ne]; omega
              have e2 : ((c : Int) == 120) = true := by rw [beq_iff_eq]; omega
              have ne2 : ((c : Int) != 120) = false := by rw [bne_eq_false_iff_eq]; omega
              clear kA kB h46 HG3 c4 f2 f4
              go_quiet (fail)
              go_wp2_with fail
              have HGP := Lib.hid (HGP0.out nq)
              generalize w3.drewN nq = wP at *
              clear c1 c2 HGP0
              refine (HW.out _ P v' acc HNP.out.1 (by have := HAL.out; omega) HGP.out).mono ?_
              rintro e w6 ⟨rfl, hk6, v6, hif⟩
              have HST6 : Hid ((∃ acc p' v', Blk.cat acc (moreP n (lets s) f p') = res ∧ 0 < p' ∧ p' ≤ s.size ∧ s.size < p' + f ∧ acc.length ≤ p' ∧ MaxD s p' ∧ GS b B n s p' v' acc w w6) ∨ (∃ e p' v', res = .error e ∧ p' ≤ s.size ∧ Rm w6 b n s p' v' (e : Nat) ∧ Keep B b w w6)) := Lib.hid (by
                have hnp := HNP.out.2.2
                by_cases hw : wordP n (lets s) P = []
                · rw [if_pos hw] at hif
                  obtain ⟨p6, hp6, hr6⟩ := hif
                  rw [← hnp] at hw
                  exact .inr ⟨P, p6, v6, by rw [← HF.out, moreP_bad n (lets s) f p' HNS.out hw, hnp]; rfl, hp6, hr6, HGP.out.2.1.trans hk6⟩
                · rw [if_neg hw] at hif
                  have hw' := hw
                  rw [← hnp] at hw'
                  have hstep := moreP_go n (lets s) f p' HNS.out hw'
                  rw [hnp] at hstep
                  have hspos := spanW_pos hw
                  have hsin := spanW_in (lets s) P (by rw [HLL.out]; exact HNP.out.1)
                  rw [HLL.out] at hsin
                  have hf := HF.out
                  rw [hstep, Blk.cat_cat] at hf
                  have h1 := HNP.out
                  have h2 := HQ.out
                  have h3 := HAL.out
                  exact .inl ⟨acc ++ [wordP n (lets s) P], _, v6, hf, by omega, hsin, by omega, by simp; omega, maxD_word hw, hif.2, HGP.out.2.1.trans hk6, hif.1⟩)
              clear hif hk6 HGP HNP
              go_wp2
              go_roundg f
              case measure => omega
              case rel => exact HST6.out
            · have e1 : ((c : Int) == 45) = false := by rw [beq_eq_false_iff_ne]; omega
              have ne1 : ((c : Int) != 45) = true := by rw [bne_iff_ne]; omega
              have e2 : ((c : Int) == 120) = false := by rw [beq_eq_false_iff_ne]; omega
              have ne2 : ((c : Int) != 120) = true := by rw [bne_iff_ne]; omega
              have e3 : ((l : Int) == 45) = true := by rw [beq_iff_eq]; omega
              have ne3 : ((l : Int) != 45) = false := by rw [bne_eq_false_iff_eq]; omega
              clear kA kB kC h46 HG3 c4 f2 f4
              go_quiet (fail)
              go_wp2_with fail
              have HGP := Lib.hid (HGP0.out nq)
              generalize w3.drewN nq = wP at *
              clear c1 c2 HGP0
              refine (HW.out _ P v' acc HNP.out.1 (by have := HAL.out; omega) HGP.out).mono ?_
              rintro e w6 ⟨rfl, hk6, v6, hif⟩
              have HST6 : Hid ((∃ acc p' v', Blk.cat acc (moreP n (lets s) f p') = res ∧ 0 < p' ∧ p' ≤ s.size ∧ s.size < p' + f ∧ acc.length ≤ p' ∧ MaxD s p' ∧ GS b B n s p' v' acc w w6) ∨ (∃ e p' v', res = .error e ∧ p' ≤ s.size ∧ Rm w6 b n s p' v' (e : Nat) ∧ Keep B b w w6)) := Lib.hid (by
                have hnp := HNP.out.2.2
                by_cases hw : wordP n (lets s) P = []
                · rw [if_pos hw] at hif
                  obtain ⟨p6, hp6, hr6⟩ := hif
                  rw [← hnp] at hw
                  exact .inr ⟨P, p6, v6, by rw [← HF.out, moreP_bad n (lets s) f p' HNS.out hw, hnp]; rfl, hp6, hr6, HGP.out.2.1.trans hk6⟩
                · rw [if_neg hw] at hif
                  have hw' := hw
                  rw [← hnp] at hw'
                  have hstep := moreP_go n (lets s) f p' HNS.out hw'
                  rw [hnp] at hstep
                  have hspos := spanW_pos hw
                  have hsin := spanW_in (lets s) P (by rw [HLL.out]; exact HNP.out.1)
                  rw [HLL.out] at hsin
                  have hf := HF.out
                  rw [hstep, Blk.cat_cat] at hf
                  have h1 := HNP.out
                  have h2 := HQ.out
                  have h3 := HAL.out
                  exact .inl ⟨acc ++ [wordP n (lets s) P], _, v6, hf, by omega, hsin, by omega, by simp; omega, maxD_word hw, hif.2, HGP.out.2.1.trans hk6, hif.1⟩)
              clear hif hk6 HGP HNP
              go_wp2
              go_roundg f
              case measure => omega
              case rel => exact HST6.out
            · have e1 : ((c : Int) == 45) = false := by rw [beq_eq_false_iff_ne]; omega
              have ne1 : ((c : Int) != 45) = true := by rw [bne_iff_ne]; omega
              have e2 : ((c : Int) == 120) = false := by rw [beq_eq_false_iff_ne]; omega
              have ne2 : ((c : Int) != 120) = true := by rw [bne_iff_ne]; omega
              have e3 : ((l : Int) == 45) = false := by rw [beq_eq_false_iff_ne]; omega
              have ne3 : ((l : Int) != 45) = true := by rw [bne_iff_ne]; omega
              have e4 : ((l : Int) == 120) = true := by rw [beq_iff_eq]; omega
              have ne4 : ((l : Int) != 120) = false := by rw [bne_eq_false_iff_eq]; omega
              clear kA kB kC kD h46 HG3 c4 f2 f4
              go_quiet (fail)
              go_wp2_with fail
              have HGP := Lib.hid (HGP0.out nq)
              generalize w3.drewN nq = wP at *
              clear c1 c2 HGP0
              refine (HW.out _ P v' acc HNP.out.1 (by have := HAL.out; omega) HGP.out).mono ?_
              rintro e w6 ⟨rfl, hk6, v6, hif⟩
              have HST6 : Hid ((∃ acc p' v', Blk.cat acc (moreP n (lets s) f p') = res ∧ 0 < p' ∧ p' ≤ s.size ∧ s.size < p' + f ∧ acc.length ≤ p' ∧ MaxD s p' ∧ GS b B n s p' v' acc w w6) ∨ (∃ e p' v', res = .error e ∧ p' ≤ s.size ∧ Rm w6 b n s p' v' (e : Nat) ∧ Keep B b w w6)) := Lib.hid (by
                have hnp := HNP.out.2.2
                by_cases hw : wordP n (lets s) P = []
                · rw [if_pos hw] at hif
                  obtain ⟨p6, hp6, hr6⟩ := hif
                  rw [← hnp] at hw
                  exact .inr ⟨P, p6, v6, by rw [← HF.out, moreP_bad n (lets s) f p' HNS.out hw, hnp]; rfl, hp6, hr6, HGP.out.2.1.trans hk6⟩
                · rw [if_neg hw] at hif
                  have hw' := hw
                  rw [← hnp] at hw'
                  have hstep := moreP_go n (lets s) f p' HNS.out hw'
                  rw [hnp] at hstep
                  have hspos := spanW_pos hw
                  have hsin := spanW_in (lets s) P (by rw [HLL.out]; exact HNP.out.1)
                  rw [HLL.out] at hsin
                  have hf := HF.out
                  rw [hstep, Blk.cat_cat] at hf
                  have h1 := HNP.out
                  have h2 := HQ.out
                  have h3 := HAL.out
                  exact .inl ⟨acc ++ [wordP n (lets s) P], _, v6, hf, by omega, hsin, by omega, by simp; omega, maxD_word hw, hif.2, HGP.out.2.1.trans hk6, hif.1⟩)
              clear hif hk6 HGP HNP
              go_wp2
              go_roundg f
              case measure => omega
              case rel => exact HST6.out
            · have e1 : ((c : Int) == 45) = false := by rw [beq_eq_false_iff_ne]; omega
              have ne1 : ((c : Int) != 45) = true := by rw [bne_iff_ne]; omega
              have e2 : ((c : Int) == 120) = false := by rw [beq_eq_false_iff_ne]; omega
              have ne2 : ((c : Int) != 120) = true := by rw [bne_iff_ne]; omega
              have e3 : ((l : Int) == 45) = false := by rw [beq_eq_false_iff_ne]; omega
              have ne3 : ((l : Int) != 45) = true := by rw [bne_iff_ne]; omega
              have e4 : ((l : Int) == 120) = false := by rw [beq_eq_false_iff_ne]; omega
              have ne4 : ((l : Int) != 120) = true := by rw [bne_iff_ne]; omega
              have HRES : Hid (res = .error p') := Lib.hid (by
                have hxc : isX (dg s p') = false := by rw [HC.out]; unfold isX; simp [kA, kB]
                have hxl : isX l = false := by unfold isX; simp [kC, kD]
                have hdc : isD (dg s p') = false := by
                  rcases HMX2.out with h9 | h9
                  · rw [hxl] at h9; cases h9
                  · rw [HC.out]; exact h9
                have hw := wordP_none (n := n) hlt hxc hdc
                have hnp := HNP.out.2.2
                rw [← HP.out] at hnp
                rw [← hnp] at hw
                rw [← HF.out, moreP_bad n (lets s) f p' HNS.out hw, hnp]
                rfl)
              clear kA kB kC kD h46
              go_quiet (fail)
              have f5 := f4 nq
              go_wp2
              first | go_end0 | refine bodyPost_ret (results_none rfl _ _ _) rfl ?_
              rw [HRES.out]
              exact ⟨rfl, (HG3.out.2.1.drewN _).set 4 _, v', p', hps, Rm.bads (RowAt.drewN HG3.out.1 _) _⟩
      · obtain rfl : p' = s.size := by omega
        have hd1 : decide ((s.size : Int) < s.size) = false := by rw [decide_eq_false_iff_not]; omega
        have HRES : Hid (res = .ok (acc, s.size)) := Lib.hid (by rw [← HF.out, moreP_stop n (lets s) f s.size (.inl (by rw [HLL.out]; exact Nat.le_refl _))]; simp [Blk.cat])
        clear hlt
        go_wp2
        go_quiet (fail)
        go_wp2
        first | go_end0 | refine bodyPost_ret (results_none rfl _ _ _) rfl ?_
        rw [HRES.out]
        exact ⟨rfl, HG.out.2.1.drewN _, v', HG.out.2.2.drewN _, RowAt.drewN HG.out.1 _⟩
    · have HRES := Lib.hid hres
      have HRM := Lib.hid hrm
      have HKP := Lib.hid hkp
      have c4 := hrm.cell 4 rfl
      have hd4 : decide ((e : Int) < 0) = false := by rw [decide_eq_false_iff_not]; omega
      clear hres hrm hkp
      go_wp2
      go_quiet (fail)
      go_wp2
      first | go_end0 | refine bodyPost_ret (results_none rfl _ _ _) rfl ?_
      rw [HRES.out]
      exact ⟨rfl, HKP.out.drewN _, v', p', hps, RowAt.drewN HRM.out _⟩
end Go.Proofs.YtdflpkkcjbdpfaaDoor
