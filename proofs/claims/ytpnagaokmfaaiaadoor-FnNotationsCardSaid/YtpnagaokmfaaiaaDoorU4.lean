/- The reader of place notation: a block. -/
import Derived.Test.YtpnagaokmfaaiaaDoorU3
import Derived.Test.YtpnagaokmfaaiaaDoorC3
namespace Go.Proofs.YtpnagaokmfaaiaaDoor
open Go.RowKit
set_option linter.unusedSimpArgs false

theorem Only.belowB {b : Nat} {w W W' : World} (h : Only b w W) (hb : Below w.heap.size W W') : Only b w W' :=
  ⟨hb.os.trans h.os, hb.tape.trans h.tape, hb.output.trans h.output, Nat.le_trans h.size hb.size, fun k hk hne => (hb.block k hk).trans (h.block k hk hne)⟩
theorem Rd.lt {W : World} {b : Nat} {n : Int} {s : ByteArray} {p : Nat} (h : Rd W b n s p) : b < W.heap.size := RowAt.lt h
theorem Rd.keep {B : Nat} {W W' : World} {b : Nat} {n : Int} {s : ByteArray} {p : Nat} (h : Rd W b n s p) (hb : Below B W W') (hlt : b < B) : Rd W' b n s p := RowAt.keep h hb hlt
theorem New.onlyU {B b : Nat} {W W' : World} {e : TypeId} {v : Value} {xs : List Value} (h : New B W e v xs) (hlt : b < B) (ho : Only b W W') : New B W' e v xs :=
  ⟨h.own.block fun g hg => ho.block g (h.own.lt g hg) (by have := h.base g hg; omega), h.base⟩
theorem getD_lets (s : ByteArray) (p : Nat) (hp : p < s.size) : (lets s).getD p 0 = dg s p := by
  rw [List.getD_eq_getElem?_getD, List.getElem?_eq_getElem (by rw [lets_len]; exact hp)]
  simp [lets]
def PanicAt (p : Nat) : Ending := .panicked [{ v := .iface 82 (.int .i64 p), recovered := false }]
/-- a block is read, or a panic tells where it is wrong -/
def BlkRes (b : Nat) (n : Nat) (s : ByteArray) (r : Blk) (w : World) (e : Ending) (w' : World) : Prop :=
  match r with
  | .error q => e = PanicAt q ∧ Only b w w'
  | .ok (cs, p) => ∃ v, e = .returned v ∧ New w.heap.size w' 9 v (strs cs) ∧ Rd w' b n s p ∧ Only b w w'
theorem seesB_one {s : ByteArray} {p c : Nat} : seesB s p [c] = (decide (p < s.size) && decide ((lets s).getD p 0 = c)) := by
  unfold seesB
  by_cases hp : p < s.size
  · rw [getD_lets s p hp]
    simp
  · simp [hp]
theorem spanW_pos {n : Nat} {L : List Nat} {p : Nat} (h : wordP n L p ≠ []) : 0 < spanW (L.drop p) := by
  rcases Nat.eq_zero_or_pos (spanW (L.drop p)) with h0 | h0
  · exact absurd (by unfold wordP; rw [if_pos h0]) h
  · exact h0
theorem spanW_in (L : List Nat) (p : Nat) (hp : p ≤ L.length) : p + spanW (L.drop p) ≤ L.length := by
  have := spanW_le (L.drop p)
  rw [List.length_drop] at this
  omega
theorem moreP_stop (n : Nat) (L : List Nat) (f p : Nat) (h : L.length ≤ p ∨ L.getD p 0 = 44) : moreP n L (f + 1) p = .ok ([], p) := by
  conv => lhs; unfold moreP
  rw [if_pos h]
theorem moreP_bad (n : Nat) (L : List Nat) (f p : Nat) (h : ¬ (L.length ≤ p ∨ L.getD p 0 = 44)) (hw : wordP n L (nextP L p) = []) : moreP n L (f + 1) p = .error (nextP L p) := by
  conv => lhs; unfold moreP
  rw [if_neg h, if_pos hw]
theorem moreP_go (n : Nat) (L : List Nat) (f p : Nat) (h : ¬ (L.length ≤ p ∨ L.getD p 0 = 44)) (hw : wordP n L (nextP L p) ≠ []) : moreP n L (f + 1) p = Blk.cat [wordP n L (nextP L p)] (moreP n L f (nextP L p + spanW (L.drop (nextP L p)))) := by
  conv => lhs; unfold moreP
  rw [if_neg h, if_neg hw]

set_option maxRecDepth 100000 in
set_option maxHeartbeats 1000000 in
theorem block_in (n : Nat) (h3 : 3 ≤ n) (h8 : n ≤ 8) (b : Nat) (s : ByteArray) (p : Nat) (w : World) (hs : s.size ≤ 1000) (hp : p ≤ s.size) (h : Rd w b n s p) :
    Calls Tryd.prog 77 #[.pointer (some ⟨b, 0, none⟩)] w (BlkRes b n s (blockP n (lets s) p) w) := by
  have HC : Hid (∀ W q, q ≤ s.size → Rd W b n s q → Calls Tryd.prog 84 #[.pointer (some ⟨b, 0, none⟩)] W (ChRes b n s q W)) := Lib.hid (fun W q hq hr => change_in n h3 h8 b s q W hs hq hr)
  have HDN : Hid (∀ W q, Rd W b n s q → Calls Tryd.prog 85 #[.pointer (some ⟨b, 0, none⟩)] W _) := Lib.hid (fun W q hr => done_any b n s q W hr)
  have HS1 : Hid (∀ W q, q ≤ s.size → Rd W b n s q → Calls Tryd.prog 78 #[.pointer (some ⟨b, 0, none⟩), .string (txt [44])] W _) := Lib.hid (fun W q hq hr => sees_any [44] (by simp) b n s q W hq hr)
  have HS2 : Hid (∀ W q, q ≤ s.size → Rd W b n s q → Calls Tryd.prog 78 #[.pointer (some ⟨b, 0, none⟩), .string (txt [46])] W _) := Lib.hid (fun W q hq hr => sees_any [46] (by simp) b n s q W hq hr)
  have hB : b < w.heap.size := h.lt
  have hll : (lets s).length = s.size := lets_len s
  have HLL := Lib.hid hll
  have hbp : blockP n (lets s) p = if wordP n (lets s) p = [] then .error p else Blk.cat [wordP n (lets s) p] (moreP n (lets s) (lets s).length (p + spanW ((lets s).drop p))) := rfl
  have HSP := Lib.hid (spanW_in (lets s) p (by rw [hll]; exact hp))
  have HPS := Lib.hid (spanW_pos (n := n) (L := lets s) (p := p))
  generalize blockP n (lets s) p = res at *
  have HBP := Lib.hid hbp
  have HR := Lib.hid h
  obtain ⟨i0, hi0, hz0, hz1, hz2⟩ := info_parts infoText
  have I0 := Lib.hid (⟨hi0, hz0, hz1, hz2⟩ : _ ∧ _ ∧ _ ∧ _)
  clear hbp h hll hi0 hz0 hz1 hz2
  go_enter Tryd.func77, Tryd.ntmps77
  go_wp2_with fail
  refine (HC.out _ p hp HR.out).mono ?_
  rintro e w1 ⟨hon, hif⟩
  by_cases hw : wordP n (lets s) p = []
  · rw [if_pos hw] at hif
    have hbp := HBP.out
    rw [if_pos hw] at hbp
    have HRES := Lib.hid hbp
    subst hif
    exact ⟨rfl, by rw [HRES.out]; exact ⟨rfl, hon⟩⟩
  · rw [if_neg hw] at hif
    obtain ⟨rfl, hrd⟩ := hif
    have hbp := HBP.out
    rw [if_neg hw] at hbp
    have HRES := Lib.hid hbp
    have hsp := HPS.out hw
    have HQ : Hid (0 < p + spanW ((lets s).drop p) ∧ p + spanW ((lets s).drop p) ≤ s.size) := Lib.hid (by have := HSP.out; rw [HLL.out] at this; omega)
    have HX := Lib.hid (wordP_good n (lets s) p hw)
    clear hw hbp HPS HSP HBP hsp
    generalize p + spanW ((lets s).drop p) = p1 at *
    generalize wordP n (lets s) p = x at *
    have HLIT : Hid (New w.heap.size (w1.alloc (.cells #[.string (txt x)] 9)) 9 (.slice (some ⟨w1.heap.size, 0, none⟩) 1 1) (strs [x])) := Lib.hid ⟨Own.lit w1 9 [.string (txt x)] (by simp [Value.oneCell']), fun g hg => by simp [Value.ownBlock] at hg; have := hon.size; omega⟩
    have HRD : Hid (Rd (w1.alloc (.cells #[.string (txt x)] 9)) b n s p1) := Lib.hid (RowAt.push hrd _)
    have HON : Hid (Only b w (w1.alloc (.cells #[.string (txt x)] 9))) := Lib.hid (hon.trans (Only.of_below ((Below.refl _ w1).alloc (Nat.le_refl _) _)))
    clear hrd hon HR
    go_wp2
    go_loopg [3] (lets s).length (fun q v wr => ∃ acc p', Blk.cat acc (moreP n (lets s) q p') = res ∧ 0 < p' ∧ p' ≤ s.size ∧ s.size < p' + q ∧ acc.length ≤ p' ∧ New w.heap.size wr 9 v (strs acc) ∧ Rd wr b n s p' ∧ Only b w wr)
    case atStart => exact ⟨[x], p1, HRES.out.symm, HQ.out.1, HQ.out.2, by have := HQ.out; have := HLL.out; omega, by have := HQ.out; simp; omega, HLIT.out, HRD.out, HON.out⟩
    case round =>
      clear HRES HLIT HRD HON HQ HX
      obtain ⟨acc, p', hf, hp0, hps, hq, hal, hnew, hrd, hon⟩ := hrel
      obtain ⟨f, rfl⟩ : ∃ f, gk = f + 1 := ⟨gk - 1, by omega⟩
      have HF := Lib.hid hf
      have HQ := Lib.hid hq
      have HAL := Lib.hid hal
      have HN := Lib.hid hnew
      have HRD := Lib.hid hrd
      have HON := Lib.hid hon
      clear hf hq hal hnew hrd hon
      go_wp2_with fail
      refine (HDN.out _ p' HRD.out).mono ?_
      rintro e w2 ⟨rfl, k2, hk2⟩
      have HN2 : Hid (New w.heap.size w2 9 u3 (strs acc)) := Lib.hid (by rw [hk2]; exact HN.out.drewN _)
      have HRD2 : Hid (Rd w2 b n s p') := Lib.hid (by rw [hk2]; exact RowAt.drewN HRD.out _)
      have HON2 : Hid (Only b w w2) := Lib.hid (by rw [hk2]; exact HON.out.drewN _)
      clear hk2 HN HRD HON
      by_cases hend : p' = s.size
      · have hd : decide (p' = s.size) = true := decide_eq_true hend
        have HRES : Hid (res = .ok (acc, p')) := Lib.hid (by rw [← HF.out, moreP_stop n (lets s) f p' (.inl (by rw [HLL.out]; omega))]; simp [Blk.cat])
        rw [hd]
        clear hend hd
        go_wp2
        go_ret
        rw [HRES.out]
        exact ⟨_, rfl, HN2.out, HRD2.out, HON2.out⟩
      · have hd : decide (p' = s.size) = false := decide_eq_false hend
        have hlt : p' < s.size := by omega
        rw [hd]
        clear hd hend
        go_wp2_with fail
        refine (HS1.out _ p' hps HRD2.out).mono ?_
        rintro e w3 ⟨rfl, k3, hk3⟩
        have HN3 : Hid (New w.heap.size w3 9 u3 (strs acc)) := Lib.hid (by rw [hk3]; exact HN2.out.drewN _)
        have HRD3 : Hid (Rd w3 b n s p') := Lib.hid (by rw [hk3]; exact RowAt.drewN HRD2.out _)
        have HON3 : Hid (Only b w w3) := Lib.hid (by rw [hk3]; exact HON2.out.drewN _)
        clear hk3 HN2 HRD2 HON2
        rw [seesB_one, decide_eq_true hlt, Bool.true_and]
        by_cases hcm : (lets s).getD p' 0 = 44
        · have hd : decide ((lets s).getD p' 0 = 44) = true := decide_eq_true hcm
          have HRES : Hid (res = .ok (acc, p')) := Lib.hid (by rw [← HF.out, moreP_stop n (lets s) f p' (.inr hcm)]; simp [Blk.cat])
          rw [hd]
          clear hcm hd
          go_wp2
          go_ret
          rw [HRES.out]
          exact ⟨_, rfl, HN3.out, HRD3.out, HON3.out⟩
        · have hd : decide ((lets s).getD p' 0 = 44) = false := decide_eq_false hcm
          have HNS : Hid (¬ ((lets s).length ≤ p' ∨ (lets s).getD p' 0 = 44)) := Lib.hid (fun h9 => by
            rcases h9 with h9 | h9
            · rw [HLL.out] at h9; omega
            · exact hcm h9)
          rw [hd]
          clear hd hcm
          go_wp2_with fail
          refine (HS2.out _ p' hps HRD3.out).mono ?_
          rintro e w4 ⟨rfl, k4, hk4⟩
          have HN4 : Hid (New w.heap.size w4 9 u3 (strs acc)) := Lib.hid (by rw [hk4]; exact HN3.out.drewN _)
          have HRD4 : Hid (Rd w4 b n s p') := Lib.hid (by rw [hk4]; exact RowAt.drewN HRD3.out _)
          have HON4 : Hid (Only b w w4) := Lib.hid (by rw [hk4]; exact HON3.out.drewN _)
          clear hk4 HN3 HRD3 HON3
          rw [seesB_one, decide_eq_true hlt, Bool.true_and]
          have c2 := HRD4.out.cell 2 rfl
          have f2 := HRD4.out.free 2
          have hpi : (p' : Int) ≤ 1000 := by omega
          by_cases hdot : (lets s).getD p' 0 = 46
          · have hd : decide ((lets s).getD p' 0 = 46) = true := decide_eq_true hdot
            have hnp : nextP (lets s) p' = p' + 1 := by unfold nextP; rw [if_pos hdot]
            have HN5 : Hid (New w.heap.size (w4.setCell ⟨b, 2, none⟩ (.int .i64 ((p' : Int) + 1))) 9 u3 (strs acc)) := Lib.hid (HN4.out.onlyU hB (Only.set w4 2 _))
            have HRD5 : Hid (Rd (w4.setCell ⟨b, 2, none⟩ (.int .i64 ((p' : Int) + 1))) b n s (nextP (lets s) p')) := Lib.hid (by rw [hnp]; exact HRD4.out.next)
            have HON5 : Hid (Only b w (w4.setCell ⟨b, 2, none⟩ (.int .i64 ((p' : Int) + 1)))) := Lib.hid (HON4.out.setInt _)
            have HNP : Hid (nextP (lets s) p' ≤ s.size ∧ p' ≤ nextP (lets s) p') := Lib.hid (by rw [hnp]; omega)
            rw [hd]
            clear hd hdot hnp HN4 HRD4 HON4
            go_wp2_with fail
            generalize w4.setCell ⟨b, 2, none⟩ (.int .i64 ((p' : Int) + 1)) = w5 at *
            clear c2 f2
            refine (HC.out _ (nextP (lets s) p') HNP.out.1 HRD5.out).mono ?_
            rintro e w6 ⟨hon6, hif⟩
            by_cases hw : wordP n (lets s) (nextP (lets s) p') = []
            · rw [if_pos hw] at hif
              have HRES : Hid (res = .error (nextP (lets s) p')) := Lib.hid (by rw [← HF.out, moreP_bad n (lets s) f p' HNS.out hw]; rfl)
              subst hif
              exact ⟨rfl, by rw [HRES.out]; exact ⟨rfl, HON5.out.trans hon6⟩⟩
            · rw [if_neg hw] at hif
              obtain ⟨rfl, hrd6⟩ := hif
              have hstep := moreP_go n (lets s) f p' HNS.out hw
              have hspos := spanW_pos hw
              have hsin := spanW_in (lets s) (nextP (lets s) p') (by rw [HLL.out]; exact HNP.out.1)
              rw [HLL.out] at hsin
              have hf := HF.out
              rw [hstep, Blk.cat_cat] at hf
              have HF6 := Lib.hid hf
              have HNP6 : Hid (p' < nextP (lets s) p' + spanW ((lets s).drop (nextP (lets s) p')) ∧ nextP (lets s) p' + spanW ((lets s).drop (nextP (lets s) p')) ≤ s.size) := Lib.hid (by have := HNP.out; omega)
              have HN6 := Lib.hid (HN5.out.onlyU hB hon6)
              have HRD6 := Lib.hid hrd6
              have HON6 := Lib.hid (HON5.out.trans hon6)
              clear hw hstep hspos hsin hf hrd6 hon6 HF HN5 HRD5 HON5 HNP HNS
              generalize nextP (lets s) p' + spanW ((lets s).drop (nextP (lets s) p')) = p6 at *
              generalize wordP n (lets s) (nextP (lets s) p') = y at *
              have hal9 : (strs acc).length ≤ 100000 := by rw [strs_len]; have := HAL.out; omega
              go_wp2_with (at_builtin; refine wpList_app1 rfl (.tmp 24) (.tmp 27) 24 rfl 9 i0 (.string ⟨#[]⟩) 16 Tryd.underlying24 I0.out.1 I0.out.2.1 I0.out.2.2.1 I0.out.2.2.2 rfl w.heap.size _ _ (strs acc) rfl HN6.out rfl rfl HON6.out.size (Below.refl _ _) hal9 (by omega) ?_)
              intro v7 w7 hn7 _ hb7 _
              rw [strs_snoc] at hn7
              have HN7 := Lib.hid hn7
              have HRD7 := Lib.hid (HRD6.out.keep hb7 hB)
              have HON7 := Lib.hid (HON6.out.belowB hb7)
              clear hn7 hb7 HN6 HRD6 HON6
              go_wp2
              go_roundg f
              case measure => omega
              case rel => exact ⟨acc ++ [y], p6, HF6.out, by have := HNP6.out; omega, HNP6.out.2, by have := HNP6.out; have := HQ.out; omega, by have := HNP6.out; have := HAL.out; simp; omega, HN7.out, HRD7.out, HON7.out⟩
          · have hd : decide ((lets s).getD p' 0 = 46) = false := decide_eq_false hdot
            have hnp : nextP (lets s) p' = p' := by unfold nextP; rw [if_neg hdot]
            have HN5 := HN4
            have HRD5 : Hid (Rd w4 b n s (nextP (lets s) p')) := Lib.hid (by rw [hnp]; exact HRD4.out)
            have HON5 := HON4
            have HNP : Hid (nextP (lets s) p' ≤ s.size ∧ p' ≤ nextP (lets s) p') := Lib.hid (by rw [hnp]; omega)
            rw [hd]
            clear hd hdot hnp HN4 HRD4 HON4 c2 f2
            go_wp2_with fail
            generalize w4 = w5 at *
            refine (HC.out _ (nextP (lets s) p') HNP.out.1 HRD5.out).mono ?_
            rintro e w6 ⟨hon6, hif⟩
            by_cases hw : wordP n (lets s) (nextP (lets s) p') = []
            · rw [if_pos hw] at hif
              have HRES : Hid (res = .error (nextP (lets s) p')) := Lib.hid (by rw [← HF.out, moreP_bad n (lets s) f p' HNS.out hw]; rfl)
              subst hif
              exact ⟨rfl, by rw [HRES.out]; exact ⟨rfl, HON5.out.trans hon6⟩⟩
            · rw [if_neg hw] at hif
              obtain ⟨rfl, hrd6⟩ := hif
              have hstep := moreP_go n (lets s) f p' HNS.out hw
              have hspos := spanW_pos hw
              have hsin := spanW_in (lets s) (nextP (lets s) p') (by rw [HLL.out]; exact HNP.out.1)
              rw [HLL.out] at hsin
              have hf := HF.out
              rw [hstep, Blk.cat_cat] at hf
              have HF6 := Lib.hid hf
              have HNP6 : Hid (p' < nextP (lets s) p' + spanW ((lets s).drop (nextP (lets s) p')) ∧ nextP (lets s) p' + spanW ((lets s).drop (nextP (lets s) p')) ≤ s.size) := Lib.hid (by have := HNP.out; omega)
              have HN6 := Lib.hid (HN5.out.onlyU hB hon6)
              have HRD6 := Lib.hid hrd6
              have HON6 := Lib.hid (HON5.out.trans hon6)
              clear hw hstep hspos hsin hf hrd6 hon6 HF HN5 HRD5 HON5 HNP HNS
              generalize nextP (lets s) p' + spanW ((lets s).drop (nextP (lets s) p')) = p6 at *
              generalize wordP n (lets s) (nextP (lets s) p') = y at *
              have hal9 : (strs acc).length ≤ 100000 := by rw [strs_len]; have := HAL.out; omega
              go_wp2_with (at_builtin; refine wpList_app1 rfl (.tmp 24) (.tmp 27) 24 rfl 9 i0 (.string ⟨#[]⟩) 16 Tryd.underlying24 I0.out.1 I0.out.2.1 I0.out.2.2.1 I0.out.2.2.2 rfl w.heap.size _ _ (strs acc) rfl HN6.out rfl rfl HON6.out.size (Below.refl _ _) hal9 (by omega) ?_)
              intro v7 w7 hn7 _ hb7 _
              rw [strs_snoc] at hn7
              have HN7 := Lib.hid hn7
              have HRD7 := Lib.hid (HRD6.out.keep hb7 hB)
              have HON7 := Lib.hid (HON6.out.belowB hb7)
              clear hn7 hb7 HN6 HRD6 HON6
              go_wp2
              go_roundg f
              case measure => omega
              case rel => exact ⟨acc ++ [y], p6, HF6.out, by have := HNP6.out; omega, HNP6.out.2, by have := HNP6.out; have := HQ.out; omega, by have := HNP6.out; have := HAL.out; simp; omega, HN7.out, HRD7.out, HON7.out⟩
end Go.Proofs.YtpnagaokmfaaiaaDoor
