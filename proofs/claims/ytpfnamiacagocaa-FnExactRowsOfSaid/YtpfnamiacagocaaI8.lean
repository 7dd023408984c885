/- Laws over lists of lists of numbers: what they read, made anew, compared, marked. -/
import Derived.Test.YtpfnamiacagocaaI3
namespace Go.Proofs.Ytpfnamiacagocaa
open Go.RowKit
set_option linter.unusedSimpArgs false
set_option linter.unusedVariables false

set_option maxRecDepth 100000 in
set_option maxHeartbeats 1000000 in
theorem markIntS_huge (v : Value) (xs : List Int) (k : Int) (w : World) (h : Own w 3 v (ints xs)) (hb : xs.length ≤ 2000000) (hk0 : 0 ≤ k) (hk1 : k ≤ 9000000) :
    Calls Try.prog 48 #[v, .int .i64 k] w fun e w' => e = .returned (.int .i64 (k + xs.length)) ∧ Own w' 3 v (ints (marks k xs.length)) ∧ w.grownBy w' v.ownBlock := by
  obtain ⟨n, hn⟩ : ∃ n, xs.length = n := ⟨_, rfl⟩
  obtain ⟨a, cap, rfl, ha⟩ := h.viewI hn
  rw [hn] at hb ⊢
  have HO := Lib.hid h
  have HA := Lib.hid ha
  clear h ha
  have HN := Lib.hid hn
  clear hn
  go_enter Try.func48, Try.ntmps48
  go_wp2
  go_loopg [1, 5] n (fun q kk i wr => ∃ j : Nat, j ≤ n ∧ q + j = n ∧ i = .int .i64 j ∧ kk = .int .i64 (k + j) ∧ Own wr 3 (.slice a n cap) (ints (markTo k xs j)) ∧ w.grownBy wr (Value.slice a n cap).ownBlock)
  case atStart => exact ⟨0, Nat.zero_le _, rfl, rfl, by simp, by simpa [markTo, marks] using HO.out, ⟨rfl, rfl, rfl, Nat.le_refl _, fun _ _ _ => rfl⟩⟩
  case round =>
    obtain ⟨j, hj, hq, rfl, rfl, ho, hg⟩ := hrel
    have HQ := Lib.hid hq
    have HO2 := Lib.hid ho
    have HG := Lib.hid hg
    clear hq ho hg
    by_cases hlt : j < n
    · obtain ⟨g, rfl⟩ := HA.out (by omega)
      have c1 := HO2.out.cell j _ (ints_at (markTo k xs j) j (by rw [markTo_len k xs j (by rw [HN.out]; exact hj), HN.out]; exact hlt))
      have f1 := HO2.out.free j
      have hki : (j : Int) < n := by omega
      generalize (markTo k xs j)[j]'(by rw [markTo_len k xs j (by rw [HN.out]; exact hj), HN.out]; exact hlt) = x at c1
      go_wp2
      go_roundg (n - (j + 1))
      case measure => have := HQ.out; omega
      case rel =>
        refine ⟨j + 1, by omega, by have := HQ.out; omega, by go_num, by go_num, ?_, ?_⟩
        · have := HO2.out.set j (.int .i64 (k + j))
          rw [show (ints (markTo k xs j)).set j (.int .i64 (k + j)) = ints (markTo k xs (j + 1)) from by rw [← markTo_succ k xs j (by rw [HN.out]; exact hlt)]; simp [ints, List.map_set]] at this
          exact this
        · exact ⟨HG.out.os, HG.out.tape, HG.out.output, by simpa using HG.out.size, fun b hb hne => (Below.heap_setCell _ _ _ _ (fun e => hne (by simp [Value.ownBlock, e]))).trans (HG.out.block b hb hne)⟩
    · obtain rfl : j = n := by omega
      have hfin := HO2.out
      rw [← HN.out, markTo_all, HN.out] at hfin
      have HF := Lib.hid hfin
      clear hfin
      go_wp2
      go_ret
      exact ⟨rfl, HF.out, HG.out⟩

set_option maxRecDepth 100000 in
set_option maxHeartbeats 1000000 in
theorem eqIntSS_big (B B' : Nat) (v v' : Value) (vs vs' : List Value) (n : Nat) (F : Nat → List Int) (w : World) (h : Lists B w v vs n F) (h' : Lists B' w v' vs' n F) (hb : n ≤ 2000000) (hbi : ∀ i, i < n → (F i).length ≤ 2000000) :
    Calls Try.prog 50 #[v, v'] w fun e w' => e = .returned (.bool true) ∧ ∃ m, w' = w.drewN m := by
  obtain ⟨a, cap, rfl, ha⟩ := h.view
  obtain ⟨a', cap', rfl, ha'⟩ := h'.view
  have HL := Lib.hid h
  have HL' := Lib.hid h'
  have HA := Lib.hid ha
  have HA' := Lib.hid ha'
  have HBI := Lib.hid hbi
  clear h h' ha ha' hbi
  go_enter Try.func50, Try.ntmps50
  go_wp2
  go_loopg [5] n (fun q i wr => ∃ k : Nat, k ≤ n ∧ q + k = n ∧ i = .int .i64 k ∧ ∃ d, wr = w.drewN d)
  case atStart => exact ⟨0, Nat.zero_le _, rfl, rfl, 0, rfl⟩
  case round =>
    obtain ⟨k, hk, hq, rfl, hd⟩ := hrel
    have HD := Lib.hid hd
    have HQ := Lib.hid hq
    have L1 : Hid (Lists B wr (.slice a n cap) vs n F) := by obtain ⟨d, rfl⟩ := hd; exact HL.out.kept (below_drewN (Below.refl _ _) _)
    have L2 : Hid (Lists B' wr (.slice a' n cap') vs' n F) := by obtain ⟨d, rfl⟩ := hd; exact HL'.out.kept (below_drewN (Below.refl _ _) _)
    clear hq hd
    by_cases hlt : k < n
    · obtain ⟨g, rfl⟩ := HA.out (by omega)
      obtain ⟨g', rfl⟩ := HA'.out (by omega)
      have c1 := L1.out.outer.cell k _ (L1.out.at k hlt)
      have c2 := L2.out.outer.cell k _ (L2.out.at k hlt)
      have I1 := Lib.hid (L1.out.inner k hlt)
      have I2 := Lib.hid (L2.out.inner k hlt)
      have hki : (k : Int) < n := by omega
      obtain ⟨a1, cap1, e1, _⟩ := I1.out.viewI rfl
      obtain ⟨a2, cap2, e2, _⟩ := I2.out.viewI rfl
      rw [e1] at c1
      rw [e2] at c2
      have I1' : Hid (Own wr 3 (.slice a1 (F k).length cap1) (ints (F k))) := by rw [← e1]; exact I1
      have I2' : Hid (Own wr 3 (.slice a2 (F k).length cap2) (ints (F k))) := by rw [← e2]; exact I2
      clear e1 e2 I1 I2 L1 L2
      have hbk := HBI.out k hlt
      generalize hxk : F k = xk at c1 c2 I1' I2' hbk
      generalize hlk : xk.length = lk at c1 c2 I1' I2' hbk
      have HLK := Lib.hid hlk
      clear hlk hxk
      go_wp2
      go_quiet ((go_at_call 45; exact Calls.quiet_of (eqIntS_big _ _ xk _ I1'.out I2'.out (by rw [HLK.out]; exact hbk))))
      go_wp2
      go_roundg (n - (k + 1))
      case measure => have := HQ.out; omega
      case rel => exact ⟨k + 1, by omega, by have := HQ.out; omega, by go_num, (by obtain ⟨d, hd⟩ := HD.out; exact ⟨_, by rw [hd, World.drewN_drewN]⟩)⟩
    · obtain rfl : k = n := by omega
      go_wp2
      go_ret
      exact ⟨rfl, HD.out⟩

/-- what lies from block C on reads as it did -/
def KeptOver (C : Nat) (w w' : World) : Prop := ∀ e u ys, Own w e u ys → (∀ g, u.ownBlock = some g → C ≤ g) → Own w' e u ys
set_option maxRecDepth 100000 in
set_option maxHeartbeats 1000000 in
theorem markIntSS_big (B : Nat) (v : Value) (vs : List Value) (n : Nat) (F : Nat → List Int) (k : Int) (w : World) (h : Lists B w v vs n F) (hb : n ≤ 2000000) (hB : B ≤ w.heap.size) (hoff : offL (fun i => (F i).length) n ≤ 2000000) (C : Nat) (hC : ∀ i g, i < n → (vs.getD i nilV).ownBlock = some g → g < C) (hk0 : 0 ≤ k) (hk1 : k ≤ 1000) :
    Calls Try.prog 51 #[v, .int .i64 k] w fun e w' => e = .returned (.int .i64 (k + (offL (fun i => (F i).length) n : Nat))) ∧ Lists B w' v vs n (markF F k n) ∧ Below B w w' ∧ KeptOver C w w' := by
  have HCC := Lib.hid hC
  clear hC
  obtain ⟨a, cap, rfl, ha⟩ := h.view
  have HL := Lib.hid h
  have HA := Lib.hid ha
  have HOFF := Lib.hid hoff
  clear h ha
  generalize hLen : (fun i => (F i).length) = L at *
  have HLEN := Lib.hid hLen
  clear hLen
  go_enter Try.func51, Try.ntmps51
  go_wp2
  go_loopg [1, 5] n (fun q kk i wr => ∃ j : Nat, j ≤ n ∧ q + j = n ∧ i = .int .i64 j ∧ kk = .int .i64 (k + (offL L j : Nat)) ∧ Lists B wr (.slice a n cap) vs n (markF F k j) ∧ Below B w wr ∧ KeptOver C w wr)
  case atStart => exact ⟨0, Nat.zero_le _, rfl, rfl, by simp [offL], HL.out.congr (fun i _ => by simp [markF]), Below.refl _ _, fun _ _ _ h _ => h⟩
  case round =>
    obtain ⟨j, hj, hq, rfl, rfl, hl, hbel, hko⟩ := hrel
    have HK := Lib.hid hko
    clear hko
    have HQ := Lib.hid hq
    have HL2 := Lib.hid hl
    have HB := Lib.hid hbel
    clear hq hl hbel
    by_cases hlt : j < n
    · obtain ⟨g, rfl⟩ := HA.out (by omega)
      have c1 := HL2.out.outer.cell j _ (HL2.out.at j hlt)
      have I1 := HL2.out.inner j hlt
      have hmj : markF F k j j = F j := by simp [markF]
      rw [hmj] at I1
      have hlj : (F j).length = L j := by rw [← HLEN.out]
      obtain ⟨a1, cap1, e1, _⟩ := I1.viewI hlj
      rw [e1] at c1 I1
      have hoj : offL L j + L j ≤ 2000000 := Nat.le_trans (offL_mono L (show j + 1 ≤ n by omega)) HOFF.out
      have I1' := Lib.hid I1
      have E1 := Lib.hid e1
      have HLJ := Lib.hid hlj
      clear I1 e1 hlj hmj
      have hki : (j : Int) < n := by omega
      go_wp2_with fail
      refine (markIntS_huge (.slice a1 (L j) cap1) (F j) (k + (offL L j : Nat)) _ I1'.out (by rw [HLJ.out]; omega) (by omega) (by omega)).mono ?_
      rintro e w1 ⟨rfl, ho1, hg1⟩
      rw [HLJ.out] at ho1 ⊢
      have hl3 : Lists B w1 (.slice (some ⟨g, 0, none⟩) n cap) vs n (markF F k (j + 1)) := by
        refine HL2.out.turn j hlt (by rw [E1.out]; exact hg1) (by rw [E1.out]; simp only [markF, show j < j + 1 by omega, if_true, HLEN.out, HLJ.out]; exact ho1) (fun i hi hne => ?_)
        unfold markF
        by_cases h1 : i < j
        · rw [if_pos h1, if_pos (by omega)]
        · rw [if_neg h1, if_neg (by omega)]
      have hb3 : Below B w w1 := HB.out.grown hg1 (Nat.le_trans hB HB.out.size) (fun b hbk => HL2.out.ibase j b hlt (by rw [E1.out]; exact hbk))
      have hk3 : KeptOver C w w1 := fun e u ys h hb => (HK.out e u ys h hb).grown hg1 (fun g hg q => by
        have h1 := HCC.out j g hlt (by rw [E1.out]; exact q.symm)
        have h2 := hb g hg
        omega)
      have HK3 := Lib.hid hk3
      clear hk3
      have HL3 := Lib.hid hl3
      have HB3 := Lib.hid hb3
      clear hl3 hb3 ho1 hg1
      go_wp2
      go_roundg (n - (j + 1))
      case measure => have := HQ.out; omega
      case rel => exact ⟨j + 1, by omega, by have := HQ.out; omega, by go_num, by simp only [offL]; go_num, HL3.out, HB3.out, HK3.out⟩
    · obtain rfl : j = n := by omega
      go_wp2
      go_ret
      exact ⟨rfl, HL2.out, HB.out, HK.out⟩

def lens (F : List (List Int)) (k : Nat) : Nat := (lk F k).length
theorem grownBy_put (W : World) (b o : Nat) (v : Value) : W.grownBy (W.setCell ⟨b, o, none⟩ v) (some b) :=
  ⟨rfl, rfl, rfl, by simp, fun k _ hne => Below.heap_setCell W _ v k (fun e => hne (by simp [e]))⟩
/-- one inner slice, made behind all the others, put in its place -/
theorem Lists.put {B C g n cap : Nat} {W : World} {vs : List Value} {F : Nat → List Int} {cv : Value} {c : List Int} {k : Nat} (h : Lists B W (.slice (some ⟨g, 0, none⟩) n cap) vs n F) (hk : k < n)
    (hcv : New C W 3 cv (ints c)) (hBC : B ≤ C) (hlt : ∀ i g, i < n → (vs.getD i nilV).ownBlock = some g → g < C) :
    Lists B (W.setCell ⟨g, k, none⟩ cv) (.slice (some ⟨g, 0, none⟩) n cap) (vs.set k cv) n (fun i => if i = k then c else F i) := by
  have hlen := h.len
  have hat : ∀ i, (vs.set k cv).getD i nilV = if i = k then cv else vs.getD i nilV := fun i => by
    rw [List.getD_eq_getElem?_getD, List.getD_eq_getElem?_getD, List.getElem?_set]
    by_cases e : k = i
    · rw [if_pos e, if_pos e.symm, if_pos (by omega)]; rfl
    · rw [if_neg e, if_neg (fun q => e q.symm)]
  have hg := grownBy_put W g k cv
  have hgo : (Value.slice (some ⟨g, 0, none⟩) n cap).ownBlock = some g := rfl
  refine ⟨h.outer.set k cv, by simp [hlen], fun i hi => ?_, fun i j b hij hj hb => ?_, h.base, fun i b hi hb => ?_⟩
  · rw [hat i]
    by_cases e : i = k
    · rw [if_pos e, if_pos e]
      exact hcv.own.grown hg fun b hb q => (hcv.own.apart h.outer (by decide) b hb) (by rw [hgo]; exact q.symm)
    · rw [if_neg e, if_neg e]
      exact (h.inner i hi).grown hg fun b hb q => ((h.inner i hi).apart h.outer (by decide) b hb) (by rw [hgo]; exact q.symm)
  · rw [hat i] at hb
    rw [hat j]
    by_cases e1 : i = k
    · rw [if_pos e1] at hb
      rw [if_neg (by omega)]
      intro q
      have := hlt j b hj q
      have := hcv.base b hb
      omega
    · rw [if_neg e1] at hb
      by_cases e2 : j = k
      · rw [if_pos e2]
        intro q
        have := hlt i b (by omega) hb
        have := hcv.base b q
        omega
      · rw [if_neg e2]
        exact h.apart i j b hij hj hb
  · rw [hat i] at hb
    by_cases e : i = k
    · rw [if_pos e] at hb
      exact Nat.le_trans hBC (hcv.base b hb)
    · rw [if_neg e] at hb
      exact h.ibase i b hi hb
theorem Lists.read {B : Nat} {W : World} {v : Value} {vs : List Value} {n : Nat} {F : List (List Int)} (h : Lists B W v vs n (lk F)) (hn : F.length = n) : LLI W v F := by
  obtain ⟨a, cap, rfl, ha⟩ := h.view
  refine ⟨a, cap, by rw [hn], fun h0 => ?_⟩
  rw [hn] at h0 ⊢
  obtain ⟨g, rfl⟩ := ha h0
  refine ⟨_, rfl, h.outer.lt g rfl, fun k hk => ⟨vs.getD k nilV, ?_, ?_⟩⟩
  · rw [show (⟨g, 0, none⟩ : Addr).add k = ⟨g, k, none⟩ from by unfold Addr.add; split <;> simp_all]
    exact h.outer.cell k _ (h.at k hk)
  · have hi := h.inner k hk
    obtain ⟨a1, c1, e1, ha1⟩ := hi.viewI rfl
    rw [e1] at hi ⊢
    refine ⟨a1, c1, rfl, fun h1 => ?_⟩
    obtain ⟨g1, rfl⟩ := ha1 h1
    refine ⟨_, rfl, hi.lt g1 rfl, fun j hj => ?_⟩
    rw [show (⟨g1, 0, none⟩ : Addr).add j = ⟨g1, j, none⟩ from by unfold Addr.add; split <;> simp_all]
    have := hi.cell j _ (ints_at (lk F k) j hj)
    rw [this]
    simp [gx, List.getD_eq_getElem?_getD, hj]

set_option maxRecDepth 100000 in
set_option maxHeartbeats 1000000 in
theorem szIntS_any (a : Option Addr) (n c : Nat) (z : Int) (w : World) (hn : n ≤ maxLen) (h0 : 0 ≤ z) (h1 : z ≤ 1048576) :
    Calls Try.prog 95 #[.slice a n c, .int .i64 z] w fun e w' => e = .returned (.int .i64 (if z < n then -1 else z - n)) ∧ w = w' := by
  have hni : (n : Int) ≤ 9223372036854775807 := by simp only [maxLen] at hn; omega
  by_cases hlt : z < n
  · rw [if_pos hlt]
    clear hn
    go_enter Try.func95, Try.ntmps95
    go_wp2
    go_ret
    exact ⟨rfl, rfl⟩
  · rw [if_neg hlt]
    clear hn
    go_enter Try.func95, Try.ntmps95
    go_wp2
    go_ret
    exact ⟨rfl, rfl⟩

set_option maxRecDepth 100000 in
set_option maxHeartbeats 1000000 in
theorem szIntSS_any (v : Value) (F : List (List Int)) (w : World) (h : LLI w v F) (hl : F.length ≤ maxLen) (hm : ∀ k, (lk F k).length ≤ maxLen) :
    Calls Try.prog 53 #[v, .int .i64 1048576] w fun e w' => ∃ z : Int, e = .returned (.int .i64 z) ∧ (0 ≤ z → F.length ≤ 1048576 ∧ offL (lens F) F.length ≤ 1048576) ∧ -1 ≤ z ∧ z ≤ 1048576 ∧ w = w' := by
  obtain ⟨n, hn⟩ : ∃ n, F.length = n := ⟨_, rfl⟩
  obtain ⟨a, cap, rfl, ha⟩ := h
  rw [hn] at ha hl ⊢
  have hni : (n : Int) ≤ 9223372036854775807 := by simp only [maxLen] at hl; omega
  have HA := Lib.hid ha
  have HM := Lib.hid hm
  have HSZ := Lib.hid (fun a n c z w hn h0 h1 => szIntS_any a n c z w hn h0 h1)
  clear ha hm hn hl
  by_cases hbig : 1048576 < n
  · have hbi : (1048576 : Int) < n := by omega
    go_enter Try.func53, Try.ntmps53
    go_wp2
    go_ret
    exact ⟨-1, rfl, fun h => absurd h (by omega), by omega, by omega, rfl⟩
  have hbi : (n : Int) ≤ 1048576 := by omega
  clear hni
  go_enter Try.func53, Try.ntmps53
  go_wp2
  go_loopg [1, 5] n (fun q kk i wr => ∃ (j : Nat) (z : Int), q + j = n ∧ i = .int .i64 j ∧ kk = .int .i64 z ∧ 0 ≤ z ∧ z + n + (offL (lens F) j : Nat) = 1048576 ∧ w = wr)
  case atStart => exact ⟨0, 1048576 - n, by omega, rfl, by go_num, by omega, by simp [offL], rfl⟩
  case round =>
    obtain ⟨j, z, hq, rfl, rfl, hz0, hz, rfl⟩ := hrel
    have hz1 : z ≤ 1048576 := by omega
    have HZ := Lib.hid hz
    clear hz
    by_cases hlt : j < n
    · have hji : (j : Int) < n := by omega
      obtain ⟨ad, rfl, had, hc⟩ := HA.out (by omega)
      obtain ⟨u, c1, hu⟩ := hc j hlt
      obtain ⟨a1, k1, rfl, -⟩ := hu
      have hmj := HM.out j
      have HL : Hid ((lk F j).length = lens F j) := Lib.hid rfl
      have HOF : Hid (offL (lens F) (j + 1) = offL (lens F) j + lens F j) := Lib.hid rfl
      generalize (lk F j).length = lj at c1 HL hmj
      clear hc
      have HS := Lib.hid (fun w => HSZ.out a1 lj k1 z w hmj hz0 hz1)
      clear hmj
      by_cases hlz : z < lj
      · rw [if_pos hlz] at HS
        go_wp2_with (first | (go_at_call 95; refine (HS.out _).mono ?_; rintro e w2 ⟨rfl, rfl⟩) | fail)
        go_ret
        exact ⟨-1, rfl, fun h => absurd h (by omega), by omega, by omega, rfl⟩
      · rw [if_neg hlz] at HS
        have hz2 : 0 ≤ z - lj := by omega
        have hz3 : z - lj ≤ 1048576 := by omega
        go_wp2_with (first | (go_at_call 95; refine (HS.out _).mono ?_; rintro e w2 ⟨rfl, rfl⟩) | fail)
        go_roundg (n - (j + 1))
        case measure => omega
        case rel => exact ⟨j + 1, z - lj, by omega, by go_num, by go_num, hz2, by have := HOF.out; have := HL.out; have := HZ.out; omega, rfl⟩
    · obtain rfl : j = n := by omega
      have hz2 := HZ.out
      go_wp2
      go_ret
      exact ⟨z, rfl, fun _ => ⟨by omega, by omega⟩, by omega, by omega, rfl⟩

def partF (F : List (List Int)) (j : Nat) (i : Nat) : List Int := if i < j then lk F i else []
set_option maxRecDepth 100000 in
set_option maxHeartbeats 1000000 in
theorem toIntSS_any (v : Value) (F : List (List Int)) (w : World) (h : LLI w v F) (hl : F.length ≤ 2000000) (hm : ∀ k, k < F.length → (lk F k).length ≤ 2000000) :
    Calls Try.prog 54 #[v] w fun e w' => ∃ v' vs, e = .returned v' ∧ Lists w.heap.size w' v' vs F.length (lk F) ∧ Below w.heap.size w w' := by
  obtain ⟨n, hn⟩ : ∃ n, F.length = n := ⟨_, rfl⟩
  have HL := Lib.hid h
  obtain ⟨a, cap, rfl, -⟩ := id h
  rw [hn] at hl hm ⊢
  have HN := Lib.hid hn
  have HM := Lib.hid hm
  have hl' : (n : Int) ≤ 2000000 := by omega
  have HTO := Lib.hid (fun u xs w h hl => toIntS_any u xs w h hl)
  obtain ⟨i0, hi0, hz0, hz1, hz2⟩ := info_parts infoInts
  have I0 := Lib.hid (⟨hi0, hz0, hz1, hz2⟩ : _ ∧ _ ∧ _ ∧ _)
  clear h hn hm hi0 hz0 hz1 hz2
  go_enter Try.func54, Try.ntmps54
  go_wp2_with (first | (at_make; refine wpList_make_full _ rfl _ _ 28 rfl w.heap.size 39 i0 (.slice none 0 0) 1 Try.underlying28 I0.out.1 I0.out.2.1 I0.out.2.2.1 .i64 .i64 _ _ n rfl rfl rfl rfl (by rw [I0.out.2.2.2]; omega) (by unfold maxLen; omega) (Nat.le_refl _) ?_) | fail)
  intro w1 hown hgrow
  have HB := Lib.hid ((Below.refl _ w).grown hgrow (Nat.le_refl _) (fun k hk => by cases hk))
  have HO : Hid (Lists w.heap.size w1 (.slice (some ⟨w.heap.size, 0, none⟩) n n) (List.replicate n nilV) n (partF F 0)) := Lib.hid (by
    have := hown
    rw [toList_madeCells_one] at this
    have hnew : New w.heap.size w1 39 (.slice (some ⟨w.heap.size, 0, none⟩) n n) (List.replicate n nilV) := New.of_owns this (by simp)
    have hat : ∀ i, i < n → (List.replicate n nilV).getD i nilV = nilV := fun i hi => by simp [List.getD_eq_getElem?_getD, hi]
    refine ⟨hnew.own, by simp, fun i hi => ?_, fun i j g hij hj hg => ?_, hnew.base, fun i g hi hg => ?_⟩
    · rw [hat i hi]
      exact Own.nil _ _
    · rw [hat i (by omega)] at hg
      simp [nilV, Value.ownBlock] at hg
    · rw [hat i hi] at hg
      simp [nilV, Value.ownBlock] at hg)
  clear hown hgrow
  go_wp2
  go_loopg [4] n (fun q i wr => ∃ (j : Nat) (vs : List Value), q + j = n ∧ i = .int .i64 j ∧ Lists w.heap.size wr (.slice (some ⟨w.heap.size, 0, none⟩) n n) vs n (partF F j) ∧ Below w.heap.size w wr)
  case atStart => exact ⟨0, _, by omega, rfl, HO.out, HB.out⟩
  case round =>
    clear HO HB
    obtain ⟨j, vs, hq, rfl, ho, hb⟩ := hrel
    have HO := Lib.hid ho
    have HB := Lib.hid hb
    have hws := hb.size
    clear ho hb
    by_cases hlt : j < n
    · obtain ⟨a', cap', hv, ha⟩ := HL.out.kept HB.out
      injection hv with e1 e2 e3
      subst e1 e3
      obtain ⟨ad, rfl, had, hc⟩ := ha (by have := HN.out; omega)
      obtain ⟨u, c1, hu⟩ := hc j (by have := HN.out; omega)
      have HC := Lib.hid (HTO.out u (lk F j) wr hu (HM.out j hlt))
      obtain ⟨a1, k1, rfl, -⟩ := hu
      have hji : (j : Int) < n := by omega
      generalize (lk F j).length = lj at c1 HC
      clear hc ha
      go_wp2_with fail
      refine HC.out.mono ?_
      rintro e w2 ⟨v2, rfl, hn2, hb2⟩
      have HK2 := Lib.hid (HO.out.kept hb2)
      have HB2 := Lib.hid (HB.out.trans (hb2.mono hws))
      have HLT : Hid (∀ i g, i < n → (vs.getD i nilV).ownBlock = some g → g < wr.heap.size) := Lib.hid (fun i g hi hg => (HO.out.inner i hi).lt g hg)
      obtain ⟨a2, k2, hv2, -⟩ := hn2.own.viewI rfl
      subst hv2
      have HN2 := Lib.hid hn2
      clear hn2 hb2 c1
      obtain ⟨old, hold⟩ : ∃ u, vs[j]? = some u := ⟨_, HK2.out.at j hlt⟩
      have c5 := HK2.out.outer.cell j old hold
      have f5 := HK2.out.outer.free j
      have HO6 : Hid (Lists w.heap.size (w2.setCell ⟨w.heap.size, j, none⟩ (.slice a2 (lk F j).length k2)) (.slice (some ⟨w.heap.size, 0, none⟩) n n) (vs.set j (.slice a2 (lk F j).length k2)) n (partF F (j + 1))) := Lib.hid (by
        refine (HK2.out.put hlt HN2.out hws HLT.out).congr fun i hi => ?_
        unfold partF
        by_cases e : i = j
        · rw [if_pos e, if_pos (by omega), e]
        · rw [if_neg e]
          by_cases h1 : i < j
          · rw [if_pos h1, if_pos (by omega)]
          · rw [if_neg h1, if_neg (by omega)])
      have HB6 : Hid (Below w.heap.size w (w2.setCell ⟨w.heap.size, j, none⟩ (.slice a2 (lk F j).length k2))) := Lib.hid (HB2.out.setCell (p := ⟨w.heap.size, j, none⟩) (Nat.le_refl _) _)
      clear hold HN2 HK2 HLT
      generalize (lk F j).length = l2 at *
      go_wp2
      go_roundg (n - (j + 1))
      case measure => omega
      case rel => exact ⟨j + 1, _, by omega, by go_num, HO6.out, HB6.out⟩
    · obtain rfl : j = n := by omega
      have HF : Hid (Lists w.heap.size wr (.slice (some ⟨w.heap.size, 0, none⟩) j j) vs j (lk F)) := Lib.hid (HO.out.congr fun i hi => by unfold partF; rw [if_pos hi])
      clear HO
      go_wp2
      go_ret
      exact ⟨_, _, rfl, HF.out, HB.out⟩
end Go.Proofs.Ytpfnamiacagocaa
