/- Laws over lists of lists of numbers: what they read, made anew, compared, marked. Lists of numbers as arguments of a law. Lists of lists of numbers as arguments of a law. The law RowsOf. -/
import Derived.Test.YtpfnamiacagocaaIA
import Derived.Test.YtpfnamiacagocaaI0
import Derived.Test.YtpfnamiacagocaaI1
import Derived.ChangeSlices
import Derived.Test.YtpfnamiacagocaaK4
import Derived.Deep.Slices
import Derived.Lib.SmallJoins
namespace Go.Proofs.Ytpfnamiacagocaa
open Go.RowKit
set_option linter.unusedSimpArgs false
set_option linter.unusedVariables false

set_option maxRecDepth 100000 in
set_option maxHeartbeats 1000000 in
theorem markIntS_huge (v : Value) (xs : List Int) (k : Int) (w : World) (h : Own w 3 v (ints xs)) (hb : xs.length ≤ 2000000) (hk0 : 0 ≤ k) (hk1 : k ≤ 9000000) :
    Calls Try.prog 48 #[v, .int .i64 k] w fun e w' => e = .returned (.int .i64 (k + xs.length)) ∧ Own w' 3 v (ints (marks k xs.length)) ∧ w.grownBy w' v.ownBlock := by
  obtain ⟨n, hn⟩ : ∃ n, xs.length = n := ⟨_, rfl⟩
  obtain ⟨a, cap, rfl, ha⟩ := h.viewI hn
  rw [hn] at hb ⊢
  have HO := Lib.hid h
  have HA := Lib.hid ha
  clear h ha
  have HN := Lib.hid hn
  clear hn
  go_enter Try.func48, Try.ntmps48
  go_wp2
  go_loopg [1, 5] n (fun q kk i wr => ∃ j : Nat, j ≤ n ∧ q + j = n ∧ i = .int .i64 j ∧ kk = .int .i64 (k + j) ∧ Own wr 3 (.slice a n cap) (ints (markTo k xs j)) ∧ w.grownBy wr (Value.slice a n cap).ownBlock)
  case atStart => exact ⟨0, Nat.zero_le _, rfl, rfl, by simp, by simpa [markTo, marks] using HO.out, ⟨rfl, rfl, rfl, Nat.le_refl _, fun _ _ _ => rfl⟩⟩
  case round =>
    obtain ⟨j, hj, hq, rfl, rfl, ho, hg⟩ := hrel
    have HQ := Lib.hid hq
    have HO2 := Lib.hid ho
    have HG := Lib.hid hg
    clear hq ho hg
    by_cases hlt : j < n
    · obtain ⟨g, rfl⟩ := HA.out (by omega)
      have c1 := HO2.out.cell j _ (ints_at (markTo k xs j) j (by rw [markTo_len k xs j (by rw [HN.out]; exact hj), HN.out]; exact hlt))
      have f1 := HO2.out.free j
      have hki : (j : Int) < n := by omega
      generalize (markTo k xs j)[j]'(by rw [markTo_len k xs j (by rw [HN.out]; exact hj), HN.out]; exact hlt) = x at c1
      go_wp2
      go_roundg (n - (j + 1))
      case measure => have := HQ.out; omega
      case rel =>
        refine ⟨j + 1, by omega, by have := HQ.out; omega, by go_num, by go_num, ?_, ?_⟩
        · have := HO2.out.set j (.int .i64 (k + j))
          rw [show (ints (markTo k xs j)).set j (.int .i64 (k + j)) = ints (markTo k xs (j + 1)) from by rw [← markTo_succ k xs j (by rw [HN.out]; exact hlt)]; simp [ints, List.map_set]] at this
          exact this
        · exact ⟨HG.out.os, HG.out.tape, HG.out.output, by simpa using HG.out.size, fun b hb hne => (Below.heap_setCell _ _ _ _ (fun e => hne (by simp [Value.ownBlock, e]))).trans (HG.out.block b hb hne)⟩
    · obtain rfl : j = n := by omega
      have hfin := HO2.out
      rw [← HN.out, markTo_all, HN.out] at hfin
      have HF := Lib.hid hfin
      clear hfin
      go_wp2
      go_ret
      exact ⟨rfl, HF.out, HG.out⟩

set_option maxRecDepth 100000 in
set_option maxHeartbeats 1000000 in
theorem eqIntSS_big (B B' : Nat) (v v' : Value) (vs vs' : List Value) (n : Nat) (F : Nat → List Int) (w : World) (h : Lists B w v vs n F) (h' : Lists B' w v' vs' n F) (hb : n ≤ 2000000) (hbi : ∀ i, i < n → (F i).length ≤ 2000000) :
    Calls Try.prog 50 #[v, v'] w fun e w' => e = .returned (.bool true) ∧ ∃ m, w' = w.drewN m := by
  obtain ⟨a, cap, rfl, ha⟩ := h.view
  obtain ⟨a', cap', rfl, ha'⟩ := h'.view
  have HL := Lib.hid h
  have HL' := Lib.hid h'
  have HA := Lib.hid ha
  have HA' := Lib.hid ha'
  have HBI := Lib.hid hbi
  clear h h' ha ha' hbi
  go_enter Try.func50, Try.ntmps50
  go_wp2
  go_loopg [5] n (fun q i wr => ∃ k : Nat, k ≤ n ∧ q + k = n ∧ i = .int .i64 k ∧ ∃ d, wr = w.drewN d)
  case atStart => exact ⟨0, Nat.zero_le _, rfl, rfl, 0, rfl⟩
  case round =>
    obtain ⟨k, hk, hq, rfl, hd⟩ := hrel
    have HD := Lib.hid hd
    have HQ := Lib.hid hq
    have L1 : Hid (Lists B wr (.slice a n cap) vs n F) := by obtain ⟨d, rfl⟩ := hd; exact HL.out.kept (below_drewN (Below.refl _ _) _)
    have L2 : Hid (Lists B' wr (.slice a' n cap') vs' n F) := by obtain ⟨d, rfl⟩ := hd; exact HL'.out.kept (below_drewN (Below.refl _ _) _)
    clear hq hd
    by_cases hlt : k < n
    · obtain ⟨g, rfl⟩ := HA.out (by omega)
      obtain ⟨g', rfl⟩ := HA'.out (by omega)
      have c1 := L1.out.outer.cell k _ (L1.out.at k hlt)
      have c2 := L2.out.outer.cell k _ (L2.out.at k hlt)
      have I1 := Lib.hid (L1.out.inner k hlt)
      have I2 := Lib.hid (L2.out.inner k hlt)
      have hki : (k : Int) < n := by omega
      obtain ⟨a1, cap1, e1, _⟩ := I1.out.viewI rfl
      obtain ⟨a2, cap2, e2, _⟩ := I2.out.viewI rfl
      rw [e1] at c1
      rw [e2] at c2
      have I1' : Hid (Own wr 3 (.slice a1 (F k).length cap1) (ints (F k))) := by rw [← e1]; exact I1
      have I2' : Hid (Own wr 3 (.slice a2 (F k).length cap2) (ints (F k))) := by rw [← e2]; exact I2
      clear e1 e2 I1 I2 L1 L2
      have hbk := HBI.out k hlt
      generalize hxk : F k = xk at c1 c2 I1' I2' hbk
      generalize hlk : xk.length = lk at c1 c2 I1' I2' hbk
      have HLK := Lib.hid hlk
      clear hlk hxk
      go_wp2
      go_quiet ((go_at_call 45; exact Calls.quiet_of (eqIntS_big _ _ xk _ I1'.out I2'.out (by rw [HLK.out]; exact hbk))))
      go_wp2
      go_roundg (n - (k + 1))
      case measure => have := HQ.out; omega
      case rel => exact ⟨k + 1, by omega, by have := HQ.out; omega, by go_num, (by obtain ⟨d, hd⟩ := HD.out; exact ⟨_, by rw [hd, World.drewN_drewN]⟩)⟩
    · obtain rfl : k = n := by omega
      go_wp2
      go_ret
      exact ⟨rfl, HD.out⟩

/-- what lies from block C on reads as it did -/
def KeptOver (C : Nat) (w w' : World) : Prop := ∀ e u ys, Own w e u ys → (∀ g, u.ownBlock = some g → C ≤ g) → Own w' e u ys
set_option maxRecDepth 100000 in
set_option maxHeartbeats 1000000 in
theorem markIntSS_big (B : Nat) (v : Value) (vs : List Value) (n : Nat) (F : Nat → List Int) (k : Int) (w : World) (h : Lists B w v vs n F) (hb : n ≤ 2000000) (hB : B ≤ w.heap.size) (hoff : offL (fun i => (F i).length) n ≤ 2000000) (C : Nat) (hC : ∀ i g, i < n → (vs.getD i nilV).ownBlock = some g → g < C) (hk0 : 0 ≤ k) (hk1 : k ≤ 1000) :
    Calls Try.prog 51 #[v, .int .i64 k] w fun e w' => e = .returned (.int .i64 (k + (offL (fun i => (F i).length) n : Nat))) ∧ Lists B w' v vs n (markF F k n) ∧ Below B w w' ∧ KeptOver C w w' := by
  have HCC := Lib.hid hC
  clear hC
  obtain ⟨a, cap, rfl, ha⟩ := h.view
  have HL := Lib.hid h
  have HA := Lib.hid ha
  have HOFF := Lib.hid hoff
  clear h ha
  generalize hLen : (fun i => (F i).length) = L at *
  have HLEN := Lib.hid hLen
  clear hLen
  go_enter Try.func51, Try.ntmps51
  go_wp2
  go_loopg [1, 5] n (fun q kk i wr => ∃ j : Nat, j ≤ n ∧ q + j = n ∧ i = .int .i64 j ∧ kk = .int .i64 (k + (offL L j : Nat)) ∧ Lists B wr (.slice a n cap) vs n (markF F k j) ∧ Below B w wr ∧ KeptOver C w wr)
  case atStart => exact ⟨0, Nat.zero_le _, rfl, rfl, by simp [offL], HL.out.congr (fun i _ => by simp [markF]), Below.refl _ _, fun _ _ _ h _ => h⟩
  case round =>
    obtain ⟨j, hj, hq, rfl, rfl, hl, hbel, hko⟩ := hrel
    have HK := Lib.hid hko
    clear hko
    have HQ := Lib.hid hq
    have HL2 := Lib.hid hl
    have HB := Lib.hid hbel
    clear hq hl hbel
    by_cases hlt : j < n
    · obtain ⟨g, rfl⟩ := HA.out (by omega)
      have c1 := HL2.out.outer.cell j _ (HL2.out.at j hlt)
      have I1 := HL2.out.inner j hlt
      have hmj : markF F k j j = F j := by simp [markF]
      rw [hmj] at I1
      have hlj : (F j).length = L j := by rw [← HLEN.out]
      obtain ⟨a1, cap1, e1, _⟩ := I1.viewI hlj
      rw [e1] at c1 I1
      have hoj : offL L j + L j ≤ 2000000 := Nat.le_trans (offL_mono L (show j + 1 ≤ n by omega)) HOFF.out
      have I1' := Lib.hid I1
      have E1 := Lib.hid e1
      have HLJ := Lib.hid hlj
      clear I1 e1 hlj hmj
      have hki : (j : Int) < n := by omega
      go_wp2_with fail
      refine (markIntS_huge (.slice a1 (L j) cap1) (F j) (k + (offL L j : Nat)) _ I1'.out (by rw [HLJ.out]; omega) (by omega) (by omega)).mono ?_
      rintro e w1 ⟨rfl, ho1, hg1⟩
      rw [HLJ.out] at ho1 ⊢
      have hl3 : Lists B w1 (.slice (some ⟨g, 0, none⟩) n cap) vs n (markF F k (j + 1)) := by
        refine HL2.out.turn j hlt (by rw [E1.out]; exact hg1) (by rw [E1.out]; simp only [markF, show j < j + 1 by omega, if_true, HLEN.out, HLJ.out]; exact ho1) (fun i hi hne => ?_)
        unfold markF
        by_cases h1 : i < j
        · rw [if_pos h1, if_pos (by omega)]
        · rw [if_neg h1, if_neg (by omega)]
      have hb3 : Below B w w1 := HB.out.grown hg1 (Nat.le_trans hB HB.out.size) (fun b hbk => HL2.out.ibase j b hlt (by rw [E1.out]; exact hbk))
      have hk3 : KeptOver C w w1 := fun e u ys h hb => (HK.out e u ys h hb).grown hg1 (fun g hg q => by
        have h1 := HCC.out j g hlt (by rw [E1.out]; exact q.symm)
        have h2 := hb g hg
        omega)
      have HK3 := Lib.hid hk3
      clear hk3
      have HL3 := Lib.hid hl3
      have HB3 := Lib.hid hb3
      clear hl3 hb3 ho1 hg1
      go_wp2
      go_roundg (n - (j + 1))
      case measure => have := HQ.out; omega
      case rel => exact ⟨j + 1, by omega, by have := HQ.out; omega, by go_num, by simp only [offL]; go_num, HL3.out, HB3.out, HK3.out⟩
    · obtain rfl : j = n := by omega
      go_wp2
      go_ret
      exact ⟨rfl, HL2.out, HB.out, HK.out⟩

def lens (F : List (List Int)) (k : Nat) : Nat := (lk F k).length
theorem Lists.read {B : Nat} {W : World} {v : Value} {vs : List Value} {n : Nat} {F : List (List Int)} (h : Lists B W v vs n (lk F)) (hn : F.length = n) : LLI W v F := by
  obtain ⟨a, cap, rfl, ha⟩ := h.view
  refine ⟨a, cap, by rw [hn], fun h0 => ?_⟩
  rw [hn] at h0 ⊢
  obtain ⟨g, rfl⟩ := ha h0
  refine ⟨_, rfl, h.outer.lt g rfl, fun k hk => ⟨vs.getD k nilV, ?_, ?_⟩⟩
  · rw [show (⟨g, 0, none⟩ : Addr).add k = ⟨g, k, none⟩ from by unfold Addr.add; split <;> simp_all]
    exact h.outer.cell k _ (h.at k hk)
  · have hi := h.inner k hk
    obtain ⟨a1, c1, e1, ha1⟩ := hi.viewI rfl
    rw [e1] at hi ⊢
    refine ⟨a1, c1, rfl, fun h1 => ?_⟩
    obtain ⟨g1, rfl⟩ := ha1 h1
    refine ⟨_, rfl, hi.lt g1 rfl, fun j hj => ?_⟩
    rw [show (⟨g1, 0, none⟩ : Addr).add j = ⟨g1, j, none⟩ from by unfold Addr.add; split <;> simp_all]
    have := hi.cell j _ (ints_at (lk F k) j hj)
    rw [this]
    simp [gx, List.getD_eq_getElem?_getD, hj]

set_option maxRecDepth 100000 in
set_option maxHeartbeats 1000000 in
theorem szIntS_any (a : Option Addr) (n c : Nat) (z : Int) (w : World) (hn : n ≤ maxLen) (h0 : 0 ≤ z) (h1 : z ≤ 1048576) :
    Calls Try.prog 95 #[.slice a n c, .int .i64 z] w fun e w' => e = .returned (.int .i64 (if z < n then -1 else z - n)) ∧ w = w' := by
  have hni : (n : Int) ≤ 9223372036854775807 := by simp only [maxLen] at hn; omega
  by_cases hlt : z < n
  · rw [if_pos hlt]
    clear hn
    go_enter Try.func95, Try.ntmps95
    go_wp2
    go_ret
    exact ⟨rfl, rfl⟩
  · rw [if_neg hlt]
    clear hn
    go_enter Try.func95, Try.ntmps95
    go_wp2
    go_ret
    exact ⟨rfl, rfl⟩

set_option maxRecDepth 100000 in
set_option maxHeartbeats 1000000 in
theorem szIntSS_any (v : Value) (F : List (List Int)) (w : World) (h : LLI w v F) (hl : F.length ≤ maxLen) (hm : ∀ k, (lk F k).length ≤ maxLen) :
    Calls Try.prog 53 #[v, .int .i64 1048576] w fun e w' => ∃ z : Int, e = .returned (.int .i64 z) ∧ (0 ≤ z → F.length ≤ 1048576 ∧ offL (lens F) F.length ≤ 1048576) ∧ -1 ≤ z ∧ z ≤ 1048576 ∧ w = w' := by
  obtain ⟨n, hn⟩ : ∃ n, F.length = n := ⟨_, rfl⟩
  obtain ⟨a, cap, rfl, ha⟩ := h
  rw [hn] at ha hl ⊢
  have hni : (n : Int) ≤ 9223372036854775807 := by simp only [maxLen] at hl; omega
  have HA := Lib.hid ha
  have HM := Lib.hid hm
  have HSZ := Lib.hid (fun a n c z w hn h0 h1 => szIntS_any a n c z w hn h0 h1)
  clear ha hm hn hl
  by_cases hbig : 1048576 < n
  · have hbi : (1048576 : Int) < n := by omega
    go_enter Try.func53, Try.ntmps53
    go_wp2
    go_ret
    exact ⟨-1, rfl, fun h => absurd h (by omega), by omega, by omega, rfl⟩
  have hbi : (n : Int) ≤ 1048576 := by omega
  clear hni
  go_enter Try.func53, Try.ntmps53
  go_wp2
  go_loopg [1, 5] n (fun q kk i wr => ∃ (j : Nat) (z : Int), q + j = n ∧ i = .int .i64 j ∧ kk = .int .i64 z ∧ 0 ≤ z ∧ z + n + (offL (lens F) j : Nat) = 1048576 ∧ w = wr)
  case atStart => exact ⟨0, 1048576 - n, by omega, rfl, by go_num, by omega, by simp [offL], rfl⟩
  case round =>
    obtain ⟨j, z, hq, rfl, rfl, hz0, hz, rfl⟩ := hrel
    have hz1 : z ≤ 1048576 := by omega
    have HZ := Lib.hid hz
    clear hz
    by_cases hlt : j < n
    · have hji : (j : Int) < n := by omega
      obtain ⟨ad, rfl, had, hc⟩ := HA.out (by omega)
      obtain ⟨u, c1, hu⟩ := hc j hlt
      obtain ⟨a1, k1, rfl, -⟩ := hu
      have hmj := HM.out j
      have HL : Hid ((lk F j).length = lens F j) := Lib.hid rfl
      have HOF : Hid (offL (lens F) (j + 1) = offL (lens F) j + lens F j) := Lib.hid rfl
      generalize (lk F j).length = lj at c1 HL hmj
      clear hc
      have HS := Lib.hid (fun w => HSZ.out a1 lj k1 z w hmj hz0 hz1)
      clear hmj
      by_cases hlz : z < lj
      · rw [if_pos hlz] at HS
        go_wp2_with (first | (go_at_call 95; refine (HS.out _).mono ?_; rintro e w2 ⟨rfl, rfl⟩) | fail)
        go_ret
        exact ⟨-1, rfl, fun h => absurd h (by omega), by omega, by omega, rfl⟩
      · rw [if_neg hlz] at HS
        have hz2 : 0 ≤ z - lj := by omega
        have hz3 : z - lj ≤ 1048576 := by omega
        go_wp2_with (first | (go_at_call 95; refine (HS.out _).mono ?_; rintro e w2 ⟨rfl, rfl⟩) | fail)
        go_roundg (n - (j + 1))
        case measure => omega
        case rel => exact ⟨j + 1, z - lj, by omega, by go_num, by go_num, hz2, by have := HOF.out; have := HL.out; have := HZ.out; omega, rfl⟩
    · obtain rfl : j = n := by omega
      have hz2 := HZ.out
      go_wp2
      go_ret
      exact ⟨z, rfl, fun _ => ⟨by omega, by omega⟩, by omega, by omega, rfl⟩

def partF (F : List (List Int)) (j : Nat) (i : Nat) : List Int := if i < j then lk F i else []
set_option maxRecDepth 100000 in
set_option maxHeartbeats 1000000 in
theorem toIntSS_any (v : Value) (F : List (List Int)) (w : World) (h : LLI w v F) (hl : F.length ≤ 2000000) (hm : ∀ k, k < F.length → (lk F k).length ≤ 2000000) :
    Calls Try.prog 54 #[v] w fun e w' => ∃ v' vs, e = .returned v' ∧ Lists w.heap.size w' v' vs F.length (lk F) ∧ Below w.heap.size w w' := by
  obtain ⟨n, hn⟩ : ∃ n, F.length = n := ⟨_, rfl⟩
  have HL := Lib.hid h
  obtain ⟨a, cap, rfl, -⟩ := id h
  rw [hn] at hl hm ⊢
  have HN := Lib.hid hn
  have HM := Lib.hid hm
  have hl' : (n : Int) ≤ 2000000 := by omega
  have HTO := Lib.hid (fun u xs w h hl => toIntS_any u xs w h hl)
  obtain ⟨i0, hi0, hz0, hz1, hz2⟩ := info_parts infoInts
  have I0 := Lib.hid (⟨hi0, hz0, hz1, hz2⟩ : _ ∧ _ ∧ _ ∧ _)
  clear h hn hm hi0 hz0 hz1 hz2
  go_enter Try.func54, Try.ntmps54
  go_wp2_with (first | (at_make; refine wpList_make_full _ rfl _ _ 28 rfl w.heap.size 39 i0 (.slice none 0 0) 1 Try.underlying28 I0.out.1 I0.out.2.1 I0.out.2.2.1 .i64 .i64 _ _ n rfl rfl rfl rfl (by rw [I0.out.2.2.2]; omega) (by unfold maxLen; omega) (Nat.le_refl _) ?_) | fail)
  intro w1 hown hgrow
  have HB := Lib.hid ((Below.refl _ w).grown hgrow (Nat.le_refl _) (fun k hk => by cases hk))
  have HO : Hid (Lists w.heap.size w1 (.slice (some ⟨w.heap.size, 0, none⟩) n n) (List.replicate n nilV) n (partF F 0)) := Lib.hid (by
    have := hown
    rw [toList_madeCells_one] at this
    have hnew : New w.heap.size w1 39 (.slice (some ⟨w.heap.size, 0, none⟩) n n) (List.replicate n nilV) := New.of_owns this (by simp)
    have hat : ∀ i, i < n → (List.replicate n nilV).getD i nilV = nilV := fun i hi => by simp [List.getD_eq_getElem?_getD, hi]
    refine ⟨hnew.own, by simp, fun i hi => ?_, fun i j g hij hj hg => ?_, hnew.base, fun i g hi hg => ?_⟩
    · rw [hat i hi]
      exact Own.nil _ _
    · rw [hat i (by omega)] at hg
      simp [nilV, Value.ownBlock] at hg
    · rw [hat i hi] at hg
      simp [nilV, Value.ownBlock] at hg)
  clear hown hgrow
  go_wp2
  go_loopg [4] n (fun q i wr => ∃ (j : Nat) (vs : List Value), q + j = n ∧ i = .int .i64 j ∧ Lists w.heap.size wr (.slice (some ⟨w.heap.size, 0, none⟩) n n) vs n (partF F j) ∧ Below w.heap.size w wr)
  case atStart => exact ⟨0, _, by omega, rfl, HO.out, HB.out⟩
  case round =>
    clear HO HB
    obtain ⟨j, vs, hq, rfl, ho, hb⟩ := hrel
    have HO := Lib.hid ho
    have HB := Lib.hid hb
    have hws := hb.size
    clear ho hb
    by_cases hlt : j < n
    · obtain ⟨a', cap', hv, ha⟩ := HL.out.kept HB.out
      injection hv with e1 e2 e3
      subst e1 e3
      obtain ⟨ad, rfl, had, hc⟩ := ha (by have := HN.out; omega)
      obtain ⟨u, c1, hu⟩ := hc j (by have := HN.out; omega)
      have HC := Lib.hid (HTO.out u (lk F j) wr hu (HM.out j hlt))
      obtain ⟨a1, k1, rfl, -⟩ := hu
      have hji : (j : Int) < n := by omega
      generalize (lk F j).length = lj at c1 HC
      clear hc ha
      go_wp2_with fail
      refine HC.out.mono ?_
      rintro e w2 ⟨v2, rfl, hn2, hb2⟩
      have HK2 := Lib.hid (HO.out.kept hb2)
      have HB2 := Lib.hid (HB.out.trans (hb2.mono hws))
      have HLT : Hid (∀ i g, i < n → (vs.getD i nilV).ownBlock = some g → g < wr.heap.size) := Lib.hid (fun i g hi hg => (HO.out.inner i hi).lt g hg)
      obtain ⟨a2, k2, hv2, -⟩ := hn2.own.viewI rfl
      subst hv2
      have HN2 := Lib.hid hn2
      clear hn2 hb2 c1
      obtain ⟨old, hold⟩ : ∃ u, vs[j]? = some u := ⟨_, HK2.out.at j hlt⟩
      have c5 := HK2.out.outer.cell j old hold
      have f5 := HK2.out.outer.free j
      have HO6 : Hid (Lists w.heap.size (w2.setCell ⟨w.heap.size, j, none⟩ (.slice a2 (lk F j).length k2)) (.slice (some ⟨w.heap.size, 0, none⟩) n n) (vs.set j (.slice a2 (lk F j).length k2)) n (partF F (j + 1))) := Lib.hid (by
        refine (HK2.out.put hlt HN2.out hws HLT.out).congr fun i hi => ?_
        unfold partF
        by_cases e : i = j
        · rw [if_pos e, if_pos (by omega), e]
        · rw [if_neg e]
          by_cases h1 : i < j
          · rw [if_pos h1, if_pos (by omega)]
          · rw [if_neg h1, if_neg (by omega)])
      have HB6 : Hid (Below w.heap.size w (w2.setCell ⟨w.heap.size, j, none⟩ (.slice a2 (lk F j).length k2))) := Lib.hid (HB2.out.setCell (p := ⟨w.heap.size, j, none⟩) (Nat.le_refl _) _)
      clear hold HN2 HK2 HLT
      generalize (lk F j).length = l2 at *
      go_wp2
      go_roundg (n - (j + 1))
      case measure => omega
      case rel => exact ⟨j + 1, _, by omega, by go_num, HO6.out, HB6.out⟩
    · obtain rfl : j = n := by omega
      have HF : Hid (Lists w.heap.size wr (.slice (some ⟨w.heap.size, 0, none⟩) j j) vs j (lk F)) := Lib.hid (HO.out.congr fun i hi => by unfold partF; rw [if_pos hi])
      clear HO
      go_wp2
      go_ret
      exact ⟨_, _, rfl, HF.out, HB.out⟩
end Go.Proofs.Ytpfnamiacagocaa
namespace Go.Proofs.Ytpfnamiacagocaa
open Go.RowKit
theorem heap_ltI {w : World} {a : Addr} {v : Value} (h : w.cell? a = some v) : a.block < w.heap.size := by
  rcases Nat.lt_or_ge a.block w.heap.size with h1 | h1
  · exact h1
  · simp [World.cell?, Array.getElem?_eq_none h1] at h
theorem argI_of_trod {H : Type} {enc : TypeId × Value → H} {W : World} {base : Nat} {sp : Nat → Bool} {held : Bool} {fuel : Nat} {a : Option Addr} {len cap : Nat} {x : DataW H × List MemPlace}
    (h : DataW.trod enc Try.prog W base sp held fuel 39 (Value.slice a len cap).cells.toList = some x) :
    ∃ xs, ArgI W (.slice a len cap) xs ∧ xs.length ≤ maxLen := by
  rcases Go.ChangeShapes.open_ints Try.underlying39 Try.underlying3 (by kernel_rfl) h with ⟨hcs, _⟩ | ⟨x, l, c, zs, hcs, _, hl, hm, hz, _, hcell, hwz⟩
  · simp [Value.cells] at hcs
    obtain ⟨rfl, rfl, rfl⟩ := hcs
    exact ⟨[], ⟨none, 0, rfl, fun h => by simp at h⟩, by simp [maxLen]⟩
  · simp [Value.cells] at hcs
    obtain ⟨rfl, rfl, rfl⟩ := hcs
    have hle : len ≤ zs.length := by rw [hz]; split <;> omega
    have hlen : (zs.take len).length = len := by rw [List.length_take]; omega
    refine ⟨zs.take len, ⟨_, cap, by rw [hlen], fun h0 => ⟨x, rfl, ?_, fun j hj => ?_⟩⟩, by rw [hlen]; omega⟩
    · rw [hlen] at h0
      exact heap_ltI (hcell 0 (by omega))
    · rw [hlen] at hj
      rw [hcell j (by omega)]
      simp [gx, List.getD_eq_getElem?_getD, hj]
end Go.Proofs.Ytpfnamiacagocaa
namespace Go.Proofs.Ytpfnamiacagocaa
open Go.RowKit
set_option linter.unusedSimpArgs false
set_option linter.unusedVariables false

theorem lli_of_trod {H : Type} {enc : TypeId × Value → H} {W : World} {base : Nat} {sp : Nat → Bool} {held : Bool} {fuel : Nat} {a : Option Addr} {len cap : Nat} {x : DataW H × List MemPlace}
    (h : DataW.trod enc Try.prog W base sp held fuel 28 (Value.slice a len cap).cells.toList = some x) :
    ∃ F : List (List Int), LLI W (.slice a len cap) F ∧ F.length ≤ maxLen ∧ ∀ k, (lk F k).length ≤ maxLen := by
  rcases Go.Deep.open_slice1 Try.underlying28 (by kernel_rfl) h with ⟨hcs, _⟩ | ⟨x, l, c, m, n, V, D, Pl, hcs, _, hl, hm, hmm, _, hcell⟩
  · simp [Value.cells] at hcs
    obtain ⟨rfl, rfl, rfl⟩ := hcs
    exact ⟨[], ⟨none, 0, rfl, fun h => by simp at h⟩, by simp [maxLen], fun k => by simp [lk, maxLen]⟩
  · simp [Value.cells] at hcs
    obtain ⟨rfl, rfl, rfl⟩ := hcs
    have hle : len ≤ m := by rw [hmm]; split <;> omega
    have hone : ∀ i, i < len → ∃ xs : List Int, ArgI W (V i) xs ∧ xs.length ≤ maxLen := fun i hi => by
      have h1 := (hcell i (by omega)).2
      obtain ⟨a1, l1, c1, e1⟩ := Go.Joins.slice_form Try.underlying39 h1
      injection e1 with e1 _
      rw [e1] at h1 ⊢
      exact argI_of_trod (by simpa [Value.cells] using h1)
    obtain ⟨G, hG⟩ := Go.Deep.choose_lt (α := List Int) hone
    have hlk : ∀ k, k < len → lk ((List.range len).map G) k = G k := fun k hk => by simp [lk, List.getD_eq_getElem?_getD, hk]
    refine ⟨(List.range len).map G, ⟨some x, cap, by simp, fun h0 => ⟨x, rfl, ?_, fun k hk => ?_⟩⟩, by simp; omega, fun k => ?_⟩
    · rw [List.length_map, List.length_range] at h0
      exact heap_ltI (hcell 0 (by omega)).1
    · rw [List.length_map, List.length_range] at hk
      exact ⟨V k, (hcell k (by omega)).1, by rw [hlk k hk]; exact (hG k hk).1⟩
    · by_cases hk : k < len
      · rw [hlk k hk]; exact (hG k hk).2
      · have : lk ((List.range len).map G) k = [] := by simp [lk, List.getD_eq_getElem?_getD, hk]
        rw [this]; simp [maxLen]

theorem markL1 (B : Nat) (v : Value) (P : List (List Nat)) (w : World) (h : New B w 9 v (strs P)) (hB : B ≤ w.heap.size) (hl : P.length ≤ 1000) :
    Calls Try.prog 56 #[v, .int .i64 1] w fun e w' => e = .returned (.int .i64 (1 + (P.length : Nat))) ∧ Own w' 9 v (strs (smarks 1 P.length)) ∧ Below B w w' :=
  (markStringS_full B v P 1 w h hB (by omega) (by omega) (by omega)).mono fun e w' h => ⟨h.1, h.2.1.own, h.2.2.1⟩
theorem heldL1 (v : Value) (p : Nat) (w : World) (h : Own w 9 v (strs (smarks 1 p))) (hl : p ≤ 1000) :
    Calls Try.prog 57 #[v, .int .i64 1] w fun e w' => e = .returned (.int .i64 (1 + (p : Nat))) ∧ Below w.heap.size w w' :=
  heldStringS_any v p 1 w h (by omega) (by omega) (by omega)
theorem rowsT_len (F : List (List Int)) : (rowsT F).length ≤ 1000 := by
  unfold rowsT
  split
  · rename_i h
    unfold rowsB at h
    simp only [Bool.and_eq_true, decide_eq_true_eq] at h
    have := eqB_of h.2.1 0 (by omega)
    simp
    omega
  · simp
theorem bothRowsOf (F : List (List Int)) (hl : F.length ≤ 2000000) (hm : ∀ k, (lk F k).length ≤ 2000000) :
    ∃ (P : List (List Nat)) (flag : Bool), P.length ≤ 1000 ∧ (∀ u w, LLI w u F → Calls Try.prog 18 #[u] w (TextsAny P flag w)) ∧ (∀ u w, LLI w u F → Calls Try.prog 27 #[u] w (TextsAny P flag w)) :=
  ⟨rowsT F, rowsB F, rowsT_len F, fun u w h => iRowsOf_any u F w h hl (fun k => Nat.le_trans (hm k) (by omega)), fun u w h => sRowsOf_any u F w h hl (fun k => Nat.le_trans (hm k) (by omega))⟩

theorem offL_le {F : List (List Int)} {n : Nat} (k : Nat) (hk : k < n) : (lk F k).length ≤ offL (lens F) n := by
  have h1 : offL (lens F) (k + 1) = offL (lens F) k + (lk F k).length := rfl
  have h2 := offL_mono (lens F) (show k + 1 ≤ n by omega)
  omega
theorem lk_out {F : List (List Int)} {k : Nat} (hk : F.length ≤ k) : (lk F k).length = 0 := by
  unfold lk
  rw [List.getD_eq_getElem?_getD, List.getElem?_eq_none hk]
  rfl

set_option maxRecDepth 100000 in
set_option maxHeartbeats 1000000 in
theorem lawRowsOf (v : Value) (F : List (List Int)) (W : World) (hA : LLI W v F) (hml : F.length ≤ maxLen ∧ ∀ k, (lk F k).length ≤ maxLen) :
    Calls Try.prog 7 #[v] W fun e w' => e = .returned (.bool true) ∧ Below W.heap.size W w' := by
  obtain ⟨n, hn⟩ : ∃ n, F.length = n := ⟨_, rfl⟩
  have hv : ∃ a c, v = .slice a n c := by
    obtain ⟨a, c, e, -⟩ := hA
    exact ⟨a, c, by rw [e, hn]⟩
  obtain ⟨a, c, rfl⟩ := hv
  have HSZ := Lib.hid (fun w h => szIntSS_any (.slice a n c) F w h hml.1 hml.2)
  have HA := Lib.hid hA
  have HN := Lib.hid hn
  clear hA hn hml
  go_enter Try.func7, Try.ntmps7
  go_wp2_with fail
  refine (HSZ.out _ HA.out).mono ?_
  rintro e w1 ⟨z, rfl, hz, hz0, hz1, rfl⟩
  by_cases hneg : z < 0
  · clear hz
    go_wp2
    go_ret
    exact ⟨rfl, Below.refl _ _⟩
  obtain ⟨hsn, hof⟩ := hz (by omega)
  rw [HN.out] at hsn hof
  have HOF := Lib.hid hof
  have hle : ∀ k, (lk F k).length ≤ 1048576 := fun k => by
    by_cases hk : k < n
    · exact Nat.le_trans (offL_le k hk) HOF.out
    · rw [lk_out (by rw [HN.out]; omega)]; omega
  have HLE := Lib.hid hle
  obtain ⟨P, flag, hpl, hI, hS⟩ := bothRowsOf F (by have := HN.out; omega) (fun k => by have := HLE.out k; omega)
  have HI := Lib.hid hI
  have HS := Lib.hid hS
  unfold TextsAny at HI HS
  have HTO := Lib.hid (fun w h => toIntSS_any (.slice a n c) F w h (by have := HN.out; omega) (fun k _ => by have := HLE.out k; omega))
  rw [HN.out] at HTO
  obtain ⟨p, hp⟩ : ∃ p, P.length = p := ⟨_, rfl⟩
  have HPL := Lib.hid hp
  rw [hp] at hpl
  clear hz hof hle hI hS hp
  go_wp2_with fail
  refine (HTO.out _ HA.out).mono ?_
  rintro e w1 ⟨v1, vs1, rfl, hn1, hb1⟩
  have HB1 := Lib.hid hb1
  have HV1 := Lib.hid (hn1.read HN.out)
  clear hn1 hb1
  go_wp2_with fail
  refine (HS.out _ _ HV1.out).mono ?_
  rintro e w2 ⟨v2, rfl, hn2, hb2⟩
  have HB2 := Lib.hid (HB1.out.trans (hb2.mono HB1.out.size))
  have HV2 := Lib.hid hn2.own
  have HLT2 := Lib.hid hn2.own.lt
  have HS2S := Lib.hid HB2.out.size
  clear hn2 hb2 HV1 HB1
  go_wp2_with fail
  refine (HTO.out _ (HA.out.kept HB2.out)).mono ?_
  rintro e w3 ⟨v3, vs3, rfl, hn3, hb3⟩
  have HB3 := Lib.hid (HB2.out.trans (hb3.mono HB2.out.size))
  have HV3 := Lib.hid (HV2.out.kept hb3)
  have HX3 := Lib.hid hn3
  have HS3 := Lib.hid hb3.size
  have HS23 := Lib.hid hb3.size
  have HSW3 := Lib.hid HB3.out.size
  clear hn3 hb3 HB2 HV2
  go_wp2_with fail
  refine (HI.out _ _ (HX3.out.read HN.out)).mono ?_
  rintro e w4 ⟨v4, rfl, hn4, hb4⟩
  have HB4 := Lib.hid (HB3.out.trans (hb4.mono HB3.out.size))
  have HV4 := Lib.hid (HV3.out.kept hb4)
  have HX4 := Lib.hid (HX3.out.kept hb4)
  have HS4 := Lib.hid (Nat.le_trans HS3.out hb4.size)
  have HG4 := Lib.hid hn4
  have HT4 := Lib.hid hb4.size
  clear hn4 hb4 HB3 HV3 HS3
  go_wp2_with fail
  refine (eqStringS_same v4 v2 P _ HG4.out.own HV4.out (by rw [HPL.out]; omega)).mono ?_
  rintro e w5 ⟨rfl, d5, hd5⟩
  have HB5 : Hid (Below W.heap.size W w5) := by rw [hd5]; exact Lib.hid (below_drewN HB4.out _)
  have HV5 : Hid (Own w5 9 v2 (strs P)) := by rw [hd5]; exact Lib.hid (HV4.out.drewN _)
  have HX5 : Hid (Lists w2.heap.size w5 v3 vs3 n (lk F)) := by rw [hd5]; exact Lib.hid (HX4.out.kept (below_drewN (Below.refl _ _) _))
  have HG5 : Hid (New w3.heap.size w5 9 v4 (strs P)) := by rw [hd5]; exact Lib.hid (HG4.out.drewN _)
  have HS5 : Hid (w2.heap.size ≤ w5.heap.size) := by rw [hd5]; exact HS4
  have HT5 : Hid (w3.heap.size ≤ w5.heap.size) := by rw [hd5]; exact HT4
  clear hd5 HB4 HV4 HX4 HG4 HS4 HT4
  go_wp2_with fail
  refine (HTO.out _ (HA.out.kept HB5.out)).mono ?_
  rintro e w6 ⟨v6, vs6, rfl, hn6, hb6⟩
  have HB6 := Lib.hid (HB5.out.trans (hb6.mono HB5.out.size))
  have HV6 := Lib.hid (HV5.out.kept hb6)
  have HX6 := Lib.hid (HX5.out.kept hb6)
  have HG6 := Lib.hid (HG5.out.kept hb6)
  have HS6 := Lib.hid (Nat.le_trans HS5.out hb6.size)
  have HT6 := Lib.hid (Nat.le_trans HT5.out hb6.size)
  have HE6 := Lib.hid hn6
  clear hn6 hb6 HB5 HV5 HX5 HG5 HS5 HT5
  go_wp2_with fail
  refine (eqIntSS_big _ _ v3 v6 vs3 vs6 n (lk F) _ HX6.out HE6.out (by omega) (fun i _ => by have := HLE.out i; omega)).mono ?_
  rintro e w7 ⟨rfl, d7, hd7⟩
  have HB7 : Hid (Below W.heap.size W w7) := by rw [hd7]; exact Lib.hid (below_drewN HB6.out _)
  have HV7 : Hid (Own w7 9 v2 (strs P)) := by rw [hd7]; exact Lib.hid (HV6.out.drewN _)
  have HX7 : Hid (Lists w2.heap.size w7 v3 vs3 n (lk F)) := by rw [hd7]; exact Lib.hid (HX6.out.kept (below_drewN (Below.refl _ _) _))
  have HG7 : Hid (New w3.heap.size w7 9 v4 (strs P)) := by rw [hd7]; exact Lib.hid (HG6.out.drewN _)
  have HS7 : Hid (w2.heap.size ≤ w7.heap.size) := by rw [hd7]; exact HS6
  have HT7 : Hid (w3.heap.size ≤ w7.heap.size) := by rw [hd7]; exact HT6
  have HL7 : Hid (∀ i g, i < n → (vs3.getD i nilV).ownBlock = some g → g < w3.heap.size) := Lib.hid (fun i g hi hg => (HX3.out.inner i hi).lt g hg)
  clear hd7 HB6 HV6 HX6 HG6 HS6 HT6 HE6 HX3
  have hof2 := HOF.out
  obtain ⟨tot, htot⟩ : ∃ t, offL (lens F) n = t := ⟨_, rfl⟩
  have HTT := Lib.hid htot
  rw [htot] at hof2
  clear htot
  go_wp2_with fail
  refine (markIntSS_big _ v3 vs3 n (lk F) 1 _ HX7.out (by omega) HS7.out (by show offL (lens F) n ≤ _; rw [HTT.out]; omega) w3.heap.size HL7.out (by omega) (by omega)).mono ?_
  rintro e w8 ⟨rfl, -, hb8, hk8⟩
  rw [show offL (fun i => (lk F i).length) n = tot from HTT.out]
  have HB8 := Lib.hid (HB7.out.trans (hb8.mono HS2S.out))
  have HV8 := Lib.hid (HV7.out.underI HLT2.out hb8)
  have HG8 : Hid (New w3.heap.size w8 9 v4 (strs P)) := Lib.hid ⟨hk8 _ _ _ HG7.out.own HG7.out.base, HG7.out.base⟩
  have HT8 := Lib.hid (Nat.le_trans HT7.out hb8.size)
  have hnn : ¬ ((1 : Int) + (tot : Nat) < 0) := by omega
  clear hb8 hk8 HB7 HV7 HX7 HG7 HS7 HT7 HL7
  go_wp2_with fail
  refine (eqStringS_same v4 v2 P _ HG8.out.own HV8.out (by rw [HPL.out]; omega)).mono ?_
  rintro e w9 ⟨rfl, d9, hd9⟩
  have HB9 : Hid (Below W.heap.size W w9) := by rw [hd9]; exact Lib.hid (below_drewN HB8.out _)
  have HV9 : Hid (Own w9 9 v2 (strs P)) := by rw [hd9]; exact Lib.hid (HV8.out.drewN _)
  have HG9 : Hid (New w3.heap.size w9 9 v4 (strs P)) := by rw [hd9]; exact Lib.hid (HG8.out.drewN _)
  have HT9 : Hid (w3.heap.size ≤ w9.heap.size) := by rw [hd9]; exact HT8
  have HLT9 : Hid (∀ g, v2.ownBlock = some g → g < w3.heap.size) := Lib.hid (fun g hg => Nat.lt_of_lt_of_le (HLT2.out g hg) HS23.out)
  clear hd9 HB8 HV8 HG8 HT8
  go_wp2_with fail
  refine (markL1 w3.heap.size v4 P _ HG9.out HT9.out (by rw [HPL.out]; omega)).mono ?_
  rintro e w11 ⟨rfl, ho11, hb11⟩
  rw [HPL.out] at ho11 ⊢
  have HM11 := Lib.hid ho11
  have HB11 := Lib.hid (HB9.out.trans (hb11.mono HSW3.out))
  have HP11 := Lib.hid (HV9.out.underI HLT9.out hb11)
  have hpp : ¬ ((1 : Int) + (p : Nat) < 0) := by omega
  clear ho11 hb11 HB9 HV9 HG9 HT9
  go_wp2_with fail
  refine (heldL1 v4 p _ HM11.out (by omega)).mono ?_
  rintro e w12 ⟨rfl, hb12⟩
  have HM12 := Lib.hid (HM11.out.kept hb12)
  have HB12 := Lib.hid (HB11.out.trans (hb12.mono HB11.out.size))
  have HP12 := Lib.hid (HP11.out.kept hb12)
  clear hb12 HM11 HB11 HP11
  go_wp2_with fail
  refine (HTO.out _ (HA.out.kept HB12.out)).mono ?_
  rintro e w13 ⟨v13, vs13, rfl, hn13, hb13⟩
  have HM13 := Lib.hid (HM12.out.kept hb13)
  have HB13 := Lib.hid (HB12.out.trans (hb13.mono HB12.out.size))
  have HP13 := Lib.hid (HP12.out.kept hb13)
  have HT13 := Lib.hid (hn13.read HN.out)
  clear hb13 hn13 HM12 HB12 HP12
  go_wp2_with fail
  refine (HI.out _ _ HT13.out).mono ?_
  rintro e w14 ⟨v14, rfl, hn14, hb14⟩
  have HM14 := Lib.hid (HM13.out.kept hb14)
  have HB14 := Lib.hid (HB13.out.trans (hb14.mono HB13.out.size))
  have HP14 := Lib.hid (HP13.out.kept hb14)
  have HQ14 := Lib.hid hn14.own
  clear hb14 hn14 HM13 HB13 HP13 HT13
  go_wp2_with fail
  refine (eqStringS_same v14 v2 P _ HQ14.out HP14.out (by rw [HPL.out]; omega)).mono ?_
  rintro e w15 ⟨rfl, d15, hd15⟩
  have HM15 : Hid (Own w15 9 v4 (strs (smarks 1 p))) := by rw [hd15]; exact Lib.hid (HM14.out.drewN _)
  have HB15 : Hid (Below W.heap.size W w15) := by rw [hd15]; exact Lib.hid (below_drewN HB14.out _)
  clear hd15 HM14 HB14 HP14 HQ14
  go_wp2_with fail
  refine (heldL1 v4 p _ HM15.out (by omega)).mono ?_
  rintro e w16 ⟨rfl, hb16⟩
  go_wp2
  go_ret
  exact ⟨rfl, HB15.out.trans (hb16.mono HB15.out.size)⟩
end Go.Proofs.Ytpfnamiacagocaa
