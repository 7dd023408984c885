/- How many calls of each kind a touch has, in the program and in the model, and the law. -/
import Derived.Test.YtkhglknpcajmiaaXB
namespace Go.Proofs.Ytkhglknpcajmiaa
open Go.RowKit
set_option linter.unusedSimpArgs false
set_option linter.unusedVariables false

/-- how often 0, 1 and 2 -/
def cnt3 (A : List Nat) : List Nat := [A.count 0, A.count 1, A.count 2]
theorem cnt3_at (A : List Nat) (k : Nat) (hk : k < 3) : (nums (cnt3 A))[k]? = some (.int .i64 (A.count k : Nat)) := by
  have : k = 0 ∨ k = 1 ∨ k = 2 := by omega
  rcases this with rfl | rfl | rfl <;> rfl
theorem cnt3_set (A : List Nat) (k : Nat) (hk : k < 3) : (nums (cnt3 A)).set k (.int .i64 ((A.count k : Nat) + 1)) = nums (cnt3 (A ++ [k])) := by
  have : k = 0 ∨ k = 1 ∨ k = 2 := by omega
  rcases this with rfl | rfl | rfl <;> simp [nums, ints, cnt3, List.count_append]
def callsY (t : ByteArray) : List Nat := if goodT t = true then cnt3 (kindsT t) else []
theorem callsY_yes {t : ByteArray} (h : goodT t = true) : callsY t = cnt3 (kindsT t) := by unfold callsY; rw [if_pos h]
theorem callsY_no {t : ByteArray} (h : goodT t = false) : callsY t = [] := by unfold callsY; rw [if_neg (by rw [h]; simp)]
theorem callsY_len (t : ByteArray) : (callsY t).length ≤ 3 := by
  unfold callsY
  split
  · exact Nat.le_refl _
  · simp

set_option maxRecDepth 100000 in
set_option maxHeartbeats 1000000 in
theorem iCallsIn_any (t : ByteArray) (ht : t.size ≤ maxLen) (w : World) :
    Calls Try.prog 62 #[.string t] w (NumsAny (callsY t) (goodT t) w) := by
  have HT := Lib.hid (touchKinds_any t ht)
  unfold NumsAny at HT ⊢
  cases hg : goodT t
  · rw [callsY_no hg]
    rw [hg, kindsY_no hg] at HT
    clear hg ht
    go_enter Try.func62, Try.ntmps62
    go_wp2_with fail
    refine (HT.out _).mono ?_
    rintro e w1 ⟨v1, rfl, hn1, hb1⟩
    go_wp2
    go_ret2
    exact ⟨_, rfl, New.nil _ _ _, hb1⟩
  · rw [callsY_yes hg]
    rw [hg, kindsY_yes hg] at HT
    have h60 := (goodT_parts hg).2.1
    rw [← kindsT_len t] at h60
    have hlt3 := kindsT_lt t
    generalize kindsT t = ks at *
    obtain ⟨m, hm⟩ : ∃ m, ks.length = m := ⟨_, rfl⟩
    have HM := Lib.hid hm
    have HLT := Lib.hid hlt3
    obtain ⟨i0, hi0, hz0, hz1, hz2⟩ := info_parts infoInt
    have I0 := Lib.hid (⟨hi0, hz0, hz1, hz2⟩ : _ ∧ _ ∧ _ ∧ _)
    rw [hm] at h60
    clear hg ht hlt3 hm hi0 hz0 hz1 hz2
    go_enter Try.func62, Try.ntmps62
    go_wp2_with fail
    refine (HT.out _).mono ?_
    rintro e w1 ⟨v1, rfl, hn1, hb1⟩
    have HV := Lib.hid hn1
    have HB1 := Lib.hid hb1
    obtain ⟨a1, k1, rfl, ha1⟩ := hn1.own.view
    rw [nums_len, HM.out] at HV ha1 ⊢
    have HA := Lib.hid ha1
    clear hn1 hb1 ha1 HT
    go_wp2_with (first | (at_make; refine wpList_make_full _ rfl _ _ 36 rfl w1.heap.size 3 i0 (.int .i64 0) 1 Try.underlying36 I0.out.1 I0.out.2.1 I0.out.2.2.1 .i64 .i64 _ _ 3 rfl rfl rfl rfl (by rw [I0.out.2.2.2]; omega) (by unfold maxLen; omega) (Nat.le_refl _) ?_) | fail)
    intro w2 hown hgrow
    have hb2 := (Below.refl _ w1).grown hgrow (Nat.le_refl _) (fun k hk => by cases hk)
    have HB2 := Lib.hid (HB1.out.trans (hb2.mono HB1.out.size))
    have HV2 := Lib.hid (HV.out.kept hb2)
    have HN2 : Hid (New w1.heap.size w2 3 (.slice (some ⟨w1.heap.size, 0, none⟩) 3 3) (nums (cnt3 (ks.take 0)))) := Lib.hid (by
      have := hown
      rw [toList_madeCells_one] at this
      exact New.of_ownsT this rfl)
    have HLE := Lib.hid HB1.out.size
    have HVLT : Hid (∀ g, (Value.slice a1 m k1).ownBlock = some g → g < w1.heap.size) := Lib.hid (fun g hg => (HV.out.own.lt g hg))
    clear hown hgrow hb2 HB1 HV
    go_wp2
    go_loopg [19] m (fun q i wr => ∃ j : Nat, q + j = m ∧ i = .int .i64 j ∧ New w1.heap.size wr 3 (.slice (some ⟨w1.heap.size, 0, none⟩) 3 3) (nums (cnt3 (ks.take j))) ∧ New w.heap.size wr 3 (.slice a1 m k1) (nums ks) ∧ Below w.heap.size w wr)
    case atStart => exact ⟨0, by omega, rfl, HN2.out, HV2.out, HB2.out⟩
    case round =>
      clear HN2 HV2 HB2
      obtain ⟨j, hq, rfl, hn, hv, hb⟩ := hrel
      have HQ := Lib.hid hq
      have HN := Lib.hid hn
      have HV := Lib.hid hv
      have HB := Lib.hid hb
      clear hq hn hv hb
      by_cases hlt : j < m
      · obtain ⟨g, rfl⟩ := HA.out (by omega)
        have hjk : j < ks.length := by rw [HM.out]; exact hlt
        have c1 := HV.out.own.cell j (.int .i64 (ks[j] : Nat)) (by simp [nums, ints, hjk])
        have h3 := HLT.out _ (List.getElem_mem hjk)
        have htk : ks.take (j + 1) = ks.take j ++ [ks[j]] := List.take_succ_eq_append_getElem hjk
        have HTK := Lib.hid htk
        have hcc := cnt3_at (ks.take j) ks[j] h3
        have hset := cnt3_set (ks.take j) ks[j] h3
        rw [← htk] at hset
        have hcl : (ks.take j).count ks[j] ≤ 60 := by
          have := List.count_le_length (a := ks[j]) (l := ks.take j)
          rw [List.length_take] at this
          omega
        have HSET := Lib.hid hset
        have c2 := HN.out.own.cell ks[j] _ hcc
        have f2 := HN.out.own.free ks[j]
        have hgne : g ≠ w1.heap.size := by have := HVLT.out g rfl; omega
        clear hcc htk hset HTK
        generalize ks[j] = x at *
        clear hjk
        generalize (ks.take j).count x = c at *
        have HN6 := Lib.hid (HN.out.own.set x (.int .i64 ((c : Int) + 1)))
        have hji : (j : Int) < m := by omega
        have hxi : (x : Int) < 3 := by omega
        have HV6 := Lib.hid (HV.out.setOther w1.heap.size x (.int .i64 ((c : Int) + 1)) (fun e => by injection e with e; exact hgne e))
        clear HV
        go_wp2
        go_roundg (m - (j + 1))
        case measure => have := HQ.out; omega
        case rel => exact ⟨j + 1, by have := HQ.out; omega, by go_num, ⟨by have := HN6.out; rw [HSET.out] at this; exact this, HN.out.base⟩, HV6.out, HB.out.setCell HLE.out _⟩
      · obtain rfl : j = m := by have := HQ.out; omega
        have hn := HN.out
        rw [List.take_of_length_le (by rw [HM.out]; exact Nat.le_refl _)] at hn
        have HN2 := Lib.hid (hn.lower HLE.out)
        clear hn HN HV
        go_wp2
        go_ret2
        exact ⟨_, rfl, HN2.out, HB.out⟩

set_option maxRecDepth 100000 in
set_option maxHeartbeats 1000000 in
theorem sCallsIn_any (t : ByteArray) (ht : t.size ≤ maxLen) (w : World) :
    Calls Try.prog 63 #[.string t] w (NumsAny (callsY t) (goodT t) w) := by
  have HT := Lib.hid (l9Good_any t ht)
  unfold NumsAny
  cases hg : goodT t
  · rw [callsY_no hg]
    rw [hg] at HT
    clear hg ht
    go_enter Try.func63, Try.ntmps63
    go_wp2_with fail
    refine (HT.out _).mono ?_
    rintro e w1 ⟨rfl, rfl⟩
    go_wp2
    go_ret2
    exact ⟨_, rfl, New.nil _ _ _, Below.refl _ _⟩
  · rw [callsY_yes hg]
    rw [hg] at HT
    obtain ⟨h1, h60, hall⟩ := goodT_parts hg
    obtain ⟨m, hm⟩ : ∃ m, t.size = m := ⟨_, rfl⟩
    have HM := Lib.hid hm
    have HALL := Lib.hid hall
    have HKL := Lib.hid (kindsT_len t)
    have HSUC := Lib.hid (kindsT_succ t)
    have hat := dg_at t
    have hti : (t.size : Int) ≤ 60 := by omega
    rw [hm] at h60
    clear hg ht hall h1
    generalize hd : dg t = f at *
    clear hd
    go_enter Try.func63, Try.ntmps63
    go_wp2_with fail
    refine (HT.out _).mono ?_
    rintro e w1 ⟨rfl, rfl⟩
    go_wp2
    have HB0 := Lib.hid ((Below.refl _ w1).alloc (Nat.le_refl _) (.cells #[.int .i64 0, .int .i64 0, .int .i64 0] 3))
    have HN0 : Hid (New w1.heap.size (w1.alloc (.cells #[.int .i64 0, .int .i64 0, .int .i64 0] 3)) 3 (.slice (some ⟨w1.heap.size, 0, none⟩) 3 3) (nums (cnt3 ((kindsT t).take 0)))) :=
      Lib.hid (New.of_ownsT ⟨rfl, .inr ⟨w1.heap.size, 3, #[.int .i64 0, .int .i64 0, .int .i64 0], rfl, Nat.le_refl _, heap_alloc_new _ _, Nat.le_refl _, by unfold maxLen; omega, rfl, rfl⟩⟩ rfl)
    generalize w1.alloc (.cells #[.int .i64 0, .int .i64 0, .int .i64 0] 3) = w2 at *
    go_loopg [5] m (fun q i wr => ∃ j : Nat, q + j = m ∧ i = .int .i64 j ∧ New w1.heap.size wr 3 (.slice (some ⟨w1.heap.size, 0, none⟩) 3 3) (nums (cnt3 ((kindsT t).take j))) ∧ Below w1.heap.size w1 wr)
    case atStart => exact ⟨0, by omega, rfl, HN0.out, HB0.out⟩
    case round =>
      clear HN0 HB0
      obtain ⟨j, hq, rfl, hn, hb⟩ := hrel
      have HQ := Lib.hid hq
      have HN := Lib.hid hn
      have HB := Lib.hid hb
      clear hq hn hb
      by_cases hlt : j < m
      · have hjt : j < t.size := by rw [HM.out]; exact hlt
        have hji : (j : Int) < t.size := by omega
        have hk := HALL.out j hjt
        have hset := cnt3_set ((kindsT t).take j) (kcN (f j)) (kcN_lt _)
        rw [← HSUC.out j hjt] at hset
        have hcl : ((kindsT t).take j).count (kcN (f j)) ≤ 60 := by
          have := List.count_le_length (a := kcN (f j)) (l := (kindsT t).take j)
          rw [List.length_take] at this
          omega
        have hcc := cnt3_at ((kindsT t).take j) (kcN (f j)) (kcN_lt _)
        generalize hcx : ((kindsT t).take j).count (kcN (f j)) = c at *
        clear hcx
        have HSET := Lib.hid hset
        have c2 := HN.out.own.cell (kcN (f j)) _ hcc
        have f2 := HN.out.own.free (kcN (f j))
        have HN6 := Lib.hid (HN.out.own.set (kcN (f j)) (.int .i64 ((c : Int) + 1)))
        have hat2 := hat j hjt
        clear hset hcc hm hat
        have h3 : f j = 112 ∨ f j = 98 ∨ f j = 115 := by
          unfold kcB at hk
          simp only [Bool.or_eq_true, decide_eq_true_eq] at hk
          rcases hk with (hk | hk) | hk
          · exact .inl hk
          · exact .inr (.inl hk)
          · exact .inr (.inr hk)
        clear hk
        rcases h3 with h3 | h3 | h3
        · rw [h3] at hat2 c2 f2 HN6 HSET
          have e0 : kcN 112 = 0 := rfl
          rw [e0] at c2 f2 HN6 HSET
          clear e0 h3
          go_wp2
          go_roundg (m - (j + 1))
          case measure => have := HQ.out; omega
          case rel => exact ⟨j + 1, by have := HQ.out; omega, by go_num, ⟨by have := HN6.out; rw [HSET.out] at this; exact this, HN.out.base⟩, HB.out.setCell (Nat.le_refl _) _⟩
        · rw [h3] at hat2 c2 f2 HN6 HSET
          have e0 : kcN 98 = 1 := rfl
          rw [e0] at c2 f2 HN6 HSET
          clear e0 h3
          go_wp2
          go_roundg (m - (j + 1))
          case measure => have := HQ.out; omega
          case rel => exact ⟨j + 1, by have := HQ.out; omega, by go_num, ⟨by have := HN6.out; rw [HSET.out] at this; exact this, HN.out.base⟩, HB.out.setCell (Nat.le_refl _) _⟩
        · rw [h3] at hat2 c2 f2 HN6 HSET
          have e0 : kcN 115 = 2 := rfl
          rw [e0] at c2 f2 HN6 HSET
          clear e0 h3
          go_wp2
          go_roundg (m - (j + 1))
          case measure => have := HQ.out; omega
          case rel => exact ⟨j + 1, by have := HQ.out; omega, by go_num, ⟨by have := HN6.out; rw [HSET.out] at this; exact this, HN.out.base⟩, HB.out.setCell (Nat.le_refl _) _⟩
      · obtain rfl : j = m := by have := HQ.out; omega
        have hji : ¬ (j : Int) < t.size := by have := HM.out; omega
        have hn := HN.out
        rw [List.take_of_length_le (by rw [HKL.out, HM.out]; exact Nat.le_refl _)] at hn
        have HN2 := Lib.hid hn
        clear hn HN hm
        go_wp2
        go_ret2
        exact ⟨_, rfl, HN2.out, HB.out⟩

set_option maxRecDepth 100000 in
set_option maxHeartbeats 1000000 in
theorem lawCallsIn (s : ByteArray) (w : World) (hs : s.size ≤ maxLen) :
    Calls Try.prog 15 #[.string s] w fun e w' => e = .returned (.bool true) ∧ Below w.heap.size w w' := by
  by_cases hbig : 1048576 < s.size
  · have hbig' : (1048576 : Int) < s.size := by omega
    go_enter Try.func15, Try.ntmps15
    go_wp2
    go_ret
    exact ⟨rfl, Below.refl _ _⟩
  · have hbig' : (s.size : Int) ≤ 1048576 := by omega
    have hlen := callsY_len s
    have HS := Lib.hid (sCallsIn_any s hs)
    have HI := Lib.hid (iCallsIn_any s hs)
    unfold NumsAny at HS HI
    generalize callsY s = xs at hlen HS HI
    generalize goodT s = b at HS HI
    have hl1 : ((xs.map fun (k : Nat) => (k : Int)).length) = xs.length := by simp
    generalize hys : (xs.map fun (k : Nat) => (k : Int)) = ys at hl1
    have hnums : nums xs = ints ys := by unfold nums; rw [hys]
    have HNM := Lib.hid hnums
    obtain ⟨m, hm⟩ : ∃ m, ys.length = m := ⟨_, rfl⟩
    have hm8 : m ≤ 8 := by omega
    have HM := Lib.hid hm
    clear hnums hys hl1 hlen hm
    go_enter Try.func15, Try.ntmps15
    go_wp2_with fail
    refine (HS.out _).mono ?_
    rintro e w1 ⟨v1, rfl, hl1, hb1⟩
    rw [HNM.out] at hl1
    have L1 := Lib.hid hl1
    have B1 := Lib.hid hb1
    clear hl1 hb1
    go_wp2_with fail
    refine (HI.out _).mono ?_
    rintro e w2 ⟨v2, rfl, hl2, hb2⟩
    rw [HNM.out] at hl2
    have L2 := Lib.hid hl2
    have B2 := Lib.hid hb2
    clear hl2 hb2
    go_wp2_with fail
    refine (eqIntS_same v2 v1 ys _ L2.out.own (L1.out.own.kept B2.out) (by rw [HM.out]; omega)).mono ?_
    rintro e w3 ⟨rfl, d3, hd3⟩
    have L3 : Hid (New w1.heap.size w3 3 v2 (ints ys)) := by rw [hd3]; exact L2.out.drewN _
    have B3 : Hid (Below w1.heap.size w1 w3) := by rw [hd3]; exact below_drewN B2.out _
    clear hd3
    go_wp2_with fail
    refine (markIntS_any v2 ys 1 _ L3.out.own (by rw [HM.out]; omega) (by omega) (by omega)).mono ?_
    rintro e w4 ⟨rfl, hl4, hg4⟩
    rw [HM.out] at hl4
    have L4 := Lib.hid hl4
    have B4 := Lib.hid (B3.out.grown hg4 B3.out.size (fun g hg => L3.out.base g hg))
    rw [HM.out]
    clear hl4 hg4
    go_wp2_with fail
    refine (heldIntS_any v2 m 1 _ L4.out (by omega) (by omega) (by omega)).mono ?_
    rintro e w' ⟨rfl, rfl⟩
    have hnn : ¬ ((1 : Int) + (m : Nat) < 0) := by omega
    go_wp2_with fail
    refine (HI.out _).mono ?_
    rintro e w5 ⟨v5, rfl, hl5, hb5⟩
    rw [HNM.out] at hl5
    have L5 := Lib.hid hl5
    have L4' := Lib.hid (L4.out.kept hb5)
    have B5 := Lib.hid (B4.out.trans (hb5.mono B4.out.size))
    clear hl5 hb5
    go_wp2_with fail
    refine (eqIntS_same v5 v1 ys _ L5.out.own (L1.out.own.kept B5.out) (by rw [HM.out]; omega)).mono ?_
    rintro e w6 ⟨rfl, d6, hd6⟩
    have L6 : Hid (Own w6 3 v2 (ints (marks 1 m))) := by rw [hd6]; exact L4'.out.drewN _
    have B6 : Hid (Below w1.heap.size w1 w6) := by rw [hd6]; exact below_drewN B5.out _
    clear hd6
    go_wp2_with fail
    refine (heldIntS_any v2 m 1 _ L6.out (by omega) (by omega) (by omega)).mono ?_
    rintro e w' ⟨rfl, rfl⟩
    go_wp2
    go_ret
    exact ⟨rfl, B1.out.trans (B6.out.mono B1.out.size)⟩
end Go.Proofs.Ytkhglknpcajmiaa
