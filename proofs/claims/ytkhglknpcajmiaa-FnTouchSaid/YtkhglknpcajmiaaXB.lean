/- Valid touches and the numbers of their calls, in the program and in the model. -/
import Derived.Test.YtkhglknpcajmiaaXA
import Derived.Test.YtkhglknpcajmiaaQB
import Derived.Test.YtkhglknpcajmiaaQC
namespace Go.Proofs.Ytkhglknpcajmiaa
open Go.RowKit
set_option linter.unusedSimpArgs false
set_option linter.unusedVariables false

def zerosN (k : Nat) : List Nat := List.replicate k 0
theorem zerosN_set (A : List Nat) (x k : Nat) : (nums (A ++ zerosN (k + 1))).set A.length (.int .i64 (x : Nat)) = nums ((A ++ [x]) ++ zerosN k) := by
  simp [nums, ints, zerosN, List.replicate_succ, List.set_append]
theorem New.of_ownsT {B : Nat} {W : World} {e : TypeId} {v : Value} {n : Nat} {xs : List Value} (h : W.ownsRow B e 1 v n xs) (hn : xs.length = n) : New B W e v xs := by
  subst hn
  obtain ⟨q1, q2⟩ := h
  refine ⟨⟨q1, ?_⟩, fun g hg => ?_⟩
  · rcases q2 with q2 | ⟨g, cap2, cur, q3, q4, q5⟩
    · exact .inl q2
    · exact .inr ⟨g, cap2, cur, q3, Nat.zero_le _, q5⟩
  · rcases q2 with ⟨rfl, _⟩ | ⟨g', cap2, cur, rfl, q4, q5⟩
    · cases hg
    · have e : g' = g := by simpa [Value.ownBlock] using hg
      rw [← e]; exact q4
/-- the numbers of the calls, none if it is no touch -/
def kindsY (t : ByteArray) : List Nat := if goodT t = true then kindsT t else []
theorem kindsY_yes {t : ByteArray} (h : goodT t = true) : kindsY t = kindsT t := by unfold kindsY; rw [if_pos h]
theorem kindsY_no {t : ByteArray} (h : goodT t = false) : kindsY t = [] := by unfold kindsY; rw [if_neg (by rw [h]; simp)]
theorem goodT_len {t : ByteArray} (h : ¬ (1 ≤ t.size ∧ t.size ≤ 60)) : goodT t = false := by
  cases e : goodT t
  · rfl
  · have := goodT_parts e
    exact absurd ⟨this.1, this.2.1⟩ h
theorem goodT_at {t : ByteArray} (k : Nat) (hk : k < t.size) (h : kcB (dg t k) = false) : goodT t = false := by
  cases e : goodT t
  · rfl
  · have := (goodT_parts e).2.2 k hk
    rw [h] at this
    cases this
theorem kindsT_succ (t : ByteArray) (k : Nat) (hk : k < t.size) : (kindsT t).take (k + 1) = (kindsT t).take k ++ [kcN (dg t k)] := by
  have hl : k < (kindsT t).length := by rw [kindsT_len]; exact hk
  rw [List.take_succ_eq_append_getElem hl, kindsT_at]

theorem callKind_at (t : ByteArray) (k : Nat) (hk : k < t.size) (w : World) :
    Calls Try.prog 79 #[.string (t.extract k (k + 1))] w fun e w' => e = .returned (.tuple #[.int .i64 (kcN (dg t k)), .bool (kcB (dg t k))]) ∧ w' = w := by
  have := callKind_any (t.extract k (k + 1)) w
  rwa [sub_one t k hk, kN_one _ (dg_lt t k), kB_one _ (dg_lt t k), ← sub_one t k hk] at this
theorem l8Call_at (t : ByteArray) (k : Nat) (hk : k < t.size) (w : World) :
    Calls Try.prog 105 #[.string (t.extract k (k + 1))] w fun e w' => e = .returned (.bool (kcB (dg t k))) ∧ w' = w := by
  have := l8Call_any (t.extract k (k + 1)) w
  rwa [sub_one t k hk, kB_one _ (dg_lt t k), ← sub_one t k hk] at this

set_option maxRecDepth 100000 in
set_option maxHeartbeats 1000000 in
theorem touchKinds_any (t : ByteArray) (ht : t.size ≤ maxLen) (w : World) :
    Calls Try.prog 116 #[.string t] w (NumsAny (kindsY t) (goodT t) w) := by
  unfold NumsAny
  have hti : (t.size : Int) ≤ 9223372036854775807 := by simp only [maxLen] at ht; omega
  have hee := empty_size t
  by_cases h0 : t.size = 0
  · have hg := goodT_len (t := t) (by omega)
    rw [hg, kindsY_no hg]
    rw [decide_eq_true h0] at hee
    have hl0 : (t.size : Int) = 0 := by omega
    clear hg ht
    go_enter Try.func116, Try.ntmps116
    go_wp2
    go_ret2
    exact ⟨_, rfl, New.nil _ _ _, Below.refl _ _⟩
  rw [decide_eq_false h0] at hee
  by_cases h6 : 60 < t.size
  · have hg := goodT_len (t := t) (by omega)
    rw [hg, kindsY_no hg]
    have h6i : (60 : Int) < t.size := by omega
    clear hg ht h0
    go_enter Try.func116, Try.ntmps116
    go_wp2
    go_ret2
    exact ⟨_, rfl, New.nil _ _ _, Below.refl _ _⟩
  have h6i : (t.size : Int) ≤ 60 := by omega
  obtain ⟨m, hm⟩ : ∃ m, t.size = m := ⟨_, rfl⟩
  have HM := Lib.hid hm
  rw [hm] at h6i h6 h0 hti
  have HC := Lib.hid (callKind_at t)
  have HKL := Lib.hid (kindsT_len t)
  obtain ⟨i0, hi0, hz0, hz1, hz2⟩ := info_parts infoInt
  have I0 := Lib.hid (⟨hi0, hz0, hz1, hz2⟩ : _ ∧ _ ∧ _ ∧ _)
  clear ht hi0 hz0 hz1 hz2
  go_enter Try.func116, Try.ntmps116
  go_wp2_with (first | (at_make; refine wpList_make_full _ rfl _ _ 36 rfl w.heap.size 3 i0 (.int .i64 0) 1 Try.underlying36 I0.out.1 I0.out.2.1 I0.out.2.2.1 .i64 .i64 _ _ m rfl rfl rfl rfl (by rw [I0.out.2.2.2]; omega) (by unfold maxLen; omega) (Nat.le_refl _) ?_) | fail)
  intro w1 hown hgrow
  have HB1 := Lib.hid ((Below.refl _ w).grown hgrow (Nat.le_refl _) (fun k hk => by cases hk))
  have HN1 : Hid (New w.heap.size w1 3 (.slice (some ⟨w.heap.size, 0, none⟩) m m) (nums ((kindsT t).take 0 ++ zerosN m))) := Lib.hid (by
    have := hown
    rw [toList_madeCells_one] at this
    have e0 : List.replicate m (Value.int .i64 0) = nums ((kindsT t).take 0 ++ zerosN m) := by simp [nums, ints, zerosN]
    rw [e0] at this
    exact New.of_ownsT this (by simp [nums, ints, zerosN]))
  clear hown hgrow hee
  go_wp2
  go_loopg [20] m (fun q i wr => ∃ j : Nat, q + j = m ∧ i = .int .i64 j ∧ (∀ k, k < j → kcB (dg t k) = true) ∧ New w.heap.size wr 3 (.slice (some ⟨w.heap.size, 0, none⟩) m m) (nums ((kindsT t).take j ++ zerosN q)) ∧ Below w.heap.size w wr)
  case atStart => exact ⟨0, by omega, rfl, fun k hk => by omega, HN1.out, HB1.out⟩
  case round =>
    clear HN1 HB1
    obtain ⟨j, hq, rfl, hall, hn, hb⟩ := hrel
    have HQ := Lib.hid hq
    have HALL := Lib.hid hall
    have HN := Lib.hid hn
    have HB := Lib.hid hb
    clear hq hall hn hb
    by_cases hlt : j < m
    · obtain ⟨q', rfl⟩ : ∃ q', gk = q' + 1 := ⟨gk - 1, by have := HQ.out; omega⟩
      have hjt : j < t.size := by rw [HM.out]; exact hlt
      have HC1 := Lib.hid (HC.out j hjt)
      have hji : (j : Int) < m := by omega
      have hset := zerosN_set ((kindsT t).take j) (kcN (dg t j)) q'
      have hlen : ((kindsT t).take j).length = j := by rw [List.length_take, HKL.out]; omega
      rw [hlen, ← kindsT_succ t j hjt] at hset
      have HSET := Lib.hid hset
      have HBAD := Lib.hid (goodT_at j hjt)
      obtain ⟨x, hx⟩ : ∃ x, kcB (dg t j) = x := ⟨_, rfl⟩
      have HX := Lib.hid hx
      rw [hx] at HC1
      clear hset hx hjt
      cases x
      · have HG := Lib.hid (HBAD.out HX.out)
        go_wp2_with (first | (go_at_call 79; refine (HC1.out _).mono ?_; rintro e2 w2 ⟨rfl, rfl⟩) | fail)
        go_ret2
        exact ⟨_, by rw [HG.out]; rfl, by rw [kindsY_no HG.out]; exact New.nil _ _ _, HB.out⟩
      · obtain ⟨u, hu⟩ : ∃ u, (nums ((kindsT t).take j ++ zerosN (q' + 1)))[j]? = some u := ⟨_, List.getElem?_eq_getElem (by rw [nums_len, List.length_append, hlen]; simp [zerosN])⟩
        have c2 := HN.out.own.cell j u hu
        have f2 := HN.out.own.free j
        have HN6 := Lib.hid (HN.out.own.set j (.int .i64 (kcN (dg t j))))
        clear hu hlen
        go_wp2_with (first | (go_at_call 79; refine (HC1.out _).mono ?_; rintro e2 w2 ⟨rfl, rfl⟩) | fail)
        go_roundg q'
        case measure => have := HQ.out; omega
        case rel => exact ⟨j + 1, by have := HQ.out; omega, by go_num, fun k hk => by
          rcases Nat.lt_or_ge k j with h1 | h1
          · exact HALL.out k h1
          · obtain rfl : k = j := by omega
            exact HX.out, ⟨by have := HN6.out; rw [HSET.out] at this; exact this, HN.out.base⟩, HB.out.setCell (Nat.le_refl _) _⟩
    · obtain rfl : j = m := by have := HQ.out; omega
      obtain rfl : gk = 0 := by have := HQ.out; omega
      have hg := goodT_mk (t := t) (by have := HM.out; omega) (by have := HM.out; omega) (fun k hk => HALL.out k (by rw [← HM.out]; exact hk))
      have HG := Lib.hid hg
      have hn := HN.out
      rw [show zerosN 0 = [] from rfl, List.append_nil, List.take_of_length_le (by rw [HKL.out, HM.out]; exact Nat.le_refl _)] at hn
      have HN2 := Lib.hid hn
      clear hn hg HN
      go_wp2
      go_ret2
      exact ⟨_, by rw [HG.out]; rfl, by rw [kindsY_yes HG.out]; exact HN2.out, HB.out⟩

set_option maxRecDepth 100000 in
set_option maxHeartbeats 1000000 in
theorem iGoodTouch_any (t : ByteArray) (ht : t.size ≤ maxLen) (w : World) :
    Calls Try.prog 50 #[.string t] w fun e w' => e = .returned (.bool (goodT t)) ∧ Below w.heap.size w w' := by
  have HT := Lib.hid (touchKinds_any t ht)
  unfold NumsAny at HT
  generalize goodT t = gt at *
  clear ht
  go_enter Try.func50, Try.ntmps50
  go_wp2_with fail
  refine (HT.out _).mono ?_
  rintro e w1 ⟨v1, rfl, hn1, hb1⟩
  go_wp2
  go_ret
  exact ⟨rfl, hb1⟩

set_option maxRecDepth 100000 in
set_option maxHeartbeats 1000000 in
theorem l9Good_any (t : ByteArray) (ht : t.size ≤ maxLen) (w : World) :
    Calls Try.prog 117 #[.string t] w fun e w' => e = .returned (.bool (goodT t)) ∧ w' = w := by
  have hti : (t.size : Int) ≤ 9223372036854775807 := by simp only [maxLen] at ht; omega
  obtain ⟨m, hm⟩ : ∃ m, t.size = m := ⟨_, rfl⟩
  have HM := Lib.hid hm
  have HC := Lib.hid (l8Call_at t)
  have HIN := Lib.hid (l1In_any)
  have hmi : (m : Int) ≤ 9223372036854775807 := by rw [← hm]; exact hti
  clear ht
  go_enter Try.func117, Try.ntmps117
  go_wp2
  go_loopg [3] m (fun q i wr => ∃ j : Nat, q + j = m ∧ i = .int .i64 j ∧ (∀ k, k < j → kcB (dg t k) = true) ∧ wr = w)
  case atStart => exact ⟨0, by omega, rfl, fun k hk => by omega, rfl⟩
  case round =>
    obtain ⟨j, hq, rfl, hall, rfl⟩ := hrel
    have HQ := Lib.hid hq
    have HALL := Lib.hid hall
    clear hq hall
    by_cases hlt : j < m
    · have hjt : j < t.size := by rw [HM.out]; exact hlt
      have HC1 := Lib.hid (HC.out j hjt)
      have hji : (j : Int) < t.size := by omega
      have HBAD := Lib.hid (goodT_at j hjt)
      obtain ⟨x, hx⟩ : ∃ x, kcB (dg t j) = x := ⟨_, rfl⟩
      have HX := Lib.hid hx
      rw [hx] at HC1
      clear hx hm
      cases x
      · have HG := Lib.hid (HBAD.out HX.out)
        go_wp2_with (first | (go_at_call 105; refine (HC1.out _).mono ?_; rintro e2 w2 ⟨rfl, rfl⟩) | fail)
        go_ret
        exact ⟨by rw [HG.out]; rfl, rfl⟩
      · go_wp2_with (first | (go_at_call 105; refine (HC1.out _).mono ?_; rintro e2 w2 ⟨rfl, rfl⟩) | fail)
        go_roundg (m - (j + 1))
        case measure => have := HQ.out; omega
        case rel => exact ⟨j + 1, by have := HQ.out; omega, by go_num, fun k hk => by
          rcases Nat.lt_or_ge k j with h1 | h1
          · exact HALL.out k h1
          · obtain rfl : k = j := by omega
            exact HX.out, rfl⟩
    · obtain rfl : j = m := by have := HQ.out; omega
      have hjt : ¬ (j : Int) < t.size := by have := HM.out; omega
      have hres : goodT t = (decide ((1 : Int) ≤ t.size) && decide ((t.size : Int) ≤ 60)) := by
        by_cases h : 1 ≤ t.size ∧ t.size ≤ 60
        · rw [goodT_mk h.1 h.2 (fun k hk => HALL.out k (by rw [← HM.out]; exact hk)), decide_eq_true (show (1 : Int) ≤ t.size by omega), decide_eq_true (show (t.size : Int) ≤ 60 by omega)]
          rfl
        · rw [goodT_len h]
          by_cases h1 : 1 ≤ t.size
          · rw [decide_eq_false (show ¬ (t.size : Int) ≤ 60 by omega), Bool.and_false]
          · rw [decide_eq_false (show ¬ (1 : Int) ≤ t.size by omega), Bool.false_and]
      have HRES := Lib.hid hres
      clear hres hm
      go_wp2_with (first | (go_at_call 100; refine (HIN.out _ _ _ _).mono ?_; rintro e2 w2 ⟨rfl, rfl⟩) | fail)
      go_ret
      exact ⟨by rw [HRES.out]; rfl, rfl⟩

set_option maxRecDepth 100000 in
set_option maxHeartbeats 1000000 in
theorem sGoodTouch_any (t : ByteArray) (ht : t.size ≤ maxLen) (w : World) :
    Calls Try.prog 51 #[.string t] w fun e w' => e = .returned (.bool (goodT t)) ∧ w' = w := by
  have HT := Lib.hid (l9Good_any t ht)
  generalize goodT t = gt at *
  clear ht
  go_enter Try.func51, Try.ntmps51
  go_wp2_with fail
  refine (HT.out _).mono ?_
  rintro e w1 ⟨rfl, rfl⟩
  go_wp2
  go_ret
  exact ⟨rfl, rfl⟩

set_option maxRecDepth 100000 in
set_option maxHeartbeats 1000000 in
theorem lawGoodTouch (t : ByteArray) (W : World) (ht : t.size ≤ maxLen) :
    Calls Try.prog 7 #[.string t] W fun e w' => e = .returned (.bool true) ∧ Below W.heap.size W w' := by
  by_cases hbig : 1048576 < t.size
  · have hbig' : (1048576 : Int) < t.size := by omega
    go_enter Try.func7, Try.ntmps7
    go_wp2
    go_ret
    exact ⟨rfl, Below.refl _ _⟩
  · have hbig' : (t.size : Int) ≤ 1048576 := by omega
    have HI := Lib.hid (iGoodTouch_any t ht)
    have HS := Lib.hid (sGoodTouch_any t ht)
    generalize goodT t = gt at *
    have hself : (gt != gt) = false := by simp
    clear hbig ht
    go_enter Try.func7, Try.ntmps7
    go_wp2_with fail
    refine (HS.out _).mono ?_
    rintro e w1 ⟨rfl, rfl⟩
    go_wp2_with fail
    refine (HI.out _).mono ?_
    rintro e w2 ⟨rfl, hb2⟩
    go_wp2
    go_ret
    exact ⟨rfl, hb2⟩
end Go.Proofs.Ytkhglknpcajmiaa
