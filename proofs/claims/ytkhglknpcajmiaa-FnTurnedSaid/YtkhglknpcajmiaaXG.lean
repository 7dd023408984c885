/- TurnTouch, ReverseTouch, LeastTurn and their laws. -/
import Derived.Test.YtkhglknpcajmiaaXF
namespace Go.Proofs.Ytkhglknpcajmiaa
open Go.RowKit
set_option linter.unusedSimpArgs false
set_option linter.unusedVariables false

def turnOk (t : ByteArray) (n : Int) : Bool := goodT t && (decide (0 ≤ n) && decide (n ≤ (t.size : Int) - 1))
def turnY (t : ByteArray) (n : Int) : ByteArray := if turnOk t n = true then turnT t n.toNat else ⟨#[]⟩
def revY (t : ByteArray) : ByteArray := if goodT t = true then revT t else ⟨#[]⟩
def leastY (t : ByteArray) (b : Bool) : ByteArray := if goodT t = true then (if b = true then minB (leastT t) (leastT (revT t)) else leastT t) else ⟨#[]⟩
theorem turnY_no {t : ByteArray} {n : Int} (h : turnOk t n = false) : turnY t n = ⟨#[]⟩ := by unfold turnY; rw [if_neg (by rw [h]; simp)]
theorem turnY_yes {t : ByteArray} {n : Nat} (h : turnOk t n = true) : turnY t n = turnT t n := by unfold turnY; rw [if_pos h, Int.toNat_natCast]
theorem turnOk_parts {t : ByteArray} {n : Int} (h : turnOk t n = true) : ∃ k : Nat, n = k ∧ k < t.size ∧ goodT t = true := by
  unfold turnOk at h
  rw [Bool.and_eq_true, Bool.and_eq_true, decide_eq_true_eq, decide_eq_true_eq] at h
  exact ⟨n.toNat, by omega, by omega, h.1⟩
theorem revY_no {t : ByteArray} (h : goodT t = false) : revY t = ⟨#[]⟩ := by unfold revY; rw [if_neg (by rw [h]; simp)]
theorem revY_yes {t : ByteArray} (h : goodT t = true) : revY t = revT t := by unfold revY; rw [if_pos h]
theorem leastY_no {t : ByteArray} (b : Bool) (h : goodT t = false) : leastY t b = ⟨#[]⟩ := by unfold leastY; rw [if_neg (by rw [h]; simp)]
theorem leastY_one {t : ByteArray} (h : goodT t = true) : leastY t false = leastT t := by unfold leastY; rw [if_pos h]; rfl
theorem leastY_two {t : ByteArray} (h : goodT t = true) : leastY t true = minB (leastT t) (leastT (revT t)) := by unfold leastY; rw [if_pos h]; rfl

set_option maxRecDepth 100000 in
set_option maxHeartbeats 1000000 in
theorem iTurnTouch_any (t : ByteArray) (ht : t.size ≤ maxLen) (n : Int) (w : World) :
    Calls Try.prog 55 #[.string t, .int .i64 n] w fun e w' => e = .returned (.tuple #[.string (turnY t n), .bool (turnOk t n)]) ∧ Below w.heap.size w w' := by
  have HG := Lib.hid (iGoodTouch_any t ht)
  have hti : (t.size : Int) ≤ 9223372036854775807 := by simp only [maxLen] at ht; omega
  cases hg : goodT t
  · have hk : turnOk t n = false := by unfold turnOk; rw [hg]; rfl
    rw [hk, turnY_no hk]
    rw [hg] at HG
    clear hk hg ht
    go_enter Try.func55, Try.ntmps55
    go_wp2_with fail
    refine (HG.out _).mono ?_
    rintro e w1 ⟨rfl, hb1⟩
    go_wp2
    go_ret2
    exact ⟨rfl, hb1⟩
  · rw [hg] at HG
    cases hk : turnOk t n
    · rw [turnY_no hk]
      have hn : n < 0 ∨ (0 ≤ n ∧ (t.size : Int) ≤ n) := by
        unfold turnOk at hk
        rw [hg, Bool.true_and] at hk
        by_cases h1 : n < 0
        · exact .inl h1
        · rw [decide_eq_true (show 0 ≤ n by omega), Bool.true_and, decide_eq_false_iff_not] at hk
          exact .inr ⟨by omega, by omega⟩
      clear hk hg ht
      rcases hn with hn | ⟨hn0, hn⟩
      · go_enter Try.func55, Try.ntmps55
        go_wp2_with fail
        refine (HG.out _).mono ?_
        rintro e w1 ⟨rfl, hb1⟩
        go_wp2
        go_ret2
        exact ⟨rfl, hb1⟩
      · have hn1 : ¬ n < 0 := by omega
        go_enter Try.func55, Try.ntmps55
        go_wp2_with fail
        refine (HG.out _).mono ?_
        rintro e w1 ⟨rfl, hb1⟩
        go_wp2
        go_ret2
        exact ⟨rfl, hb1⟩
    · obtain ⟨k, rfl, hkt, -⟩ := turnOk_parts hk
      rw [turnY_yes hk]
      have h60 := (goodT_parts hg).2.1
      have HT := Lib.hid (turnedCalls_any t k (by omega) (by omega))
      have hki : (k : Int) < t.size := by omega
      have hk0 : ¬ (k : Int) < 0 := by omega
      have hk1 : ¬ (t.size : Int) ≤ k := by omega
      clear hk hg ht hkt h60
      go_enter Try.func55, Try.ntmps55
      go_wp2_with fail
      refine (HG.out _).mono ?_
      rintro e w1 ⟨rfl, hb1⟩
      go_wp2_with fail
      refine (HT.out _).mono ?_
      rintro e w2 ⟨rfl, d, rfl⟩
      go_wp2
      go_ret2
      exact ⟨rfl, below_drewN hb1 _⟩

set_option maxRecDepth 100000 in
set_option maxHeartbeats 1000000 in
theorem sTurnTouch_any (t : ByteArray) (ht : t.size ≤ maxLen) (n : Int) (w : World) :
    Calls Try.prog 56 #[.string t, .int .i64 n] w fun e w' => e = .returned (.tuple #[.string (turnY t n), .bool (turnOk t n)]) ∧ Below w.heap.size w w' := by
  have HG := Lib.hid (l9Good_any t ht)
  have HIN := Lib.hid (l1In_any n 0 ((t.size : Int) - 1))
  have hti : (t.size : Int) ≤ 9223372036854775807 := by simp only [maxLen] at ht; omega
  cases hg : goodT t
  · have hk : turnOk t n = false := by unfold turnOk; rw [hg]; rfl
    rw [hk, turnY_no hk]
    rw [hg] at HG
    clear hk hg ht
    go_enter Try.func56, Try.ntmps56
    go_wp2_with fail
    refine (HG.out _).mono ?_
    rintro e w1 ⟨rfl, rfl⟩
    go_wp2
    go_ret2
    exact ⟨rfl, Below.refl _ _⟩
  · rw [hg] at HG
    have h1 := (goodT_parts hg).1
    have ht1 : (1 : Int) ≤ t.size := by omega
    cases hk : turnOk t n
    · rw [turnY_no hk]
      have hkk : (decide (0 ≤ n) && decide (n ≤ (t.size : Int) - 1)) = false := by
        unfold turnOk at hk
        rwa [hg, Bool.true_and] at hk
      rw [hkk] at HIN
      clear hk hg ht hkk
      go_enter Try.func56, Try.ntmps56
      go_wp2_with fail
      refine (HG.out _).mono ?_
      rintro e w1 ⟨rfl, rfl⟩
      go_wp2_with (first | (go_at_call 100; refine (HIN.out _).mono ?_; rintro e2 w2 ⟨rfl, rfl⟩) | fail)
      go_ret2
      exact ⟨rfl, Below.refl _ _⟩
    · have hkk : (decide (0 ≤ n) && decide (n ≤ (t.size : Int) - 1)) = true := by
        unfold turnOk at hk
        rwa [hg, Bool.true_and] at hk
      obtain ⟨k, rfl, hkt, -⟩ := turnOk_parts hk
      rw [turnY_yes hk]
      rw [hkk] at HIN
      have h60 := (goodT_parts hg).2.1
      have HT := Lib.hid (l9Turn_any t k (by omega) (by omega))
      clear hk hg ht hkt h60 hkk
      go_enter Try.func56, Try.ntmps56
      go_wp2_with fail
      refine (HG.out _).mono ?_
      rintro e w1 ⟨rfl, rfl⟩
      go_wp2_with (first | (go_at_call 100; refine (HIN.out _).mono ?_; rintro e2 w2 ⟨rfl, rfl⟩) | (go_at_call 123; refine (HT.out _).mono ?_; rintro e3 w3 ⟨rfl, d, rfl⟩) | fail)
      go_ret2
      exact ⟨rfl, below_drewN (Below.refl _ _) _⟩

set_option maxRecDepth 100000 in
set_option maxHeartbeats 1000000 in
theorem iReverseTouch_any (t : ByteArray) (ht : t.size ≤ maxLen) (w : World) :
    Calls Try.prog 60 #[.string t] w fun e w' => e = .returned (.tuple #[.string (revY t), .bool (goodT t)]) ∧ Below w.heap.size w w' := by
  have HG := Lib.hid (iGoodTouch_any t ht)
  cases hg : goodT t
  · rw [revY_no hg]
    rw [hg] at HG
    clear hg ht
    go_enter Try.func60, Try.ntmps60
    go_wp2_with fail
    refine (HG.out _).mono ?_
    rintro e w1 ⟨rfl, hb1⟩
    go_wp2
    go_ret2
    exact ⟨rfl, hb1⟩
  · rw [revY_yes hg]
    rw [hg] at HG
    have h1 := goodT_parts hg
    have HR := Lib.hid (reversedCalls_any t h1.1 (by omega))
    clear hg ht h1
    go_enter Try.func60, Try.ntmps60
    go_wp2_with fail
    refine (HG.out _).mono ?_
    rintro e w1 ⟨rfl, hb1⟩
    go_wp2_with fail
    refine (HR.out _).mono ?_
    rintro e w2 ⟨rfl, hb2⟩
    go_wp2
    go_ret2
    exact ⟨rfl, hb1.trans (hb2.mono hb1.size)⟩

set_option maxRecDepth 100000 in
set_option maxHeartbeats 1000000 in
theorem sReverseTouch_any (t : ByteArray) (ht : t.size ≤ maxLen) (w : World) :
    Calls Try.prog 61 #[.string t] w fun e w' => e = .returned (.tuple #[.string (revY t), .bool (goodT t)]) ∧ Below w.heap.size w w' := by
  have HG := Lib.hid (l9Good_any t ht)
  cases hg : goodT t
  · rw [revY_no hg]
    rw [hg] at HG
    clear hg ht
    go_enter Try.func61, Try.ntmps61
    go_wp2_with fail
    refine (HG.out _).mono ?_
    rintro e w1 ⟨rfl, rfl⟩
    go_wp2
    go_ret2
    exact ⟨rfl, Below.refl _ _⟩
  · rw [revY_yes hg]
    rw [hg] at HG
    have h1 := goodT_parts hg
    have HR := Lib.hid (l9Reverse_any t h1.1 (by omega))
    clear hg ht h1
    go_enter Try.func61, Try.ntmps61
    go_wp2_with fail
    refine (HG.out _).mono ?_
    rintro e w1 ⟨rfl, rfl⟩
    go_wp2_with fail
    refine (HR.out _).mono ?_
    rintro e w2 ⟨rfl, rfl⟩
    go_wp2
    go_ret2
    exact ⟨rfl, Below.refl _ _⟩

set_option maxRecDepth 100000 in
set_option maxHeartbeats 1000000 in
theorem iLeastTurn_any (t : ByteArray) (ht : t.size ≤ maxLen) (b : Bool) (w : World) :
    Calls Try.prog 58 #[.string t, .bool b] w fun e w' => e = .returned (.tuple #[.string (leastY t b), .bool (goodT t)]) ∧ Below w.heap.size w w' := by
  have HG := Lib.hid (iGoodTouch_any t ht)
  cases hg : goodT t
  · rw [leastY_no b hg]
    rw [hg] at HG
    clear hg ht
    go_enter Try.func58, Try.ntmps58
    go_wp2_with fail
    refine (HG.out _).mono ?_
    rintro e w1 ⟨rfl, hb1⟩
    go_wp2
    go_ret2
    exact ⟨rfl, hb1⟩
  · rw [hg] at HG
    have h1 := goodT_parts hg
    have HL := Lib.hid (leastTurn_any t (by omega))
    cases b
    · rw [leastY_one hg]
      clear hg ht h1
      go_enter Try.func58, Try.ntmps58
      go_wp2_with fail
      refine (HG.out _).mono ?_
      rintro e w1 ⟨rfl, hb1⟩
      go_wp2_with fail
      refine (HL.out _).mono ?_
      rintro e w2 ⟨rfl, d, rfl⟩
      go_wp2
      go_ret2
      exact ⟨rfl, below_drewN hb1 _⟩
    · rw [leastY_two hg]
      have HR := Lib.hid (reversedCalls_any t h1.1 (by omega))
      have HL2 := Lib.hid (leastTurn_any (revT t) (by rw [revT_size]; omega))
      have hmin : ∀ (w : World) (ts : Array TypeId) (ty : TypeId) (x y : ByteArray), (Builtin.min_ ts ty #[.string x, .string y]).run Try.prog w = .ok (.string (minB x y)) w := fun w ts ty x y => by rw [Lib.run_min_strs, minS_eq]
      clear hg ht h1
      go_enter Try.func58, Try.ntmps58
      go_wp2_with fail
      refine (HG.out _).mono ?_
      rintro e w1 ⟨rfl, hb1⟩
      go_wp2_with fail
      refine (HL.out _).mono ?_
      rintro e w2 ⟨rfl, d, rfl⟩
      go_wp2_with fail
      refine (HR.out _).mono ?_
      rintro e w3 ⟨rfl, hb3⟩
      go_wp2_with fail
      refine (HL2.out _).mono ?_
      rintro e w4 ⟨rfl, d4, rfl⟩
      have hb4 := below_drewN hb1 d
      go_wp2
      go_ret2
      exact ⟨rfl, below_drewN (hb4.trans (hb3.mono hb4.size)) _⟩

set_option maxRecDepth 100000 in
set_option maxHeartbeats 1000000 in
theorem sLeastTurn_any (t : ByteArray) (ht : t.size ≤ maxLen) (b : Bool) (w : World) :
    Calls Try.prog 59 #[.string t, .bool b] w fun e w' => e = .returned (.tuple #[.string (leastY t b), .bool (goodT t)]) ∧ Below w.heap.size w w' := by
  have HG := Lib.hid (l9Good_any t ht)
  cases hg : goodT t
  · rw [leastY_no b hg]
    rw [hg] at HG
    clear hg ht
    go_enter Try.func59, Try.ntmps59
    go_wp2_with fail
    refine (HG.out _).mono ?_
    rintro e w1 ⟨rfl, rfl⟩
    go_wp2
    go_ret2
    exact ⟨rfl, Below.refl _ _⟩
  · have h1 := goodT_parts hg
    have HL := Lib.hid (l9Least_any t hg)
    have HR := Lib.hid (l9Reverse_any t h1.1 (by omega))
    have HL2 := Lib.hid (l9Least_any (revT t) (goodT_rev hg))
    have hres1 := leastY_one hg
    have hres2 := leastY_two hg
    rw [hg] at HG
    unfold minB at hres2
    generalize leastT t = x at *
    generalize leastT (revT t) = y at *
    have HQ : Hid (leastY t b = if b = true ∧ Op.bytesLess y.toList x.toList = true then y else x) := Lib.hid (by
      cases b
      · rw [hres1]; rfl
      · rw [hres2]; simp)
    clear hg ht h1 hres1 hres2
    generalize leastY t b = res at *
    go_enter Try.func59, Try.ntmps59
    go_wp2_with fail
    refine (HG.out _).mono ?_
    rintro e w1 ⟨rfl, rfl⟩
    go_wp2_with fail
    refine (HL.out _).mono ?_
    rintro e w2 ⟨rfl, hb2⟩
    go_wp2_with fail
    refine (HR.out _).mono ?_
    rintro e w3 ⟨rfl, rfl⟩
    go_wp2_with fail
    refine (HL2.out _).mono ?_
    rintro e w4 ⟨rfl, hb4⟩
    have HB := Lib.hid (hb2.trans (hb4.mono hb2.size))
    clear hb2 hb4
    cases b
    · go_wp2
      go_ret2
      exact ⟨by rw [HQ.out]; rfl, HB.out⟩
    · cases hl : Op.bytesLess y.toList x.toList
      · have HZ : Hid (res = x) := Lib.hid (by rw [HQ.out, hl]; simp)
        go_wp2
        go_ret2
        exact ⟨by rw [HZ.out]; rfl, HB.out⟩
      · have HZ : Hid (res = y) := Lib.hid (by rw [HQ.out, hl]; simp)
        go_wp2
        go_ret2
        exact ⟨by rw [HZ.out]; rfl, HB.out⟩

set_option maxRecDepth 100000 in
set_option maxHeartbeats 1000000 in
theorem lawTurnTouch (t : ByteArray) (n : Int) (W : World) (ht : t.size ≤ maxLen) :
    Calls Try.prog 12 #[.string t, .int .i64 n] W fun e w' => e = .returned (.bool true) ∧ Below W.heap.size W w' := by
  by_cases hbig : 1048576 < t.size
  · have hbig' : (1048576 : Int) < t.size := by omega
    go_enter Try.func12, Try.ntmps12
    go_wp2
    go_ret
    exact ⟨rfl, Below.refl _ _⟩
  · have hbig' : (t.size : Int) ≤ 1048576 := by omega
    have HI := Lib.hid (iTurnTouch_any t ht n)
    have HS := Lib.hid (sTurnTouch_any t ht n)
    generalize turnY t n = res at *
    generalize turnOk t n = flag at *
    have hself : (flag != flag) = false := by simp
    have hself2 : (res.toList != res.toList) = false := by simp
    clear hbig ht
    go_enter Try.func12, Try.ntmps12
    go_wp2_with fail
    refine (HS.out _).mono ?_
    rintro e w1 ⟨rfl, hb1⟩
    go_wp2_with fail
    refine (HI.out _).mono ?_
    rintro e w2 ⟨rfl, hb2⟩
    go_wp2
    go_ret
    exact ⟨rfl, hb1.trans (hb2.mono hb1.size)⟩

set_option maxRecDepth 100000 in
set_option maxHeartbeats 1000000 in
theorem lawReverseTouch (t : ByteArray) (W : World) (ht : t.size ≤ maxLen) :
    Calls Try.prog 13 #[.string t] W fun e w' => e = .returned (.bool true) ∧ Below W.heap.size W w' := by
  by_cases hbig : 1048576 < t.size
  · have hbig' : (1048576 : Int) < t.size := by omega
    go_enter Try.func13, Try.ntmps13
    go_wp2
    go_ret
    exact ⟨rfl, Below.refl _ _⟩
  · have hbig' : (t.size : Int) ≤ 1048576 := by omega
    have HI := Lib.hid (iReverseTouch_any t ht)
    have HS := Lib.hid (sReverseTouch_any t ht)
    generalize revY t = res at *
    generalize goodT t = flag at *
    have hself : (flag != flag) = false := by simp
    have hself2 : (res.toList != res.toList) = false := by simp
    clear hbig ht
    go_enter Try.func13, Try.ntmps13
    go_wp2_with fail
    refine (HS.out _).mono ?_
    rintro e w1 ⟨rfl, hb1⟩
    go_wp2_with fail
    refine (HI.out _).mono ?_
    rintro e w2 ⟨rfl, hb2⟩
    go_wp2
    go_ret
    exact ⟨rfl, hb1.trans (hb2.mono hb1.size)⟩

set_option maxRecDepth 100000 in
set_option maxHeartbeats 1000000 in
theorem lawLeastTurn (t : ByteArray) (b : Bool) (W : World) (ht : t.size ≤ maxLen) :
    Calls Try.prog 14 #[.string t, .bool b] W fun e w' => e = .returned (.bool true) ∧ Below W.heap.size W w' := by
  by_cases hbig : 1048576 < t.size
  · have hbig' : (1048576 : Int) < t.size := by omega
    go_enter Try.func14, Try.ntmps14
    go_wp2
    go_ret
    exact ⟨rfl, Below.refl _ _⟩
  · have hbig' : (t.size : Int) ≤ 1048576 := by omega
    have HI := Lib.hid (iLeastTurn_any t ht b)
    have HS := Lib.hid (sLeastTurn_any t ht b)
    generalize leastY t b = res at *
    generalize goodT t = flag at *
    have hself : (flag != flag) = false := by simp
    have hself2 : (res.toList != res.toList) = false := by simp
    clear hbig ht
    go_enter Try.func14, Try.ntmps14
    go_wp2_with fail
    refine (HS.out _).mono ?_
    rintro e w1 ⟨rfl, hb1⟩
    go_wp2_with fail
    refine (HI.out _).mono ?_
    rintro e w2 ⟨rfl, hb2⟩
    go_wp2
    go_ret
    exact ⟨rfl, hb1.trans (hb2.mono hb1.size)⟩
end Go.Proofs.Ytkhglknpcajmiaa
