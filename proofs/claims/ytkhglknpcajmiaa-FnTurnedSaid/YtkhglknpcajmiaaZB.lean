/- The law FnTurned. -/
import Derived.Test.YtkhglknpcajmiaaYB
import Derived.Test.YtkhglknpcajmiaaYC
import Derived.Test.YtkhglknpcajmiaaXT
import Derived.Test.YtkhglknpcajmiaaXG
import Derived.Test.YtkhglknpcajmiaaXC
import Derived.Test.YtkhglknpcajmiaaQU
namespace Go.Proofs.Ytkhglknpcajmiaa
open Go.RowKit
set_option linter.unusedSimpArgs false
set_option linter.unusedVariables false

theorem lexL_trans : ∀ {a b c : List Nat}, lexL a b = true → lexL b c = true → lexL a c = true
  | [], [], _, h, _ => by cases h
  | [], _ :: _, [], _, h => by cases h
  | [], _ :: _, _ :: _, _, _ => rfl
  | _ :: _, [], _, h, _ => by cases h
  | _ :: _, _ :: _, [], _, h => by cases h
  | a :: l, b :: r, c :: q, h1, h2 => by
    have ih := @lexL_trans l r q
    unfold lexL at h1 h2 ⊢
    simp only [Bool.or_eq_true, decide_eq_true_eq, Bool.and_eq_true, beq_iff_eq] at h1 h2 ⊢
    rcases h1 with h1 | ⟨rfl, h1⟩
    · rcases h2 with h2 | ⟨rfl, h2⟩
      · exact .inl (by omega)
      · exact .inl h1
    · rcases h2 with h2 | ⟨rfl, h2⟩
      · exact .inl h2
      · exact .inr ⟨rfl, ih h1 h2⟩
theorem lexL_tri {a b : List Nat} (h1 : lexL a b = false) (h2 : lexL b a = false) : a = b := by
  have h := lexL_gt a b
  rw [h1, h2] at h
  simpa using h
theorem minB_lex (a b : ByteArray) : minB a b = if lexL (lets b) (lets a) = true then b else a := by
  unfold minB
  rw [less_lets]
theorem lexL_not {a b : List Nat} (h : lexL a b = true) : lexL b a = false := by
  have h3 := lexL_gt a b
  rw [h] at h3
  rw [← h3]; rfl
theorem minB_comm (a b : ByteArray) : minB a b = minB b a := by
  rw [minB_lex, minB_lex]
  cases h1 : lexL (lets b) (lets a)
  · cases h2 : lexL (lets a) (lets b)
    · simp only [Bool.false_eq_true, if_false]
      exact lets_inj (lexL_tri h2 h1)
    · simp
  · rw [lexL_not h1]
    simp
theorem rot_at {L : List Nat} {k i : Nat} (hk : k ≤ L.length) (hi : i < L.length) : (L.drop k ++ L.take k)[i]? = L[(i + k) % L.length]? := by
  by_cases h : i + k < L.length
  · rw [List.getElem?_append_left (by rw [List.length_drop]; omega), List.getElem?_drop, Nat.mod_eq_of_lt h, Nat.add_comm]
  · have e : (i + k) % L.length = i + k - L.length := by
      rw [Nat.mod_eq_sub_mod (by omega), Nat.mod_eq_of_lt (by omega)]
    rw [List.getElem?_append_right (by rw [List.length_drop]; omega), List.length_drop, List.getElem?_take, if_pos (by omega), e]
    congr 1
    omega
theorem turn_turn (t : ByteArray) {k j : Nat} (hk : k < t.size) (hj : j < t.size) : turnT (turnT t k) j = turnT t ((k + j) % t.size) := by
  have hm : (k + j) % t.size < t.size := Nat.mod_lt _ (by omega)
  refine lets_inj ?_
  refine List.ext_getElem? fun i => ?_
  have l0 := lets_len t
  by_cases hi : i < t.size
  · have l1 : (lets (turnT t k)).length = t.size := by rw [lets_len, turnT_size]
    rw [lets_turn (turnT t k), rot_at (by rw [l1]; omega) (by rw [l1]; exact hi), l1, lets_turn t k, rot_at (by rw [l0]; omega) (by rw [l0]; exact Nat.mod_lt _ (by omega)), lets_turn t, rot_at (by rw [l0]; omega) (by rw [l0]; exact hi), l0, Nat.mod_add_mod, Nat.add_mod_mod]
    congr 2
    omega
  · rw [List.getElem?_eq_none (by rw [lets_len, turnT_size, turnT_size]; omega), List.getElem?_eq_none (by rw [lets_len, turnT_size]; omega)]
theorem turn_zero (t : ByteArray) : turnT t 0 = t := by
  refine lets_inj ?_
  rw [lets_turn]
  simp
theorem leastTo_mem {t : ByteArray} (ht : 1 ≤ t.size) : ∀ k, k ≤ t.size → ∃ j, j < t.size ∧ leastTo t k = turnT t j
  | 0, _ => ⟨0, ht, (turn_zero t).symm⟩
  | k + 1, h => by
    obtain ⟨j, hj, e⟩ := leastTo_mem ht k (by omega)
    show ∃ j, j < t.size ∧ minB (leastTo t k) (turnT t k) = turnT t j
    rw [minB_lex]
    split
    · exact ⟨k, by omega, rfl⟩
    · exact ⟨j, hj, e⟩
theorem minB_le1 {a b x : ByteArray} (h : lexL (lets x) (lets a) = false) : lexL (lets x) (lets (minB a b)) = false := by
  rw [minB_lex]
  split
  · rename_i hb
    cases hx : lexL (lets x) (lets b)
    · rfl
    · rw [lexL_trans hx hb] at h
      cases h
  · exact h
theorem minB_le2 (a b : ByteArray) : lexL (lets b) (lets (minB a b)) = false := by
  rw [minB_lex]
  cases hb : lexL (lets b) (lets a)
  · simp [hb]
  · simp only [if_true]
    cases hx : lexL (lets b) (lets b)
    · rfl
    · rw [lexL_not hx] at hx
      cases hx
theorem leastTo_le (t : ByteArray) : ∀ k j, j < k → lexL (lets (turnT t j)) (lets (leastTo t k)) = false
  | 0, j, h => by omega
  | k + 1, j, h => by
    show lexL _ (lets (minB (leastTo t k) (turnT t k))) = false
    by_cases e : j = k
    · subst e
      exact minB_le2 _ _
    · exact minB_le1 (leastTo_le t k j (by omega))
/-- no turn is less than the least one -/
theorem leastT_le {t : ByteArray} {j : Nat} (h : j < t.size) : lexL (lets (turnT t j)) (lets (leastT t)) = false := leastTo_le t _ j h
theorem leastT_mem {t : ByteArray} (ht : 1 ≤ t.size) : ∃ j, j < t.size ∧ leastT t = turnT t j := leastTo_mem ht _ (Nat.le_refl _)
theorem leastT_turn {t : ByteArray} {k : Nat} (hk : k < t.size) : leastT (turnT t k) = leastT t := by
  have hs := turnT_size t k
  obtain ⟨i, hi, ei⟩ := leastT_mem (t := turnT t k) (by rw [hs]; omega)
  obtain ⟨j, hj, ej⟩ := leastT_mem (t := t) (by omega)
  rw [hs] at hi
  refine lets_inj (lexL_tri ?_ ?_)
  · rw [ei, turn_turn t hk hi]
    exact leastT_le (Nat.mod_lt _ (by omega))
  · have e : leastT t = turnT (turnT t k) ((j + (t.size - k)) % t.size) := by
      rw [turn_turn t hk (Nat.mod_lt _ (by omega)), Nat.add_mod_mod, show k + (j + (t.size - k)) = j + t.size by omega, Nat.add_mod_right, Nat.mod_eq_of_lt hj]
      exact ej
    rw [e]
    exact leastT_le (by rw [hs]; exact Nat.mod_lt _ (by omega))
/-- the least turn does not come after the text, as Go writes 'after' -/
theorem leastT_gt {t : ByteArray} (ht : 1 ≤ t.size) : (!Op.bytesLess (leastT t).toList t.toList && !((leastT t).toList == t.toList)) = false := by
  rw [less_lets]
  have h := leastT_le (t := t) (j := 0) ht
  rw [turn_zero] at h
  have g := lexL_gt (lets (leastT t)) (lets t)
  rw [h] at g
  cases h1 : lexL (lets (leastT t)) (lets t)
  · rw [h1] at g
    have e : lets (leastT t) = lets t := by simpa using g
    rw [lets_inj e]
    simp
  · rfl
theorem small10T {L : List (List Nat)} (h : ∀ l ∈ L, l.length ≤ 10) : Small L := fun l hl => by
  have := h l hl
  unfold maxLen
  omega
/-- whether a touch comes round, on both sides, and what stands behind it -/
theorem round_some (s : ByteArray) (hs : s.size ≤ maxLen) (n : Int) (L : List (List Nat)) (hl : L.length ≤ 2000000) (hsm : Small L) (b q : ByteArray) (hb : b.size ≤ maxLen) (hq : q.size ≤ maxLen) (t : ByteArray) (ht : t.size ≤ maxLen) :
    ∃ (res flag : Bool), (∀ u w, Txts w u L → Calls Try.prog 48 #[.agg #[.string s, .int .i64 n, u], .agg #[.string b, .string q], .string t] w fun e w' => e = .returned (.tuple #[.bool res, .bool flag]) ∧ Below w.heap.size w w') ∧
      (∀ u w, Txts w u L → Calls Try.prog 49 #[.agg #[.string s, .int .i64 n, u], .agg #[.string b, .string q], .string t] w fun e w' => e = .returned (.tuple #[.bool res, .bool flag]) ∧ Below w.heap.size w w') ∧
      (flag = true → ∃ k : Nat, n = k ∧ goodK s k L b q = true ∧ goodT t = true ∧ res = roundT k L b q t) := by
  cases hk : askT s n L b q t
  · exact ⟨false, false, fun u w h => iIsRound_no s hs n u L b q t ht w h hl hk, fun u w h => sIsRound_no s hs n u L b q t hb hq ht w h hl hsm hk, fun h => by cases h⟩
  · unfold askT at hk
    rw [Bool.and_eq_true] at hk
    obtain ⟨hg, hgt⟩ := hk
    obtain ⟨k, rfl⟩ := goodK_cast hg
    exact ⟨_, true, fun u w h => iIsRound_yes s hs k u L b q t w h hl hg hgt, fun u w h => sIsRound_yes s hs k u L b q t hb hq ht w h hl hsm hg hgt, fun _ => ⟨k, rfl, hg, hgt, rfl⟩⟩

/-! what both sides give alike, for whatever touch -/
theorem turn_some (x : ByteArray) (hx : x.size ≤ 130) (n : Int) :
    ∃ (u : ByteArray) (ok : Bool), (∀ w, Calls Try.prog 55 #[.string x, .int .i64 n] w fun e w' => e = .returned (.tuple #[.string u, .bool ok]) ∧ Below w.heap.size w w') ∧
      (∀ w, Calls Try.prog 56 #[.string x, .int .i64 n] w fun e w' => e = .returned (.tuple #[.string u, .bool ok]) ∧ Below w.heap.size w w') ∧
      (ok = true → ∃ a : ByteArray, (∀ w, Calls Try.prog 58 #[.string x, .bool false] w fun e w' => e = .returned (.tuple #[.string a, .bool true]) ∧ Below w.heap.size w w') ∧
        (∀ w, Calls Try.prog 58 #[.string u, .bool false] w fun e w' => e = .returned (.tuple #[.string a, .bool true]) ∧ Below w.heap.size w w') ∧ (!Op.bytesLess a.toList x.toList && !(a.toList == x.toList)) = false) := by
  have hm : x.size ≤ maxLen := by unfold maxLen; omega
  refine ⟨turnY x n, turnOk x n, fun w => iTurnTouch_any x hm n w, fun w => sTurnTouch_any x hm n w, fun h => ?_⟩
  obtain ⟨k, rfl, hk, hg⟩ := turnOk_parts h
  rw [turnY_yes h]
  refine ⟨leastT x, fun w => ?_, fun w => ?_, leastT_gt (by omega)⟩
  · have := iLeastTurn_any x hm false w
    rwa [hg, leastY_one hg] at this
  · have := iLeastTurn_any (turnT x k) (by rw [turnT_size]; exact hm) false w
    rwa [goodT_turn hg, leastY_one (goodT_turn hg k), leastT_turn hk] at this
theorem back_some (y : ByteArray) (hy : y.size ≤ 130) (b : Bool) :
    ∃ (a r : ByteArray) (P : List Nat) (g : Bool), P.length ≤ 3 ∧ (∀ w, Calls Try.prog 58 #[.string y, .bool b] w fun e w' => e = .returned (.tuple #[.string a, .bool g]) ∧ Below w.heap.size w w') ∧
      (∀ w, Calls Try.prog 59 #[.string y, .bool b] w fun e w' => e = .returned (.tuple #[.string a, .bool g]) ∧ Below w.heap.size w w') ∧
      (∀ w, Calls Try.prog 60 #[.string y] w fun e w' => e = .returned (.tuple #[.string r, .bool g]) ∧ Below w.heap.size w w') ∧
      (∀ w, Calls Try.prog 61 #[.string y] w fun e w' => e = .returned (.tuple #[.string r, .bool g]) ∧ Below w.heap.size w w') ∧
      (∀ w, Calls Try.prog 62 #[.string y] w (NumsAny P g w)) ∧ (∀ w, Calls Try.prog 63 #[.string y] w (NumsAny P g w)) ∧
      (g = true → ∃ c : ByteArray, (∀ w, Calls Try.prog 58 #[.string r, .bool true] w fun e w' => e = .returned (.tuple #[.string c, .bool true]) ∧ Below w.heap.size w w') ∧
        (∀ w, Calls Try.prog 58 #[.string y, .bool true] w fun e w' => e = .returned (.tuple #[.string c, .bool true]) ∧ Below w.heap.size w w') ∧
        (∀ w, Calls Try.prog 60 #[.string r] w fun e w' => e = .returned (.tuple #[.string y, .bool true]) ∧ Below w.heap.size w w')) := by
  have hm : y.size ≤ maxLen := by unfold maxLen; omega
  refine ⟨leastY y b, revY y, callsY y, goodT y, callsY_len y, fun w => iLeastTurn_any y hm b w, fun w => sLeastTurn_any y hm b w, fun w => iReverseTouch_any y hm w, fun w => sReverseTouch_any y hm w, fun w => iCallsIn_any y hm w, fun w => sCallsIn_any y hm w, fun hg => ?_⟩
  have hr := goodT_rev hg
  have hrm : (revT y).size ≤ maxLen := by rw [revT_size]; exact hm
  rw [revY_yes hg]
  refine ⟨minB (leastT y) (leastT (revT y)), fun w => ?_, fun w => ?_, fun w => ?_⟩
  · have := iLeastTurn_any (revT y) hrm true w
    rwa [hr, leastY_two hr, rev_rev, minB_comm] at this
  · have := iLeastTurn_any y hm true w
    rwa [hg, leastY_two hg] at this
  · have := iReverseTouch_any (revT y) hrm w
    rwa [hr, revY_yes hr, rev_rev] at this

set_option maxRecDepth 100000 in
set_option maxHeartbeats 1000000 in
theorem qNumber_any (a : Option Addr) (len cap : Nat) (w : World) (hz : CodeAt w w.heap.size a len) (hl : len ≤ 9223372036854775807) :
    Calls Try.prog 64 #[.slice a len cap] w fun e w' => ∃ k : Nat, e = .returned (.int .i64 k) ∧ k < 1000003 ∧ w' = w := by
  have HZ := Lib.hid hz
  clear hz
  go_enter Try.func64, Try.ntmps64
  go_wp2
  go_loopg [3, 5, 8] len (fun q v _ i wr => ∃ (k x : Nat), k ≤ len ∧ q + k = len ∧ i = .int .i64 k ∧ v = .int .i64 x ∧ x < 1000003 ∧ w = wr)
  case atStart => exact ⟨0, 0, Nat.zero_le _, rfl, rfl, rfl, by omega, rfl⟩
  case round =>
    obtain ⟨k, x, hk, hq, rfl, rfl, hx, rfl⟩ := hrel
    have HQ := Lib.hid hq
    clear hq
    have hxi : (x : Int) < 1000003 := by omega
    by_cases hlt : k < len
    · rcases HZ.out with h0 | ⟨xb, xo, z, rfl, hne, hz⟩
      · omega
      · have hc := (hz k hlt).2
        have hzk := (hz k hlt).1
        have hzi : (z k : Int) < 256 := by omega
        have hki : (k : Int) < len := by omega
        clear hz
        go_wp2
        go_roundg (len - (k + 1))
        case measure => have := HQ.out; omega
        case rel => exact ⟨k + 1, (31 * x + z k) % 1000003, by omega, by have := HQ.out; omega, by go_num, by rw [show (((31 * x + z k) % 1000003 : Nat) : Int) = (31 * (x : Int) + z k) % 1000003 from by omega], Nat.mod_lt _ (by omega), rfl⟩
    · obtain rfl : k = len := by omega
      go_wp2
      go_ret
      exact ⟨x, rfl, hx, rfl⟩
set_option maxRecDepth 100000 in
set_option maxHeartbeats 1000000 in
set_option maxHeartbeats 16000000 in
theorem lawTurned (a1 : Option Addr) (l1 c1 : Nat) (z1 : List Int) (a2 : Option Addr) (l2 c2 : Nat) (z2 : List Int) (w : World) (hz1 : IsBytes w a1 l1 c1 z1) (hz2 : IsBytes w a2 l2 c2 z2) :
    Calls Try.prog 5 #[.slice a1 l1 c1, .slice a2 l2 c2] w fun e w' => e = .returned (.bool true) ∧ Below w.heap.size w w' := by
  have HZ1 := Lib.hid hz1
  have HZ2 := Lib.hid hz2
  have hm1 := hz1.lenW
  have hm2 := hz2.lenW
  unfold maxLen at hm1 hm2
  have HL1 := Lib.hid (show l1 ≤ 9223372036854775807 by omega)
  have HL2 := Lib.hid (show l2 ≤ 9223372036854775807 by omega)
  clear hz1 hz2
  by_cases hbig : 1048576 < l1 + l2 ∧ l1 + l2 ≤ 9223372036854775807
  · obtain ⟨hg1, hg2⟩ := hbig
    have hbi : (1048576 : Int) < l1 + l2 := by omega
    have hbj : (l1 : Int) + l2 ≤ 9223372036854775807 := by omega
    go_enter Try.func5, Try.ntmps5
    go_wp2
    go_ret
    exact ⟨rfl, Below.refl _ _⟩
  obtain ⟨z, hz, hz2, hz3⟩ : ∃ z : Int, IntKind.i64.wrap ((l1 : Int) + l2) = z ∧ wrap64 ((l1 : Int) + l2) = z ∧ ¬ 1048576 < z := by
    by_cases h : l1 + l2 ≤ 9223372036854775807
    · exact ⟨(l1 : Int) + l2, IntWalk.i64_in _ (by omega), by unfold wrap64; omega, by omega⟩
    · have e : IntKind.i64.wrap ((l1 : Int) + l2) = wrap64 ((l1 : Int) + l2) := by
        unfold wrap64 IntKind.wrap
        have e1 : ((2 : Int) ^ IntKind.i64.bits) = 18446744073709551616 := rfl
        have e2 : ((2 : Int) ^ (IntKind.i64.bits - 1)) = 9223372036854775808 := rfl
        have e3 : IntKind.i64.signed = true := rfl
        simp only [e1, e2, e3, Bool.true_and, decide_eq_true_eq, true_and]
        split <;> omega
      refine ⟨_, e, rfl, ?_⟩
      unfold wrap64
      omega
  clear hbig hm1 hm2
  go_enter Try.func5, Try.ntmps5
  go_wp2_with fail
  clear hz hz2 hz3
  refine (DrawIsRound_any a1 l1 c1 z1 _ HZ1.out HL1.out).mono ?_
  rintro e w1 ⟨s, n, v, L, x, y, t, rfl, hsz, hn2, hn9, hn, hL, hs, hx, hy, ht, hb1⟩
  have hsx : s.size ≤ maxLen := by unfold maxLen; omega
  have hxm : x.size ≤ maxLen := by unfold maxLen; omega
  have hym : y.size ≤ maxLen := by unfold maxLen; omega
  have htm : t.size ≤ maxLen := by unfold maxLen; omega
  have hsm := small10T hs
  have hl2 : L.length ≤ 2000000 := by omega
  obtain ⟨a, cap, hv, -⟩ := hn.own.view
  rw [strs_len] at hv
  subst hv
  have hal := ((Below.refl w1.heap.size w1).alloc (Nat.le_refl _) (.cells #[.string s, .int .i64 n, .slice a L.length cap] 25)).alloc (by simp) (.cells #[.string x, .string y] 27)
  have HM2 := Lib.hid ((RowAt.new w1 25 #[.string s, .int .i64 n, .slice a L.length cap]).push (.cells #[.string x, .string y] 27))
  have HK2 : Hid (RowAt ((w1.alloc (.cells #[.string s, .int .i64 n, .slice a L.length cap] 25)).alloc (.cells #[.string x, .string y] 27)) (w1.heap.size + 1) 27 #[.string x, .string y]) := Lib.hid (by
    have := RowAt.new (w1.alloc (.cells #[.string s, .int .i64 n, .slice a L.length cap] 25)) 27 #[.string x, .string y]
    simpa using this)
  have HT2 := Lib.hid (hn.own.txts.kept hal)
  have HB2 := Lib.hid (hb1.trans (hal.mono hb1.size))
  obtain ⟨rs, fl, f1, f2, hfl⟩ := round_some s hsx n L hl2 hsm x y hxm hym t htm
  have HF1 := Lib.hid f1
  have HF2 := Lib.hid f2
  have HYES : Hid (fl = true → 0 < t.size ∧ ∀ k : Nat, k < t.size → (∀ w, Calls Try.prog 55 #[.string t, .int .i64 k] w fun e w' => e = .returned (.tuple #[.string (turnT t k), .bool true]) ∧ Below w.heap.size w w') ∧ ∀ u w, Txts w u L → Calls Try.prog 48 #[.agg #[.string s, .int .i64 n, u], .agg #[.string x, .string y], .string (turnT t k)] w fun e w' => e = .returned (.tuple #[.bool rs, .bool true]) ∧ Below w.heap.size w w') := Lib.hid (fun h1 => by
    obtain ⟨m, rfl, hg, hgt, rfl⟩ := hfl h1
    refine ⟨(goodT_parts hgt).1, fun k hk => ⟨fun w => ?_, fun u w h => ?_⟩⟩
    · have ho : turnOk t k = true := by
        unfold turnOk
        rw [hgt, decide_eq_true (show (0 : Int) ≤ k by omega), decide_eq_true (show (k : Int) ≤ (t.size : Int) - 1 by omega)]
        rfl
      have := iTurnTouch_any t htm k w
      rwa [ho, turnY_yes ho] at this
    · have := iIsRound_yes s hsx m u L x y (turnT t k) w h hl2 hg (goodT_turn hgt k)
      rwa [roundT_turn hg] at this)
  have HTS : Hid (t.size ≤ 1000000) := Lib.hid (by omega)
  obtain ⟨mL, hmL⟩ : ∃ mL, L.length = mL := ⟨_, rfl⟩
  rw [hmL] at HM2 HK2 HT2 HB2 ⊢
  clear hn hb1 hal hs hsz hn2 hn9 hx hy ht hsx hxm hym htm hsm hl2 f1 f2 hfl hL hmL HZ1 HL1
  go_wp2_with (first | (refine wpList_store_row rfl 25 _ _ rfl _ _ rfl rfl 25 _ (heap_at _ _ _ (by simp)) (by kernel_rfl) rfl (by kernel_rfl) ?_; rw [setRow_at _ _ _ _ _ (by simp)]) | (refine wpList_store_row rfl 27 _ _ rfl _ _ rfl rfl 27 _ (heap_at _ _ _ (by simp)) (by kernel_rfl) rfl (by kernel_rfl) ?_; rw [setRow_at _ _ _ _ _ (by simp)]) | (refine wpList_load_row rfl 25 _ rfl _ rfl 25 _ _ _ (HM2.out) Try.underlying25 rfl (by kernel_rfl) ?_) | (refine wpList_load_row rfl 27 _ rfl _ rfl 27 _ _ _ (HK2.out) Try.underlying27 rfl (by kernel_rfl) ?_) | fail)
  refine (DrawTurnTouch_any a2 l2 c2 z2 _ (HZ2.out.belowW HB2.out) HL2.out).mono ?_
  rintro e w3 ⟨x3, n3, rfl, hx3, -, -, hb3⟩
  obtain ⟨u, ok, f3, f4, hok⟩ := turn_some x3 hx3 n3
  have HF3 := Lib.hid f3
  have HF4 := Lib.hid f4
  have HOK := Lib.hid hok
  clear f3 f4 hok hx3
  have HM3 := Lib.hid (HM2.out.kept hb3)
  have HK3 := Lib.hid (HK2.out.kept hb3)
  have HT3 := Lib.hid (HT2.out.kept hb3)
  have HB3 := Lib.hid (HB2.out.trans (hb3.mono HB2.out.size))
  clear hb3 HM2 HK2 HT2 HB2
  go_wp2_with fail
  refine (HF3.out _).mono ?_
  rintro e w4 ⟨rfl, hb4⟩
  have HM4 := Lib.hid (HM3.out.kept hb4)
  have HK4 := Lib.hid (HK3.out.kept hb4)
  have HT4 := Lib.hid (HT3.out.kept hb4)
  have HB4 := Lib.hid (HB3.out.trans (hb4.mono HB3.out.size))
  clear hb4 HM3 HK3 HT3 HB3
  go_wp2_with fail
  refine (HF4.out _).mono ?_
  rintro e w5 ⟨rfl, hb5⟩
  have HM5 := Lib.hid (HM4.out.kept hb5)
  have HK5 := Lib.hid (HK4.out.kept hb5)
  have HT5 := Lib.hid (HT4.out.kept hb5)
  have HB5 := Lib.hid (HB4.out.trans (hb5.mono HB4.out.size))
  clear hb5 HM4 HK4 HT4 HB4
  go_wp2_with fail
  refine (DrawLeastTurn_any a2 l2 c2 z2 _ (HZ2.out.belowW HB5.out) HL2.out).mono ?_
  rintro e w6 ⟨y6, b6, rfl, hy6, hb6⟩
  obtain ⟨a6, r6, P, g, hP, f5, f6, f7, f8, f9, f10, hg⟩ := back_some y6 hy6 b6
  have HF5 := Lib.hid f5
  have HF6 := Lib.hid f6
  have HF7 := Lib.hid f7
  have HF8 := Lib.hid f8
  have HF9 := Lib.hid f9
  have HF10 := Lib.hid f10
  have HG := Lib.hid hg
  have HPL := Lib.hid hP
  unfold NumsAny at HF9 HF10
  clear f5 f6 f7 f8 f9 f10 hg hP hy6
  have HM6 := Lib.hid (HM5.out.kept hb6)
  have HK6 := Lib.hid (HK5.out.kept hb6)
  have HT6 := Lib.hid (HT5.out.kept hb6)
  have HB6 := Lib.hid (HB5.out.trans (hb6.mono HB5.out.size))
  clear hb6 HM5 HK5 HT5 HB5
  go_wp2_with fail
  refine (HF5.out _).mono ?_
  rintro e w7 ⟨rfl, hb7⟩
  have HM7 := Lib.hid (HM6.out.kept hb7)
  have HK7 := Lib.hid (HK6.out.kept hb7)
  have HT7 := Lib.hid (HT6.out.kept hb7)
  have HB7 := Lib.hid (HB6.out.trans (hb7.mono HB6.out.size))
  clear hb7 HM6 HK6 HT6 HB6
  go_wp2_with fail
  refine (HF6.out _).mono ?_
  rintro e w8 ⟨rfl, hb8⟩
  have HM8 := Lib.hid (HM7.out.kept hb8)
  have HK8 := Lib.hid (HK7.out.kept hb8)
  have HT8 := Lib.hid (HT7.out.kept hb8)
  have HB8 := Lib.hid (HB7.out.trans (hb8.mono HB7.out.size))
  clear hb8 HM7 HK7 HT7 HB7
  go_wp2_with fail
  refine (HF7.out _).mono ?_
  rintro e w9 ⟨rfl, hb9⟩
  have HM9 := Lib.hid (HM8.out.kept hb9)
  have HK9 := Lib.hid (HK8.out.kept hb9)
  have HT9 := Lib.hid (HT8.out.kept hb9)
  have HB9 := Lib.hid (HB8.out.trans (hb9.mono HB8.out.size))
  clear hb9 HM8 HK8 HT8 HB8
  go_wp2_with fail
  refine (HF8.out _).mono ?_
  rintro e w10 ⟨rfl, hb10⟩
  have HM10 := Lib.hid (HM9.out.kept hb10)
  have HK10 := Lib.hid (HK9.out.kept hb10)
  have HT10 := Lib.hid (HT9.out.kept hb10)
  have HB10 := Lib.hid (HB9.out.trans (hb10.mono HB9.out.size))
  clear hb10 HM9 HK9 HT9 HB9
  go_wp2_with fail
  refine (HF9.out _).mono ?_
  rintro e w11 ⟨vX, rfl, hn11, hb11⟩
  have HX11 := Lib.hid hn11.own
  clear hn11
  have HM11 := Lib.hid (HM10.out.kept hb11)
  have HK11 := Lib.hid (HK10.out.kept hb11)
  have HT11 := Lib.hid (HT10.out.kept hb11)
  have HB11 := Lib.hid (HB10.out.trans (hb11.mono HB10.out.size))
  clear hb11 HM10 HK10 HT10 HB10
  go_wp2_with fail
  refine (HF10.out _).mono ?_
  rintro e w12 ⟨vY, rfl, hn12, hb12⟩
  have HY12 := Lib.hid hn12.own
  have HX12 := Lib.hid (HX11.out.kept hb12)
  clear hn12 HX11
  have HM12 := Lib.hid (HM11.out.kept hb12)
  have HK12 := Lib.hid (HK11.out.kept hb12)
  have HT12 := Lib.hid (HT11.out.kept hb12)
  have HB12 := Lib.hid (HB11.out.trans (hb12.mono HB11.out.size))
  clear hb12 HM11 HK11 HT11 HB11
  have he1 : (ok != ok) = false := by simp
  have he2 : (u.toList != u.toList) = false := by simp
  have he3 : (g != g) = false := by simp
  have he4 : (a6.toList != a6.toList) = false := by simp
  have he5 : (r6.toList != r6.toList) = false := by simp
  have HQS : Hid (Calls Try.prog 28 #[vX, vY] w12 fun e w' => e = .returned (.bool true) ∧ Below w12.heap.size w12 w') := Lib.hid (by
    refine (qSameN_same vX vY _ w12 HX12.out HY12.out (by rw [List.length_map]; have := HPL.out; omega)).mono fun e w' hw => ?_
    obtain ⟨rfl, d, rfl⟩ := hw
    exact ⟨rfl, below_drewN (Below.refl w12.heap.size w12) d⟩)
  clear HF3 HF4 HF5 HF6 HF7 HF8 HF9 HF10 HX12 HY12 HPL
  cases ok
  · cases g
    · clear HOK
      clear HG
      go_wp2_with (first | (go_at_call 28; refine HQS.out.mono ?_; rintro e13 w13 ⟨rfl, hb13⟩) | fail | (refine wpList_load_row rfl 25 _ rfl _ rfl 25 _ _ _ ((HM12.out.kept hb13)) Try.underlying25 rfl (by kernel_rfl) ?_) | (refine wpList_load_row rfl 27 _ rfl _ rfl 27 _ _ _ ((HK12.out.kept hb13)) Try.underlying27 rfl (by kernel_rfl) ?_) | fail)
      have HM13 := Lib.hid (HM12.out.kept hb13)
      have HK13 := Lib.hid (HK12.out.kept hb13)
      have HT13 := Lib.hid (HT12.out.kept hb13)
      have HB13 := Lib.hid (HB12.out.trans (hb13.mono HB12.out.size))
      clear hb13 HM12 HK12 HT12 HB12
      clear he1 he2 he3 he4 he5 HQS
      refine (HF1.out _ _ HT13.out).mono ?_
      rintro e w14 ⟨rfl, hb14⟩
      have HM14 := Lib.hid (HM13.out.kept hb14)
      have HK14 := Lib.hid (HK13.out.kept hb14)
      have HT14 := Lib.hid (HT13.out.kept hb14)
      have HB14 := Lib.hid (HB13.out.trans (hb14.mono HB13.out.size))
      clear hb14 HM13 HK13 HT13 HB13
      go_wp2_with (first | (refine wpList_load_row rfl 25 _ rfl _ rfl 25 _ _ _ (HM14.out) Try.underlying25 rfl (by kernel_rfl) ?_) | (refine wpList_load_row rfl 27 _ rfl _ rfl 27 _ _ _ (HK14.out) Try.underlying27 rfl (by kernel_rfl) ?_) | fail)
      refine (HF2.out _ _ HT14.out).mono ?_
      rintro e w15 ⟨rfl, hb15⟩
      have HM15 := Lib.hid (HM14.out.kept hb15)
      have HK15 := Lib.hid (HK14.out.kept hb15)
      have HT15 := Lib.hid (HT14.out.kept hb15)
      have HB15 := Lib.hid (HB14.out.trans (hb15.mono HB14.out.size))
      clear hb15 HM14 HK14 HT14 HB14
      have he1 : (fl != fl) = false := by simp
      have he2 : (rs != rs) = false := by simp
      cases fl
      · go_wp2
        go_ret
        exact ⟨rfl, HB15.out⟩
      obtain ⟨hts, hyes⟩ := HYES.out rfl
      have HY := Lib.hid hyes
      clear hyes HYES he1
      go_wp2_with fail
      refine (qNumber_any a2 l2 c2 _ (codeAt_of (HZ2.out.belowW HB15.out)) HL2.out).mono ?_
      rintro e w16 ⟨q, rfl, hq, rfl⟩
      obtain ⟨nx, hnx⟩ : ∃ nx, q % t.size = nx := ⟨_, rfl⟩
      have hnl : nx < t.size := by rw [← hnx]; exact Nat.mod_lt _ hts
      have hnli : (nx : Int) < (t.size : Int) := by omega
      have hsl : (t.size : Int) ≤ 9223372036854775807 := by have := HTS.out; omega
      have hmod : Int.tmod (q : Int) (t.size : Int) = (nx : Int) := by rw [Int.tmod_eq_emod_of_nonneg (by omega), ← hnx]; simp
      have hmod2 : (q : Int) % (t.size : Int) = (nx : Int) := by rw [← hnx]; simp
      have hwx : IntKind.i64.wrap (nx : Int) = (nx : Int) := Go.IntWalk.i64_in _ ⟨by omega, by omega⟩
      have hs0 : ((t.size : Int) == 0) = false := by rw [beq_eq_false_iff_ne]; omega
      have hs1 : ¬ ((t.size : Int) = 0) := by omega
      have hnx0 : (0 : Int) ≤ (nx : Int) := by omega
      obtain ⟨f11, f12⟩ := HY.out nx hnl
      have HF11 := Lib.hid f11
      have HF12 := Lib.hid f12
      clear f11 f12 HY hnx
      go_wp2_with fail
      refine (HF11.out _).mono ?_
      clear hmod hmod2 hwx hs0 hs1
      rintro e w16 ⟨rfl, hb16⟩
      have HM16 := Lib.hid (HM15.out.kept hb16)
      have HK16 := Lib.hid (HK15.out.kept hb16)
      have HT16 := Lib.hid (HT15.out.kept hb16)
      have HB16 := Lib.hid (HB15.out.trans (hb16.mono HB15.out.size))
      clear hb16 HM15 HK15 HT15 HB15
      go_wp2_with (first | (refine wpList_load_row rfl 25 _ rfl _ rfl 25 _ _ _ (HM16.out) Try.underlying25 rfl (by kernel_rfl) ?_) | (refine wpList_load_row rfl 27 _ rfl _ rfl 27 _ _ _ (HK16.out) Try.underlying27 rfl (by kernel_rfl) ?_) | fail)
      refine (HF12.out _ _ HT16.out).mono ?_
      rintro e w17 ⟨rfl, hb17⟩
      have HB17 := Lib.hid (HB16.out.trans (hb17.mono HB16.out.size))
      have he3 : (rs == rs) = true := by simp
      go_wp2
      go_ret
      exact ⟨rfl, HB17.out⟩
    · clear HOK
      obtain ⟨c, g1, g2, g3⟩ := HG.out rfl
      have HG1 := Lib.hid g1
      have HG2 := Lib.hid g2
      have HG3 := Lib.hid g3
      clear g1 g2 g3 HG
      have he6 : (c.toList != c.toList) = false := by simp
      have he7 : (y6.toList != y6.toList) = false := by simp
      go_wp2_with (first | (go_at_call 28; refine HQS.out.mono ?_; rintro e13 w13 ⟨rfl, hb13⟩) | fail | fail)
      have HM13 := Lib.hid (HM12.out.kept hb13)
      have HK13 := Lib.hid (HK12.out.kept hb13)
      have HT13 := Lib.hid (HT12.out.kept hb13)
      have HB13 := Lib.hid (HB12.out.trans (hb13.mono HB12.out.size))
      clear hb13 HM12 HK12 HT12 HB12
      clear he1 he2 he3 he4 he5 HQS
      refine (HG1.out _).mono ?_
      rintro e w14 ⟨rfl, hb14⟩
      have HM14 := Lib.hid (HM13.out.kept hb14)
      have HK14 := Lib.hid (HK13.out.kept hb14)
      have HT14 := Lib.hid (HT13.out.kept hb14)
      have HB14 := Lib.hid (HB13.out.trans (hb14.mono HB13.out.size))
      clear hb14 HM13 HK13 HT13 HB13
      go_wp2_with fail
      refine (HG2.out _).mono ?_
      rintro e w15 ⟨rfl, hb15⟩
      have HM15 := Lib.hid (HM14.out.kept hb15)
      have HK15 := Lib.hid (HK14.out.kept hb15)
      have HT15 := Lib.hid (HT14.out.kept hb15)
      have HB15 := Lib.hid (HB14.out.trans (hb15.mono HB14.out.size))
      clear hb15 HM14 HK14 HT14 HB14
      go_wp2_with fail
      refine (HG3.out _).mono ?_
      rintro e w16 ⟨rfl, hb16⟩
      have HM16 := Lib.hid (HM15.out.kept hb16)
      have HK16 := Lib.hid (HK15.out.kept hb16)
      have HT16 := Lib.hid (HT15.out.kept hb16)
      have HB16 := Lib.hid (HB15.out.trans (hb16.mono HB15.out.size))
      clear hb16 HM15 HK15 HT15 HB15
      go_wp2_with (first | (refine wpList_load_row rfl 25 _ rfl _ rfl 25 _ _ _ (HM16.out) Try.underlying25 rfl (by kernel_rfl) ?_) | (refine wpList_load_row rfl 27 _ rfl _ rfl 27 _ _ _ (HK16.out) Try.underlying27 rfl (by kernel_rfl) ?_) | fail)
      refine (HF1.out _ _ HT16.out).mono ?_
      rintro e w17 ⟨rfl, hb17⟩
      have HM17 := Lib.hid (HM16.out.kept hb17)
      have HK17 := Lib.hid (HK16.out.kept hb17)
      have HT17 := Lib.hid (HT16.out.kept hb17)
      have HB17 := Lib.hid (HB16.out.trans (hb17.mono HB16.out.size))
      clear hb17 HM16 HK16 HT16 HB16
      go_wp2_with (first | (refine wpList_load_row rfl 25 _ rfl _ rfl 25 _ _ _ (HM17.out) Try.underlying25 rfl (by kernel_rfl) ?_) | (refine wpList_load_row rfl 27 _ rfl _ rfl 27 _ _ _ (HK17.out) Try.underlying27 rfl (by kernel_rfl) ?_) | fail)
      refine (HF2.out _ _ HT17.out).mono ?_
      rintro e w18 ⟨rfl, hb18⟩
      have HM18 := Lib.hid (HM17.out.kept hb18)
      have HK18 := Lib.hid (HK17.out.kept hb18)
      have HT18 := Lib.hid (HT17.out.kept hb18)
      have HB18 := Lib.hid (HB17.out.trans (hb18.mono HB17.out.size))
      clear hb18 HM17 HK17 HT17 HB17
      have he1 : (fl != fl) = false := by simp
      have he2 : (rs != rs) = false := by simp
      cases fl
      · go_wp2
        go_ret
        exact ⟨rfl, HB18.out⟩
      obtain ⟨hts, hyes⟩ := HYES.out rfl
      have HY := Lib.hid hyes
      clear hyes HYES he1
      go_wp2_with fail
      refine (qNumber_any a2 l2 c2 _ (codeAt_of (HZ2.out.belowW HB18.out)) HL2.out).mono ?_
      rintro e w19 ⟨q, rfl, hq, rfl⟩
      obtain ⟨nx, hnx⟩ : ∃ nx, q % t.size = nx := ⟨_, rfl⟩
      have hnl : nx < t.size := by rw [← hnx]; exact Nat.mod_lt _ hts
      have hnli : (nx : Int) < (t.size : Int) := by omega
      have hsl : (t.size : Int) ≤ 9223372036854775807 := by have := HTS.out; omega
      have hmod : Int.tmod (q : Int) (t.size : Int) = (nx : Int) := by rw [Int.tmod_eq_emod_of_nonneg (by omega), ← hnx]; simp
      have hmod2 : (q : Int) % (t.size : Int) = (nx : Int) := by rw [← hnx]; simp
      have hwx : IntKind.i64.wrap (nx : Int) = (nx : Int) := Go.IntWalk.i64_in _ ⟨by omega, by omega⟩
      have hs0 : ((t.size : Int) == 0) = false := by rw [beq_eq_false_iff_ne]; omega
      have hs1 : ¬ ((t.size : Int) = 0) := by omega
      have hnx0 : (0 : Int) ≤ (nx : Int) := by omega
      obtain ⟨f11, f12⟩ := HY.out nx hnl
      have HF11 := Lib.hid f11
      have HF12 := Lib.hid f12
      clear f11 f12 HY hnx
      go_wp2_with fail
      refine (HF11.out _).mono ?_
      clear hmod hmod2 hwx hs0 hs1
      rintro e w19 ⟨rfl, hb19⟩
      have HM19 := Lib.hid (HM18.out.kept hb19)
      have HK19 := Lib.hid (HK18.out.kept hb19)
      have HT19 := Lib.hid (HT18.out.kept hb19)
      have HB19 := Lib.hid (HB18.out.trans (hb19.mono HB18.out.size))
      clear hb19 HM18 HK18 HT18 HB18
      go_wp2_with (first | (refine wpList_load_row rfl 25 _ rfl _ rfl 25 _ _ _ (HM19.out) Try.underlying25 rfl (by kernel_rfl) ?_) | (refine wpList_load_row rfl 27 _ rfl _ rfl 27 _ _ _ (HK19.out) Try.underlying27 rfl (by kernel_rfl) ?_) | fail)
      refine (HF12.out _ _ HT19.out).mono ?_
      rintro e w20 ⟨rfl, hb20⟩
      have HB20 := Lib.hid (HB19.out.trans (hb20.mono HB19.out.size))
      have he3 : (rs == rs) = true := by simp
      go_wp2
      go_ret
      exact ⟨rfl, HB20.out⟩
  · cases g
    · obtain ⟨a7, g4, g5, hgt⟩ := HOK.out rfl
      have HG4 := Lib.hid g4
      have HG5 := Lib.hid g5
      clear g4 g5 HOK
      have he8 : (a7.toList != a7.toList) = false := by simp
      clear HG
      go_wp2_with (first | (go_at_call 28; refine HQS.out.mono ?_; rintro e13 w13 ⟨rfl, hb13⟩) | fail | fail)
      have HM13 := Lib.hid (HM12.out.kept hb13)
      have HK13 := Lib.hid (HK12.out.kept hb13)
      have HT13 := Lib.hid (HT12.out.kept hb13)
      have HB13 := Lib.hid (HB12.out.trans (hb13.mono HB12.out.size))
      clear hb13 HM12 HK12 HT12 HB12
      clear he1 he2 he3 he4 he5 HQS
      refine (HG4.out _).mono ?_
      rintro e w14 ⟨rfl, hb14⟩
      have HM14 := Lib.hid (HM13.out.kept hb14)
      have HK14 := Lib.hid (HK13.out.kept hb14)
      have HT14 := Lib.hid (HT13.out.kept hb14)
      have HB14 := Lib.hid (HB13.out.trans (hb14.mono HB13.out.size))
      clear hb14 HM13 HK13 HT13 HB13
      go_wp2_with fail
      refine (HG5.out _).mono ?_
      rintro e w15 ⟨rfl, hb15⟩
      have HM15 := Lib.hid (HM14.out.kept hb15)
      have HK15 := Lib.hid (HK14.out.kept hb15)
      have HT15 := Lib.hid (HT14.out.kept hb15)
      have HB15 := Lib.hid (HB14.out.trans (hb15.mono HB14.out.size))
      clear hb15 HM14 HK14 HT14 HB14
      go_wp2_with (first | (refine wpList_load_row rfl 25 _ rfl _ rfl 25 _ _ _ (HM15.out) Try.underlying25 rfl (by kernel_rfl) ?_) | (refine wpList_load_row rfl 27 _ rfl _ rfl 27 _ _ _ (HK15.out) Try.underlying27 rfl (by kernel_rfl) ?_) | fail)
      refine (HF1.out _ _ HT15.out).mono ?_
      rintro e w16 ⟨rfl, hb16⟩
      have HM16 := Lib.hid (HM15.out.kept hb16)
      have HK16 := Lib.hid (HK15.out.kept hb16)
      have HT16 := Lib.hid (HT15.out.kept hb16)
      have HB16 := Lib.hid (HB15.out.trans (hb16.mono HB15.out.size))
      clear hb16 HM15 HK15 HT15 HB15
      go_wp2_with (first | (refine wpList_load_row rfl 25 _ rfl _ rfl 25 _ _ _ (HM16.out) Try.underlying25 rfl (by kernel_rfl) ?_) | (refine wpList_load_row rfl 27 _ rfl _ rfl 27 _ _ _ (HK16.out) Try.underlying27 rfl (by kernel_rfl) ?_) | fail)
      refine (HF2.out _ _ HT16.out).mono ?_
      rintro e w17 ⟨rfl, hb17⟩
      have HM17 := Lib.hid (HM16.out.kept hb17)
      have HK17 := Lib.hid (HK16.out.kept hb17)
      have HT17 := Lib.hid (HT16.out.kept hb17)
      have HB17 := Lib.hid (HB16.out.trans (hb17.mono HB16.out.size))
      clear hb17 HM16 HK16 HT16 HB16
      have he1 : (fl != fl) = false := by simp
      have he2 : (rs != rs) = false := by simp
      cases fl
      · go_wp2
        go_ret
        exact ⟨rfl, HB17.out⟩
      obtain ⟨hts, hyes⟩ := HYES.out rfl
      have HY := Lib.hid hyes
      clear hyes HYES he1
      go_wp2_with fail
      refine (qNumber_any a2 l2 c2 _ (codeAt_of (HZ2.out.belowW HB17.out)) HL2.out).mono ?_
      rintro e w18 ⟨q, rfl, hq, rfl⟩
      obtain ⟨nx, hnx⟩ : ∃ nx, q % t.size = nx := ⟨_, rfl⟩
      have hnl : nx < t.size := by rw [← hnx]; exact Nat.mod_lt _ hts
      have hnli : (nx : Int) < (t.size : Int) := by omega
      have hsl : (t.size : Int) ≤ 9223372036854775807 := by have := HTS.out; omega
      have hmod : Int.tmod (q : Int) (t.size : Int) = (nx : Int) := by rw [Int.tmod_eq_emod_of_nonneg (by omega), ← hnx]; simp
      have hmod2 : (q : Int) % (t.size : Int) = (nx : Int) := by rw [← hnx]; simp
      have hwx : IntKind.i64.wrap (nx : Int) = (nx : Int) := Go.IntWalk.i64_in _ ⟨by omega, by omega⟩
      have hs0 : ((t.size : Int) == 0) = false := by rw [beq_eq_false_iff_ne]; omega
      have hs1 : ¬ ((t.size : Int) = 0) := by omega
      have hnx0 : (0 : Int) ≤ (nx : Int) := by omega
      obtain ⟨f11, f12⟩ := HY.out nx hnl
      have HF11 := Lib.hid f11
      have HF12 := Lib.hid f12
      clear f11 f12 HY hnx
      go_wp2_with fail
      refine (HF11.out _).mono ?_
      clear hmod hmod2 hwx hs0 hs1
      rintro e w18 ⟨rfl, hb18⟩
      have HM18 := Lib.hid (HM17.out.kept hb18)
      have HK18 := Lib.hid (HK17.out.kept hb18)
      have HT18 := Lib.hid (HT17.out.kept hb18)
      have HB18 := Lib.hid (HB17.out.trans (hb18.mono HB17.out.size))
      clear hb18 HM17 HK17 HT17 HB17
      go_wp2_with (first | (refine wpList_load_row rfl 25 _ rfl _ rfl 25 _ _ _ (HM18.out) Try.underlying25 rfl (by kernel_rfl) ?_) | (refine wpList_load_row rfl 27 _ rfl _ rfl 27 _ _ _ (HK18.out) Try.underlying27 rfl (by kernel_rfl) ?_) | fail)
      refine (HF12.out _ _ HT18.out).mono ?_
      rintro e w19 ⟨rfl, hb19⟩
      have HB19 := Lib.hid (HB18.out.trans (hb19.mono HB18.out.size))
      have he3 : (rs == rs) = true := by simp
      go_wp2
      go_ret
      exact ⟨rfl, HB19.out⟩
    · obtain ⟨a7, g4, g5, hgt⟩ := HOK.out rfl
      have HG4 := Lib.hid g4
      have HG5 := Lib.hid g5
      clear g4 g5 HOK
      have he8 : (a7.toList != a7.toList) = false := by simp
      obtain ⟨c, g1, g2, g3⟩ := HG.out rfl
      have HG1 := Lib.hid g1
      have HG2 := Lib.hid g2
      have HG3 := Lib.hid g3
      clear g1 g2 g3 HG
      have he6 : (c.toList != c.toList) = false := by simp
      have he7 : (y6.toList != y6.toList) = false := by simp
      go_wp2_with (first | (go_at_call 28; refine HQS.out.mono ?_; rintro e13 w13 ⟨rfl, hb13⟩) | fail | fail)
      have HM13 := Lib.hid (HM12.out.kept hb13)
      have HK13 := Lib.hid (HK12.out.kept hb13)
      have HT13 := Lib.hid (HT12.out.kept hb13)
      have HB13 := Lib.hid (HB12.out.trans (hb13.mono HB12.out.size))
      clear hb13 HM12 HK12 HT12 HB12
      clear he1 he2 he3 he4 he5 HQS
      refine (HG4.out _).mono ?_
      rintro e w14 ⟨rfl, hb14⟩
      have HM14 := Lib.hid (HM13.out.kept hb14)
      have HK14 := Lib.hid (HK13.out.kept hb14)
      have HT14 := Lib.hid (HT13.out.kept hb14)
      have HB14 := Lib.hid (HB13.out.trans (hb14.mono HB13.out.size))
      clear hb14 HM13 HK13 HT13 HB13
      go_wp2_with fail
      refine (HG5.out _).mono ?_
      rintro e w15 ⟨rfl, hb15⟩
      have HM15 := Lib.hid (HM14.out.kept hb15)
      have HK15 := Lib.hid (HK14.out.kept hb15)
      have HT15 := Lib.hid (HT14.out.kept hb15)
      have HB15 := Lib.hid (HB14.out.trans (hb15.mono HB14.out.size))
      clear hb15 HM14 HK14 HT14 HB14
      go_wp2_with fail
      refine (HG1.out _).mono ?_
      rintro e w16 ⟨rfl, hb16⟩
      have HM16 := Lib.hid (HM15.out.kept hb16)
      have HK16 := Lib.hid (HK15.out.kept hb16)
      have HT16 := Lib.hid (HT15.out.kept hb16)
      have HB16 := Lib.hid (HB15.out.trans (hb16.mono HB15.out.size))
      clear hb16 HM15 HK15 HT15 HB15
      go_wp2_with fail
      refine (HG2.out _).mono ?_
      rintro e w17 ⟨rfl, hb17⟩
      have HM17 := Lib.hid (HM16.out.kept hb17)
      have HK17 := Lib.hid (HK16.out.kept hb17)
      have HT17 := Lib.hid (HT16.out.kept hb17)
      have HB17 := Lib.hid (HB16.out.trans (hb17.mono HB16.out.size))
      clear hb17 HM16 HK16 HT16 HB16
      go_wp2_with fail
      refine (HG3.out _).mono ?_
      rintro e w18 ⟨rfl, hb18⟩
      have HM18 := Lib.hid (HM17.out.kept hb18)
      have HK18 := Lib.hid (HK17.out.kept hb18)
      have HT18 := Lib.hid (HT17.out.kept hb18)
      have HB18 := Lib.hid (HB17.out.trans (hb18.mono HB17.out.size))
      clear hb18 HM17 HK17 HT17 HB17
      go_wp2_with (first | (refine wpList_load_row rfl 25 _ rfl _ rfl 25 _ _ _ (HM18.out) Try.underlying25 rfl (by kernel_rfl) ?_) | (refine wpList_load_row rfl 27 _ rfl _ rfl 27 _ _ _ (HK18.out) Try.underlying27 rfl (by kernel_rfl) ?_) | fail)
      refine (HF1.out _ _ HT18.out).mono ?_
      rintro e w19 ⟨rfl, hb19⟩
      have HM19 := Lib.hid (HM18.out.kept hb19)
      have HK19 := Lib.hid (HK18.out.kept hb19)
      have HT19 := Lib.hid (HT18.out.kept hb19)
      have HB19 := Lib.hid (HB18.out.trans (hb19.mono HB18.out.size))
      clear hb19 HM18 HK18 HT18 HB18
      go_wp2_with (first | (refine wpList_load_row rfl 25 _ rfl _ rfl 25 _ _ _ (HM19.out) Try.underlying25 rfl (by kernel_rfl) ?_) | (refine wpList_load_row rfl 27 _ rfl _ rfl 27 _ _ _ (HK19.out) Try.underlying27 rfl (by kernel_rfl) ?_) | fail)
      refine (HF2.out _ _ HT19.out).mono ?_
      rintro e w20 ⟨rfl, hb20⟩
      have HM20 := Lib.hid (HM19.out.kept hb20)
      have HK20 := Lib.hid (HK19.out.kept hb20)
      have HT20 := Lib.hid (HT19.out.kept hb20)
      have HB20 := Lib.hid (HB19.out.trans (hb20.mono HB19.out.size))
      clear hb20 HM19 HK19 HT19 HB19
      have he1 : (fl != fl) = false := by simp
      have he2 : (rs != rs) = false := by simp
      cases fl
      · go_wp2
        go_ret
        exact ⟨rfl, HB20.out⟩
      obtain ⟨hts, hyes⟩ := HYES.out rfl
      have HY := Lib.hid hyes
      clear hyes HYES he1
      go_wp2_with fail
      refine (qNumber_any a2 l2 c2 _ (codeAt_of (HZ2.out.belowW HB20.out)) HL2.out).mono ?_
      rintro e w21 ⟨q, rfl, hq, rfl⟩
      obtain ⟨nx, hnx⟩ : ∃ nx, q % t.size = nx := ⟨_, rfl⟩
      have hnl : nx < t.size := by rw [← hnx]; exact Nat.mod_lt _ hts
      have hnli : (nx : Int) < (t.size : Int) := by omega
      have hsl : (t.size : Int) ≤ 9223372036854775807 := by have := HTS.out; omega
      have hmod : Int.tmod (q : Int) (t.size : Int) = (nx : Int) := by rw [Int.tmod_eq_emod_of_nonneg (by omega), ← hnx]; simp
      have hmod2 : (q : Int) % (t.size : Int) = (nx : Int) := by rw [← hnx]; simp
      have hwx : IntKind.i64.wrap (nx : Int) = (nx : Int) := Go.IntWalk.i64_in _ ⟨by omega, by omega⟩
      have hs0 : ((t.size : Int) == 0) = false := by rw [beq_eq_false_iff_ne]; omega
      have hs1 : ¬ ((t.size : Int) = 0) := by omega
      have hnx0 : (0 : Int) ≤ (nx : Int) := by omega
      obtain ⟨f11, f12⟩ := HY.out nx hnl
      have HF11 := Lib.hid f11
      have HF12 := Lib.hid f12
      clear f11 f12 HY hnx
      go_wp2_with fail
      refine (HF11.out _).mono ?_
      clear hmod hmod2 hwx hs0 hs1
      rintro e w21 ⟨rfl, hb21⟩
      have HM21 := Lib.hid (HM20.out.kept hb21)
      have HK21 := Lib.hid (HK20.out.kept hb21)
      have HT21 := Lib.hid (HT20.out.kept hb21)
      have HB21 := Lib.hid (HB20.out.trans (hb21.mono HB20.out.size))
      clear hb21 HM20 HK20 HT20 HB20
      go_wp2_with (first | (refine wpList_load_row rfl 25 _ rfl _ rfl 25 _ _ _ (HM21.out) Try.underlying25 rfl (by kernel_rfl) ?_) | (refine wpList_load_row rfl 27 _ rfl _ rfl 27 _ _ _ (HK21.out) Try.underlying27 rfl (by kernel_rfl) ?_) | fail)
      refine (HF12.out _ _ HT21.out).mono ?_
      rintro e w22 ⟨rfl, hb22⟩
      have HB22 := Lib.hid (HB21.out.trans (hb22.mono HB21.out.size))
      have he3 : (rs == rs) = true := by simp
      go_wp2
      go_ret
      exact ⟨rfl, HB22.out⟩
end Go.Proofs.Ytkhglknpcajmiaa
