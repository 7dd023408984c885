/- Names and methods: what is good, in the program and in the model. -/
import Derived.Test.YtpfnamiacagocaaM5
namespace Go.Proofs.Ytpfnamiacagocaa
open Go.RowKit
set_option linter.unusedSimpArgs false
set_option linter.unusedVariables false

def smallB (b : Nat) : Bool := decide (97 ≤ b) && decide (b ≤ 122)
/-- one to ten small letters -/
def nameB (s : ByteArray) : Bool := decide (1 ≤ s.size) && decide (s.size ≤ 10) && (lets s).all smallB
def goodM (s : ByteArray) (n : Int) (L : List (List Nat)) : Bool := goodAll n L && nameB s
theorem small_step (s : ByteArray) (j : Nat) (hj : j < s.size) : ((lets s).drop j).all smallB = (smallB (dg s j) && ((lets s).drop (j + 1)).all smallB) := by
  rw [lets_drop s j hj, List.all_cons]
theorem empty_size (s : ByteArray) : s.toList.isEmpty = decide (s.size = 0) := by
  rw [empty_lets, Bool.eq_iff_iff, decide_eq_true_eq, decide_eq_true_eq, ← List.length_eq_zero_iff, lets_len]

set_option maxRecDepth 100000 in
set_option maxHeartbeats 1000000 in
theorem goodName_any (s : ByteArray) (hs : s.size ≤ maxLen) (w : World) :
    Calls Try.prog 98 #[.string s] w fun e w' => e = .returned (.bool (nameB s)) ∧ w = w' := by
  unfold maxLen at hs
  have hs' : (s.size : Int) ≤ 9223372036854775807 := by omega
  by_cases h0 : s.size = 0
  · have hn : nameB s = false := by unfold nameB; rw [decide_eq_false (by omega)]; rfl
    have he : s.toList.isEmpty = true := by rw [empty_size, h0]; rfl
    rw [hn]
    clear hn
    go_enter Try.func98, Try.ntmps98
    go_wp2
    go_ret
    exact ⟨rfl, rfl⟩
  · have he : s.toList.isEmpty = false := by rw [empty_size, decide_eq_false h0]
    by_cases h10 : s.size ≤ 10
    · have hn : nameB s = (lets s).all smallB := by unfold nameB; rw [decide_eq_true (by omega), decide_eq_true h10]; rfl
      rw [hn]
      generalize hall : (lets s).all smallB = res
      have HALL := Lib.hid (show ((lets s).drop 0).all smallB = res from hall)
      have h10' : (s.size : Int) ≤ 10 := by omega
      have hd : decide ((10 : Int) < s.size) = false := by simp; omega
      have hat := dg_at s
      have hlt := dg_lt s
      have HST := Lib.hid (small_step s)
      have hend : (lets s).drop s.size = [] := List.drop_eq_nil_of_le (by rw [lets_len]; exact Nat.le_refl _)
      generalize hd9 : lets s = LS at *
      generalize dg s = f at *
      clear hn hall hd9
      go_enter Try.func98, Try.ntmps98
      go_wp2
      go_loopg [3, 13] s.size (fun q _ i wr => ∃ k : Nat, k ≤ s.size ∧ q + k = s.size ∧ i = .int .i64 k ∧ (LS.drop k).all smallB = res ∧ w = wr)
      case atStart => exact ⟨0, Nat.zero_le _, rfl, rfl, HALL.out, rfl⟩
      case round =>
        clear HALL
        obtain ⟨k, hk, hq, rfl, hr, rfl⟩ := hrel
        have HR := Lib.hid hr
        clear hr
        by_cases hks : k < s.size
        · have hr := HR.out
          rw [HST.out k hks] at hr
          have hb256 := hlt k
          by_cases hlo : f k < 97
          · have h1 : smallB (f k) = false := by unfold smallB; rw [decide_eq_false (by omega)]; rfl
            rw [h1, Bool.false_and] at hr
            have HR2 := Lib.hid hr
            have hlo' : (f k : Int) < 97 := by omega
            clear hr h1 HR HST hlt
            go_wp2
            go_ret
            exact ⟨by rw [← HR2.out]; rfl, rfl⟩
          · by_cases hhi : 122 < f k
            · have h1 : smallB (f k) = false := by unfold smallB; rw [decide_eq_false (show ¬ f k ≤ 122 by omega)]; simp
              rw [h1, Bool.false_and] at hr
              have HR2 := Lib.hid hr
              have hlo' : ¬ (f k : Int) < 97 := by omega
              have hhi' : (122 : Int) < (f k : Int) := by omega
              clear hr h1 HR HST hlt
              go_wp2
              go_ret
              exact ⟨by rw [← HR2.out]; rfl, rfl⟩
            · have h1 : smallB (f k) = true := by unfold smallB; rw [decide_eq_true (show 97 ≤ f k by omega), decide_eq_true (show f k ≤ 122 by omega)]; rfl
              rw [h1, Bool.true_and] at hr
              have HR2 := Lib.hid hr
              have hlo' : ¬ (f k : Int) < 97 := by omega
              have hhi' : ¬ (122 : Int) < (f k : Int) := by omega
              clear hr h1 HR hlt
              go_wp2
              go_roundg (s.size - (k + 1))
              case measure => omega
              case rel => exact ⟨k + 1, by omega, by omega, by go_num, HR2.out, rfl⟩
        · obtain rfl : k = s.size := by omega
          have hr := HR.out
          rw [hend] at hr
          have hr : true = res := hr
          subst hr
          go_wp2
          go_ret
          exact ⟨rfl, rfl⟩
    · have hn : nameB s = false := by unfold nameB; rw [decide_eq_false h10]; simp
      have hgt : (10 : Int) < s.size := by omega
      rw [hn]
      clear hn
      go_enter Try.func98, Try.ntmps98
      go_wp2
      go_ret
      exact ⟨rfl, rfl⟩

set_option maxRecDepth 100000 in
set_option maxHeartbeats 1000000 in
theorem l4Name_any (s : ByteArray) (hs : s.size ≤ maxLen) (w : World) :
    Calls Try.prog 102 #[.string s] w fun e w' => e = .returned (.bool (nameB s)) ∧ w = w' := by
  unfold maxLen at hs
  have hs' : (s.size : Int) ≤ 9223372036854775807 := by omega
  have hn : nameB s = (decide (1 ≤ s.size) && decide (s.size ≤ 10) && (lets s).all smallB) := rfl
  generalize nameB s = tot at *
  generalize hall : (lets s).all smallB = res at *
  have HALL := Lib.hid (show ((lets s).drop 0).all smallB = res from hall)
  have HN := Lib.hid hn
  have hat := dg_at s
  have hlt := dg_lt s
  have HST := Lib.hid (small_step s)
  have hend : (lets s).drop s.size = [] := List.drop_eq_nil_of_le (by rw [lets_len]; exact Nat.le_refl _)
  generalize hd9 : lets s = LS at *
  generalize dg s = f at *
  clear hn hall hd9
  go_enter Try.func102, Try.ntmps102
  go_wp2
  go_loopg [3] s.size (fun q i wr => ∃ k : Nat, k ≤ s.size ∧ q + k = s.size ∧ i = .int .i64 k ∧ (LS.drop k).all smallB = res ∧ w = wr)
  case atStart => exact ⟨0, Nat.zero_le _, rfl, rfl, HALL.out, rfl⟩
  case round =>
    clear HALL
    obtain ⟨k, hk, hq, rfl, hr, rfl⟩ := hrel
    have HR := Lib.hid hr
    clear hr
    by_cases hks : k < s.size
    · have hr := HR.out
      rw [HST.out k hks] at hr
      have hb256 := hlt k
      have hki : (k : Int) < s.size := by omega
      by_cases hlo : f k < 97
      · have h1 : smallB (f k) = false := by unfold smallB; rw [decide_eq_false (by omega)]; rfl
        rw [h1, Bool.false_and] at hr
        have HR2 : Hid (tot = false) := Lib.hid (by rw [HN.out, ← hr]; simp)
        have hlo' : (f k : Int) < 97 := by omega
        clear hr h1 HR HST hlt
        go_wp2
        go_ret
        exact ⟨by rw [HR2.out]; rfl, rfl⟩
      · by_cases hhi : 122 < f k
        · have h1 : smallB (f k) = false := by unfold smallB; rw [decide_eq_false (show ¬ f k ≤ 122 by omega)]; simp
          rw [h1, Bool.false_and] at hr
          have HR2 : Hid (tot = false) := Lib.hid (by rw [HN.out, ← hr]; simp)
          have hlo' : ¬ (f k : Int) < 97 := by omega
          have hhi' : (122 : Int) < (f k : Int) := by omega
          clear hr h1 HR HST hlt
          go_wp2
          go_ret
          exact ⟨by rw [HR2.out]; rfl, rfl⟩
        · have h1 : smallB (f k) = true := by unfold smallB; rw [decide_eq_true (show 97 ≤ f k by omega), decide_eq_true (show f k ≤ 122 by omega)]; rfl
          rw [h1, Bool.true_and] at hr
          have HR2 := Lib.hid hr
          have hlo' : ¬ (f k : Int) < 97 := by omega
          have hhi' : ¬ (122 : Int) < (f k : Int) := by omega
          clear hr h1 HR hlt
          go_wp2
          go_roundg (s.size - (k + 1))
          case measure => omega
          case rel => exact ⟨k + 1, by omega, by omega, by go_num, HR2.out, rfl⟩
    · obtain rfl : k = s.size := by omega
      have hr := HR.out
      rw [hend] at hr
      have hr : true = res := hr
      subst hr
      have HT : Hid (tot = (decide ((1 : Int) ≤ s.size) && decide ((s.size : Int) ≤ 10))) := Lib.hid (by
        rw [HN.out, Bool.and_true, Bool.eq_iff_iff]
        simp only [Bool.and_eq_true, decide_eq_true_eq]
        omega)
      go_wp2_with fail
      refine (l1In_any _ _ _ _).mono ?_
      rintro e w5 ⟨rfl, rfl⟩
      go_wp2
      go_ret
      exact ⟨by rw [HT.out]; rfl, rfl⟩
end Go.Proofs.Ytpfnamiacagocaa
