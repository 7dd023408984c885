/- GoodChange in the program and in the model, and the law on it. -/
import Derived.Test.YtkeighlcdnfjcaaB4
namespace Go.Proofs.Ytkeighlcdnfjcaa
open Go.RowKit

theorem goodC_stage {n : Int} {s : ByteArray} (h : goodC n s = true) : ∃ m : Nat, n = m ∧ goodL m (lets s) = true := by
  simp only [goodC, Bool.and_eq_true, decide_eq_true_eq] at h
  exact ⟨n.toNat, by omega, h.2⟩

set_option maxRecDepth 100000 in
set_option maxHeartbeats 1000000 in
theorem changeDigits_no (n : Int) (s : ByteArray) (hg : goodC n s = false) (w : World) :
    Calls Try.prog 48 #[.int .i64 n, .string s] w fun e w' => e = .returned (.tuple #[.agg zero8, .bool false]) ∧ Below w.heap.size w w' := by
  by_cases hn : 3 ≤ n ∧ n ≤ 8
  · obtain ⟨m, rfl⟩ : ∃ m : Nat, n = m := ⟨n.toNat, by omega⟩
    have h3 : 3 ≤ m := by omega
    have h8 : m ≤ 8 := by omega
    rw [goodC_in] at hg
    by_cases he : lets s = []
    · have hE : s.toList.isEmpty = true := by rw [empty_lets, he]; rfl
      have h3' : (3 : Int) ≤ m := by omega
      have h8' : (m : Int) ≤ 8 := by omega
      have HR := Lib.hid (RowAt.new w 56 zero8)
      clear hg he hn
      go_enter Try.func48, Try.ntmps48
      go_wp2_with (first | (go_at_call 63; refine (goodStage_any _ _).mono ?_; rintro e w' ⟨rfl, rfl⟩) | (refine wpList_store_row rfl 56 _ _ rfl _ _ rfl rfl 56 _ HR.out (by kernel_rfl) rfl (by kernel_rfl) ?_))
      exact bodyPost_ret (results_row_tmp rfl _ _ w.heap.size 56 zero8 (0, 0) _ rfl (HR.out.row _) Try.underlying56 rfl (by kernel_rfl)) rfl ⟨rfl, below_setRow ((Below.refl _ w).alloc (Nat.le_refl _) _) (Nat.le_refl _) _⟩
    · exact changeDigits_walk m s h3 h8 (by rw [empty_lets, decide_eq_false he]) _ rfl (walk_bad m h3 h8 _ he hg) w
  · have hd : (decide (3 ≤ n) && decide (n ≤ 8)) = false := by simp; omega
    have HR := Lib.hid (RowAt.new w 56 zero8)
    clear hg hn
    go_enter Try.func48, Try.ntmps48
    go_wp2_with (first | (go_at_call 63; refine (goodStage_any _ _).mono ?_; rintro e w' ⟨rfl, rfl⟩) | (refine wpList_store_row rfl 56 _ _ rfl _ _ rfl rfl 56 _ HR.out (by kernel_rfl) rfl (by kernel_rfl) ?_))
    exact bodyPost_ret (results_row_tmp rfl _ _ w.heap.size 56 zero8 (0, 0) _ rfl (HR.out.row _) Try.underlying56 rfl (by kernel_rfl)) rfl ⟨rfl, below_setRow ((Below.refl _ w).alloc (Nat.le_refl _) _) (Nat.le_refl _) _⟩

/-- the digits that the program makes of a text -/
def chF (n : Int) (s : ByteArray) : Nat → Nat := if goodC n s = true then cf n.toNat (lets s) else fun _ => 0
theorem chF_yes {n : Nat} {s : ByteArray} (h : goodL n (lets s) = true) : chF n s = cf n (lets s) := by
  unfold chF
  rw [if_pos (by rw [goodC_in]; exact h)]
  rfl
/-- both in one -/
theorem changeDigits_any (n : Int) (s : ByteArray) (w : World) :
    Calls Try.prog 48 #[.int .i64 n, .string s] w fun e w' => e = .returned (.tuple #[.agg (dig8 (chF n s)), .bool (goodC n s)]) ∧ Below w.heap.size w w' := by
  cases h : goodC n s
  · refine (changeDigits_no n s h w).mono ?_
    rintro e w' ⟨rfl, hb⟩
    refine ⟨?_, hb⟩
    unfold chF
    rw [h]
    rfl
  · obtain ⟨m, rfl, hg⟩ := goodC_stage h
    refine (changeDigits_yes m s hg w).mono ?_
    rintro e w' ⟨rfl, hb⟩
    rw [chF_yes hg]
    exact ⟨rfl, hb⟩

set_option maxRecDepth 100000 in
set_option maxHeartbeats 1000000 in
theorem iGoodChange_any (n : Int) (s : ByteArray) (w : World) :
    Calls Try.prog 25 #[.int .i64 n, .string s] w fun e w' => e = .returned (.bool (goodC n s)) ∧ Below w.heap.size w w' := by
  go_enter Try.func25, Try.ntmps25
  go_wp2_with fail
  refine (changeDigits_any n s _).mono ?_
  rintro e w1 ⟨rfl, hb1⟩
  go_wp2_with (refine wpList_store_row rfl 56 _ _ rfl _ _ rfl rfl 56 _ (heap_at _ _ _ (by simp)) (by kernel_rfl) rfl (by kernel_rfl) ?_; rw [setRow_at _ _ _ _ _ (by simp)])
  go_ret
  exact ⟨rfl, hb1.alloc hb1.size _⟩

set_option maxRecDepth 100000 in
set_option maxHeartbeats 1000000 in
theorem sGoodChange_any (n : Int) (s : ByteArray) (hs : s.size ≤ maxLen) (w : World) :
    Calls Try.prog 26 #[.int .i64 n, .string s] w fun e w' => e = .returned (.bool (goodC n s)) ∧ w = w' := by
  go_enter Try.func26, Try.ntmps26
  go_wp2_with fail
  refine (l2Change_any n s hs _).mono ?_
  rintro e w1 ⟨rfl, rfl⟩
  go_wp2
  go_ret
  exact ⟨rfl, rfl⟩

set_option maxRecDepth 100000 in
set_option maxHeartbeats 1000000 in
theorem lawGoodChange (n : Int) (s : ByteArray) (w : World) (hs : s.size ≤ maxLen) :
    Calls Try.prog 5 #[.int .i64 n, .string s] w fun e w' => e = .returned (.bool true) ∧ Below w.heap.size w w' := by
  by_cases hbig : 1048576 < s.size
  · have hbig' : (1048576 : Int) < s.size := by omega
    go_enter Try.func5, Try.ntmps5
    go_wp2
    go_ret
    exact ⟨rfl, Below.refl _ _⟩
  · have hbig' : (s.size : Int) ≤ 1048576 := by omega
    have hsame : (goodC n s != goodC n s) = false := by simp
    go_enter Try.func5, Try.ntmps5
    go_wp2_with fail
    refine (sGoodChange_any n s hs _).mono ?_
    rintro e w1 ⟨rfl, rfl⟩
    go_wp2_with fail
    refine (iGoodChange_any n s _).mono ?_
    rintro e w2 ⟨rfl, hb2⟩
    cases h : goodC n s
    all_goals
      rw [h] at *
      go_wp2
      go_ret
      exact ⟨rfl, hb2⟩
end Go.Proofs.Ytkeighlcdnfjcaa
