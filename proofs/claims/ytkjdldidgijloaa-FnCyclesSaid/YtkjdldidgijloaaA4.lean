/- impl.RoundsOf, and the law on it: the walk. -/
import Derived.Test.YtkjdldidgijloaaA3
namespace Go.Proofs.Ytkjdldidgijloaa
open Go.RowKit

theorem strOf_rdf (n : Nat) : strOf n (rdf n) = rnds n := by
  unfold strOf rnds
  congr 2
  apply List.map_congr_left
  intro i hi
  rw [List.mem_range] at hi
  simp [rdf, hi]
theorem isDig_rdf (n : Nat) (h : n ≤ 8) : IsDig n (rdf n) :=
  ⟨h, fun i hi => by simp [rdf, hi]; omega, fun i hi _ => by simp [rdf]; omega⟩

set_option maxHeartbeats 400000 in
theorem iRoundsOf_yes (n : Nat) (h3 : 3 ≤ n) (h8 : n ≤ 8) (w : World) :
    Calls Try.prog 23 #[.int .i64 n] w fun e w' => e = .returned (.tuple #[.string (rnds n), .bool true]) ∧ Below w.heap.size w w' := by
  have h3' : (3 : Int) ≤ n := by omega
  have h8' : (n : Int) ≤ 8 := by omega
  go_enter Try.func23, Try.ntmps23
  go_wp2_with (first | (go_at_call 58; refine (goodStage_any _ _).mono ?_; rintro e w' ⟨rfl, rfl⟩))
  refine (roundsDigits_any n h8 _).mono ?_
  rintro e w1 ⟨rfl, hb1⟩
  go_wp2_with fail
  refine (row_any n _ (isDig_rdf n h8) _).mono ?_
  rintro e w2 ⟨rfl, hb2⟩
  rw [strOf_rdf]
  go_wp2
  go_ret2
  exact ⟨rfl, hb1.trans (hb2.mono hb1.size)⟩

set_option maxHeartbeats 400000 in
theorem iRoundsOf_no (n : Int) (h : ¬ (3 ≤ n ∧ n ≤ 8)) (w : World) :
    Calls Try.prog 23 #[.int .i64 n] w fun e w' => e = .returned (.tuple #[.string ⟨#[]⟩, .bool false]) ∧ w = w' := by
  have hd : (decide (3 ≤ n) && decide (n ≤ 8)) = false := by simp; omega
  go_enter Try.func23, Try.ntmps23
  go_wp2_with (first | (go_at_call 58; refine (goodStage_any _ _).mono ?_; rintro e w' ⟨rfl, rfl⟩))
  go_ret2
  exact ⟨rfl, rfl⟩

set_option maxHeartbeats 400000 in
theorem lawRoundsOf (n : Int) (w : World) :
    Calls Try.prog 7 #[.int .i64 n] w fun e w' => e = .returned (.bool true) ∧ Below w.heap.size w w' := by
  by_cases h : 3 ≤ n ∧ n ≤ 8
  · obtain ⟨m, rfl⟩ := Int.eq_ofNat_of_zero_le (show 0 ≤ n by omega)
    obtain ⟨h3, h8⟩ : 3 ≤ m ∧ m ≤ 8 := by omega
    clear h
    go_enter Try.func7, Try.ntmps7
    go_wp2_with fail
    refine (sRoundsOf_yes m h3 h8 _).mono ?_
    rintro e w' ⟨rfl, rfl⟩
    go_wp2_with fail
    refine (iRoundsOf_yes m h3 h8 _).mono ?_
    rintro e w1 ⟨rfl, hb⟩
    go_wp2
    go_ret
    exact ⟨rfl, hb⟩
  · have H := Lib.hid h
    clear h
    go_enter Try.func7, Try.ntmps7
    go_wp2_with fail
    refine (sRoundsOf_no n H.out _).mono ?_
    rintro e w' ⟨rfl, rfl⟩
    go_wp2_with fail
    refine (iRoundsOf_no n H.out _).mono ?_
    rintro e w' ⟨rfl, rfl⟩
    go_wp2
    go_ret
    exact ⟨rfl, Below.refl _ _⟩
end Go.Proofs.Ytkjdldidgijloaa
