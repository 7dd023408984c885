/- AllChanges, and the law on it. -/
import Derived.Test.YtkeighlcdnfjcaaB19
namespace Go.Proofs.Ytkeighlcdnfjcaa
open Go.RowKit

/-- all changes of a stage, none of a number that is no stage -/
def chsAny (n : Int) : List (List Nat) := if 3 ≤ n ∧ n ≤ 8 then chs n.toNat else []
def stageB (n : Int) : Bool := decide (3 ≤ n) && decide (n ≤ 8)
theorem chsAny_len (n : Int) : (chsAny n).length ≤ 100 := by
  unfold chsAny
  split
  · exact (chs_len n.toNat (by omega) (by omega)).1
  · simp
theorem chsAny_in (m : Nat) (h3 : 3 ≤ m) (h8 : m ≤ 8) : chsAny m = chs m := by
  unfold chsAny
  rw [if_pos (by omega)]
  rfl

set_option maxRecDepth 100000 in
set_option maxHeartbeats 1000000 in
theorem iAllChanges_any (n : Int) (w : World) : Calls Try.prog 29 #[.int .i64 n] w (TextsAny (chsAny n) (stageB n) w) := by
  by_cases hn : 3 ≤ n ∧ n ≤ 8
  · obtain ⟨m, rfl⟩ : ∃ m : Nat, n = m := ⟨n.toNat, by omega⟩
    rw [chsAny_in m (by omega) (by omega), show stageB m = true by simp [stageB]; omega]
    exact iAllChanges_yes m (by omega) (by omega) w
  · have hd : (decide (3 ≤ n) && decide (n ≤ 8)) = false := by simp; omega
    rw [show chsAny n = [] by unfold chsAny; rw [if_neg hn], show stageB n = false from hd]
    clear hn
    go_enter Try.func29, Try.ntmps29
    go_wp2_with (first | (go_at_call 63; refine (goodStage_any _ _).mono ?_; rintro e w' ⟨rfl, rfl⟩))
    go_ret2
    exact ⟨_, rfl, New.nil _ _ _, Below.refl _ _⟩

set_option maxRecDepth 100000 in
set_option maxHeartbeats 1000000 in
theorem sAllChanges_any (n : Int) (w : World) : Calls Try.prog 30 #[.int .i64 n] w (TextsAny (chsAny n) (stageB n) w) := by
  by_cases hn : 3 ≤ n ∧ n ≤ 8
  · obtain ⟨m, rfl⟩ : ∃ m : Nat, n = m := ⟨n.toNat, by omega⟩
    have h3 : 3 ≤ m := by omega
    have h8 : m ≤ 8 := by omega
    have h3' : (3 : Int) ≤ m := by omega
    have h8' : (m : Int) ≤ 8 := by omega
    rw [chsAny_in m h3 h8, show stageB m = true by simp [stageB]; omega]
    clear hn
    go_enter Try.func30, Try.ntmps30
    go_wp2_with (first | (go_at_call 65; refine (l1In_any _ _ _ _).mono ?_; rintro e w' ⟨rfl, rfl⟩) | fail)
    refine (l2All_any m h3 h8 _).mono ?_
    rintro e w1 ⟨v, rfl, hn1, hb1⟩
    go_wp2
    go_ret2
    exact ⟨_, rfl, hn1, hb1⟩
  · have hd : (decide (3 ≤ n) && decide (n ≤ 8)) = false := by simp; omega
    rw [show chsAny n = [] by unfold chsAny; rw [if_neg hn], show stageB n = false from hd]
    clear hn
    go_enter Try.func30, Try.ntmps30
    go_wp2_with (first | (go_at_call 65; refine (l1In_any _ _ _ _).mono ?_; rintro e w' ⟨rfl, rfl⟩))
    go_ret2
    exact ⟨_, rfl, New.nil _ _ _, Below.refl _ _⟩

set_option maxRecDepth 100000 in
set_option maxHeartbeats 1000000 in
theorem lawAllChanges (n : Int) (w : World) :
    Calls Try.prog 8 #[.int .i64 n] w fun e w' => e = .returned (.bool true) ∧ Below w.heap.size w w' := by
  have hlen := chsAny_len n
  have HS := Lib.hid (sAllChanges_any n)
  have HI := Lib.hid (iAllChanges_any n)
  generalize chsAny n = ys at hlen HS HI
  generalize stageB n = b at HS HI
  obtain ⟨m, hm⟩ : ∃ m, ys.length = m := ⟨_, rfl⟩
  rw [hm] at hlen
  have HM := Lib.hid hm
  clear hm
  have hm' : (m : Int) ≤ 100 := by omega
  go_enter Try.func8, Try.ntmps8
  go_wp2_with fail
  refine (HS.out _).mono ?_
  rintro e w1 ⟨v1, rfl, hl1, hb1⟩
  have L1 := Lib.hid hl1
  have B1 := Lib.hid hb1
  clear hl1 hb1
  go_wp2_with fail
  refine (HI.out _).mono ?_
  rintro e w2 ⟨v2, rfl, hl2, hb2⟩
  have L2 := Lib.hid hl2
  have B2 := Lib.hid hb2
  clear hl2 hb2
  go_wp2_with fail
  refine (eqStringS_same v2 v1 ys _ L2.out.own (L1.out.own.kept B2.out) (by rw [HM.out]; omega)).mono ?_
  rintro e w3 ⟨rfl, d3, hd3⟩
  have L3 : Hid (New w1.heap.size w3 9 v2 (strs ys)) := by rw [hd3]; exact L2.out.drewN _
  have B3 : Hid (Below w1.heap.size w1 w3) := by rw [hd3]; exact below_drewN B2.out _
  clear hd3
  go_wp2_with fail
  refine (markStringS_any w1.heap.size v2 ys 1 _ L3.out B3.out.size (by rw [HM.out]; omega) (by omega) (by omega)).mono ?_
  rintro e w4 ⟨rfl, hl4, hb4⟩
  rw [HM.out] at hl4
  have L4 := Lib.hid hl4
  have B4 := Lib.hid (B3.out.trans hb4)
  rw [HM.out]
  clear hl4 hb4
  go_wp2_with fail
  refine (heldStringS_any v2 m 1 _ L4.out.own (by omega) (by omega) (by omega)).mono ?_
  rintro e w5 ⟨rfl, hb5⟩
  have L5 := Lib.hid (L4.out.kept hb5)
  have B5 := Lib.hid (B4.out.trans (hb5.mono B4.out.size))
  clear hb5
  have hnn : ¬ ((1 : Int) + (m : Nat) < 0) := by omega
  go_wp2_with fail
  refine (HI.out _).mono ?_
  rintro e w6 ⟨v6, rfl, hl6, hb6⟩
  have L6 := Lib.hid hl6
  have L5' := Lib.hid (L5.out.kept hb6)
  have B6 := Lib.hid (B5.out.trans (hb6.mono B5.out.size))
  clear hl6 hb6
  go_wp2_with fail
  refine (eqStringS_same v6 v1 ys _ L6.out.own (L1.out.own.kept B6.out) (by rw [HM.out]; omega)).mono ?_
  rintro e w7 ⟨rfl, d7, hd7⟩
  have L7 : Hid (New w1.heap.size w7 9 v2 (strs (smarks 1 m))) := by rw [hd7]; exact L5'.out.drewN _
  have B7 : Hid (Below w1.heap.size w1 w7) := by rw [hd7]; exact below_drewN B6.out _
  clear hd7
  go_wp2_with fail
  refine (heldStringS_any v2 m 1 _ L7.out.own (by omega) (by omega) (by omega)).mono ?_
  rintro e w8 ⟨rfl, hb8⟩
  have B8 := Lib.hid (B7.out.trans (hb8.mono B7.out.size))
  clear hb8
  go_wp2
  go_ret
  exact ⟨rfl, B1.out.trans (B8.out.mono B1.out.size)⟩
end Go.Proofs.Ytkeighlcdnfjcaa
