/- TurnTouch, ReverseTouch, LeastTurn, in the program and in the model. -/
import Derived.Test.YtkhglknpcajmiaaXD
import Derived.Test.YtkhglknpcajmiaaXB
namespace Go.Proofs.Ytkhglknpcajmiaa
open Go.RowKit
set_option linter.unusedSimpArgs false
set_option linter.unusedVariables false

set_option maxRecDepth 100000 in
set_option maxHeartbeats 1000000 in
theorem turnedCalls_any (t : ByteArray) (n : Nat) (hn : n ≤ t.size) (ht : t.size ≤ 1000) (w : World) :
    Calls Try.prog 122 #[.string t, .int .i64 n] w fun e w' => e = .returned (.string (turnT t n)) ∧ ∃ m, w' = w.drewN m := by
  have hni : (n : Int) ≤ t.size := by omega
  have hti : (t.size : Int) ≤ 1000 := by omega
  have h0 : (0 : Int) ≤ n := by omega
  unfold turnT
  go_enter Try.func122, Try.ntmps122
  go_wp2
  go_quiet (fail)
  go_wp2
  go_ret
  exact ⟨rfl, _, rfl⟩

set_option maxRecDepth 100000 in
set_option maxHeartbeats 1000000 in
theorem l9Turn_any (t : ByteArray) (n : Nat) (hn : n ≤ t.size) (ht : t.size ≤ 1000) (w : World) :
    Calls Try.prog 123 #[.string t, .int .i64 n] w fun e w' => e = .returned (.string (turnT t n)) ∧ ∃ m, w' = w.drewN m := by
  have hni : (n : Int) ≤ t.size := by omega
  have hti : (t.size : Int) ≤ 1000 := by omega
  have h0 : (0 : Int) ≤ n := by omega
  unfold turnT
  go_enter Try.func123, Try.ntmps123
  go_wp2
  go_quiet (fail)
  go_wp2
  go_ret
  exact ⟨rfl, _, rfl⟩

theorem bytes_made2 (s : ByteArray) (w : World) : ∃ cap W1, s.size ≤ cap ∧ (convert 9 22 (.string s)).run Try.prog w = .ok (.slice (some ⟨w.heap.size, 0, none⟩) s.size cap) W1 ∧ BytesAt W1 w.heap.size s.size (dg s) ∧ Below w.heap.size w W1 := by
  refine ⟨_, _, grownCap_ge w s.size 0 5, run_bytes_of_string w _ _ 5 s Try.underlying9 Try.underlying22 Try.underlying5, ⟨by simp, fun i hi => ?_, fun i hi => ?_⟩, (Below.refl _ w).drew.alloc (Nat.le_refl _) _⟩
  · have hi' : i < s.data.size := hi
    rw [show w.heap.size = w.drew.heap.size from rfl, World.cell?_alloc_mark, bytesRow_at s _ i hi']
    simp [dg, hi]; rfl
  · rw [show w.heap.size = w.drew.heap.size from rfl, World.frozen?_alloc_mark]
    have : ¬ (bytesRow s (grownCap w s.size 0 5)).size ≤ i := by
      have hi' : i < s.data.size := hi
      unfold bytesRow
      simp
      omega
    simp [this]

/-- so far from both ends -/
def revA (m i : Nat) (h : Nat → Nat) (k : Nat) : Nat := if k < i ∨ (m ≤ k + i ∧ k < m) then h (m - 1 - k) else h k
theorem revA_zero (m : Nat) (h : Nat → Nat) : revA m 0 h = h := by
  funext k
  unfold revA
  rw [if_neg (by omega)]
theorem revA_step (m i j : Nat) (h : Nat → Nat) (hij : i < j) (hj : i + j + 1 = m) : setF (setF (revA m i h) i (h j)) j (h i) = revA m (i + 1) h := by
  funext k
  unfold setF revA
  by_cases e1 : k = j
  · rw [if_pos e1, if_pos (by omega)]
    congr 1
    omega
  · rw [if_neg e1]
    by_cases e2 : k = i
    · rw [if_pos e2, if_pos (by omega)]
      congr 1
      omega
    · rw [if_neg e2]
      by_cases e3 : k < i ∨ (m ≤ k + i ∧ k < m)
      · rw [if_pos e3, if_pos (by omega)]
      · rw [if_neg e3, if_neg (by omega)]
theorem revA_at (m i j : Nat) (h : Nat → Nat) (hij : i < j) (hj : i + j + 1 = m) : revA m i h i = h i ∧ revA m i h j = h j := by
  unfold revA
  rw [if_neg (by omega), if_neg (by omega)]
  exact ⟨rfl, rfl⟩
theorem revA_all (m i : Nat) (h : Nat → Nat) (hi : m ≤ i + i + 1) (him : i ≤ m) (k : Nat) (hk : k < m + 1) : revA m i h k = revF (m + 1) h k := by
  unfold revA revF
  by_cases e : k < m
  · rw [if_pos (show k + 1 < m + 1 by omega)]
    by_cases e2 : k < i ∨ (m ≤ k + i ∧ k < m)
    · rw [if_pos e2]
      exact congrArg h (by omega)
    · rw [if_neg e2]
      exact congrArg h (by omega)
  · rw [if_neg (show ¬ (k < i ∨ (m ≤ k + i ∧ k < m)) by omega), if_neg (show ¬ k + 1 < m + 1 by omega)]

set_option maxRecDepth 100000 in
set_option maxHeartbeats 1000000 in
theorem reverseB_any (b n m cap : Nat) (h : Nat → Nat) (w : World) (hB : BytesAt w b n h) (hm : m ≤ n) (hn : n ≤ 1000) :
    Calls Try.prog 153 #[.slice (some ⟨b, 0, none⟩) m cap] w fun e w' => e = .returned (.tuple #[]) ∧ (∃ i, m ≤ i + i + 1 ∧ i ≤ m ∧ BytesAt w' b n (revA m i h)) ∧ Below b w w' := by
  have HB := Lib.hid hB
  have hmi : (m : Int) ≤ 1000 := by omega
  have HLT := Lib.hid hB.lt
  clear hB
  go_enter Try.func153, Try.ntmps153
  go_wp2
  go_loopg [2, 3] m (fun q i j wr => ∃ k : Nat, q + k = m ∧ i = .int .i64 k ∧ j = .int .i64 ((m : Int) - 1 - k) ∧ BytesAt wr b n (revA m k h) ∧ Below b w wr)
  case atStart => exact ⟨0, by omega, rfl, by go_num, by rw [revA_zero]; exact HB.out, Below.refl _ _⟩
  case round =>
    clear HB
    obtain ⟨k, hq, rfl, rfl, hk, hb⟩ := hrel
    have HQ := Lib.hid hq
    have HK := Lib.hid hk
    have HB := Lib.hid hb
    clear hq hk hb
    by_cases hlt : k + k + 1 < m
    · obtain ⟨j, hj⟩ : ∃ j, k + j + 1 = m := ⟨m - 1 - k, by omega⟩
      have hkj : k < j := by omega
      have hji : (m : Int) - 1 - k = j := by omega
      rw [hji]
      have hkji : (k : Int) < j := by omega
      have hki : (k : Int) < m := by omega
      have hjm : (j : Int) < m := by omega
      have hj1000 : (j : Int) ≤ 1000 := by omega
      obtain ⟨e1, e2⟩ := revA_at m k j h hkj hj
      have c1 := HK.out.cell k (by omega)
      have c2 := HK.out.cell j (by omega)
      rw [e1] at c1
      rw [e2] at c2
      have f1 := HK.out.free k (by omega)
      have f2 := HK.out.free j (by omega)
      have HS := Lib.hid (revA_step m k j h hkj hj)
      have HJ := Lib.hid hj
      clear e1 e2 hji hj hlt
      go_wp2
      go_region
      all_goals
        go_wp2
        go_roundg (m - (k + 1))
        case measure => have := HQ.out; have := HJ.out; omega
        case rel =>
          refine ⟨k + 1, by have := HQ.out; have := HJ.out; omega, by go_num, by have := HJ.out; first | go_num | (congr 1; omega), ?_, ?_⟩
          · have h3 := (HK.out.set k (h j) (by have := HJ.out; omega)).set j (h k) (by have := HJ.out; omega)
            rw [HS.out] at h3
            exact ⟨h3.lt, h3.cell, h3.free⟩
          · exact ((HB.out.setCell (p := ⟨b, k, none⟩) (Nat.le_refl _) _).setCell (p := ⟨b, j, none⟩) (Nat.le_refl _) _).drew
    · have hni : ¬ (k : Int) < (m : Int) - 1 - k := by omega
      go_wp2
      go_end0
      exact ⟨rfl, ⟨k, by omega, by have := HQ.out; omega, HK.out⟩, HB.out⟩
end Go.Proofs.Ytkhglknpcajmiaa
