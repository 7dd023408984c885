/- Walks of the two tests for a row. -/
import Derived.Test.YtnildepdpkbekaaA4
namespace Go.Proofs.Ytnildepdpkbekaa
open Go.RowKit

set_option maxRecDepth 100000 in
set_option maxHeartbeats 1000000 in
theorem l1Row_any (s : ByteArray) (hs : s.size ≤ maxLen) (w : World) :
    Calls Try.prog 39 #[.string s] w fun e w' => e = .returned (.bool (goodB s)) ∧ Below w.heap.size w w' := by
  unfold maxLen at hs
  by_cases hsz : 3 ≤ s.size ∧ s.size ≤ 8
  · obtain ⟨h3, h8⟩ := hsz
    have h3' : (3 : Int) ≤ s.size := by omega
    have h8' : (s.size : Int) ≤ 8 := by omega
    have hat := dg_at s
    generalize hd : dg s = f at *
    have HD := Lib.hid hd
    clear hd
    go_enter Try.func39, Try.ntmps39
    go_wp2_with (first | (go_at_call 61; refine (l1In_any _ _ _ _).mono ?_; rintro e w' ⟨rfl, rfl⟩))
    go_loopg [2, 3, 4] s.size (fun g r i _ wr => ∃ k : Nat, k ≤ s.size ∧ g + k = s.size ∧ i = .int .i64 k ∧ r = .bool false ∧ OkTo s.size f k ∧ Below w.heap.size w wr)
    case atStart => exact ⟨0, Nat.zero_le _, rfl, rfl, rfl, fun k hk => absurd hk (Nat.not_lt_zero _), Below.refl _ _⟩
    case round =>
      obtain ⟨k, hk, hg, rfl, rfl, hok, hb⟩ := hrel
      have HG := Lib.hid hg
      clear hg
      have HOK := Lib.hid hok
      clear hok
      have hbyte : (f k : Int) < 256 := by have := dg_lt s k; rw [HD.out] at this; omega
      have hbad : ∀ i, i < s.size → ¬ (49 ≤ f i ∧ f i ≤ 48 + s.size ∧ ∀ j, j < i → f j ≠ f i) → goodB s = false := fun i hi hn =>
        goodB_no (fun h => hn (by have := h.ok i hi; rw [HD.out] at this; exact this))
      have HB := Lib.hid hbad
      clear hbad
      by_cases hlt : k < s.size
      · by_cases hlo : f k < 49
        · go_wp2
          go_ret
          exact ⟨by rw [HB.out k hlt (by omega)]; rfl, hb⟩
        · have hlo' : (49 : Int) ≤ f k := by omega
          by_cases hhi : 48 + s.size < f k
          · have hhi' : (s.size : Int) < (f k : Int) - 48 := by omega
            go_wp2
            go_ret
            exact ⟨by rw [HB.out k hlt (by omega)]; rfl, hb⟩
          · have hhi' : (f k : Int) - 48 ≤ (s.size : Int) := by omega
            go_wp2
            go_loopg [2, 4] k (fun g r i wr => ∃ j : Nat, j ≤ k ∧ g + j = k ∧ i = .int .i64 j ∧ r = .bool false ∧ (∀ m, m < j → f m ≠ f k) ∧ Below w.heap.size w wr)
            case atStart => exact ⟨0, Nat.zero_le _, rfl, rfl, rfl, fun k hk => absurd hk (Nat.not_lt_zero _), hb⟩
            case round =>
              clear hb
              obtain ⟨j, hj, hg, rfl, rfl, hne, hb⟩ := hrel
              have HG2 := Lib.hid hg
              clear hg
              have HNE := Lib.hid hne
              clear hne
              by_cases hjk : j < k
              · have hjs : j < s.size := by omega
                by_cases heq : f j = f k
                · have HEQ := Lib.hid heq
                  have he : ((f j : Int) == (f k : Int)) = true := by simp [heq]
                  clear heq
                  go_wp2
                  go_quiet (fail)
                  go_wp2
                  go_ret
                  exact ⟨by rw [HB.out k hlt (fun h => h.2.2 j hjk HEQ.out)]; rfl, by first | exact below_drewN hb _ | exact hb⟩
                · have HEQ := Lib.hid heq
                  have he : ((f j : Int) == (f k : Int)) = false := by simp; omega
                  clear heq
                  go_wp2
                  go_quiet (fail)
                  go_wp2
                  go_roundg (gk - 1)
                  case measure => have := HG2.out; omega
                  case rel => exact ⟨j + 1, by omega, by have := HG2.out; omega, by go_num, rfl, fun m hm => by (by_cases e : m = j; · subst e; exact HEQ.out); exact HNE.out m (by omega), by first | exact below_drewN hb _ | exact hb⟩
              · obtain rfl : j = k := by omega
                go_wp2
                go_roundg (s.size - (j + 1))
                case measure => have := HG.out; omega
                case rel => exact ⟨j + 1, by omega, by have := HG.out; omega, by go_num, rfl, okTo_succ HOK.out (by omega) (by omega) HNE.out, hb⟩
      · obtain rfl : k = s.size := by omega
        have hgood := Lib.hid (goodB_yes (s := s) (by rw [HD.out]; exact ⟨h3, h8, HOK.out, fun i hi => by rw [← HD.out]; simp [dg]; omega⟩))
        go_wp2
        go_ret
        exact ⟨by rw [hgood.out]; rfl, hb⟩
  · have hd : (decide (3 ≤ (s.size : Int)) && decide ((s.size : Int) ≤ 8)) = false := by simp; omega
    have hgood := Lib.hid (goodB_no (s := s) (fun h => hsz ⟨h.three, h.eight⟩))
    clear hsz
    go_enter Try.func39, Try.ntmps39
    go_wp2_with (first | (go_at_call 61; refine (l1In_any _ _ _ _).mono ?_; rintro e w' ⟨rfl, rfl⟩))
    go_ret
    exact ⟨by rw [hgood.out]; rfl, Below.refl _ _⟩
end Go.Proofs.Ytnildepdpkbekaa
