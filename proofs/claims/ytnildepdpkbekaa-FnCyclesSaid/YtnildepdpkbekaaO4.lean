/- sameInts and sameLists. -/
import Derived.Test.YtnildepdpkbekaaO3
namespace Go.Proofs.Ytnildepdpkbekaa
open Go.RowKit
set_option linter.unusedSimpArgs false

set_option maxRecDepth 100000 in
set_option maxHeartbeats 1000000 in
theorem sameInts_same (v v' : Value) (xs : List Int) (w : World) (h : Own w 3 v (ints xs)) (h' : Own w 3 v' (ints xs)) (hb : xs.length ≤ 1000000) :
    Calls Try.prog 51 #[v, v'] w fun e w' => e = .returned (.bool true) ∧ ∃ m, w' = w.drewN m := by
  obtain ⟨n, hn⟩ : ∃ n, xs.length = n := ⟨_, rfl⟩
  obtain ⟨a, cap, rfl, ha⟩ := h.viewI hn
  obtain ⟨a', cap', rfl, ha'⟩ := h'.viewI hn
  rw [hn] at hb
  have HO := Lib.hid h
  have HO' := Lib.hid h'
  have HA := Lib.hid ha
  have HA' := Lib.hid ha'
  clear h h' ha ha'
  have HN := Lib.hid hn
  clear hn
  go_enter Try.func51, Try.ntmps51
  go_wp2
  go_loopg [5, 13] n (fun q _ i wr => ∃ k : Nat, k ≤ n ∧ q + k = n ∧ i = .int .i64 k ∧ ∃ d, wr = w.drewN d)
  case atStart => exact ⟨0, Nat.zero_le _, rfl, rfl, 0, rfl⟩
  case round =>
    obtain ⟨k, hk, hq, rfl, d, rfl⟩ := hrel
    have HQ := Lib.hid hq
    clear hq
    by_cases hlt : k < n
    · obtain ⟨g, rfl⟩ := HA.out (by omega)
      obtain ⟨g', rfl⟩ := HA'.out (by omega)
      have c1 := HO.out.cell k _ (ints_at xs k (by rw [HN.out]; exact hlt))
      have c2 := HO'.out.cell k _ (ints_at xs k (by rw [HN.out]; exact hlt))
      have hki : (k : Int) < n := by omega
      generalize xs[k]'(by rw [HN.out]; exact hlt) = x at c1 c2
      go_wp2
      go_quiet (fail)
      go_wp2
      go_roundg (n - (k + 1))
      case measure => have := HQ.out; omega
      case rel => exact ⟨k + 1, by omega, by have := HQ.out; omega, by go_num, _, rfl⟩
    · obtain rfl : k = n := by omega
      go_wp2
      go_ret
      exact ⟨rfl, d, rfl⟩

set_option maxRecDepth 100000 in
set_option maxHeartbeats 1000000 in
theorem sameLists_same (B B' : Nat) (v v' : Value) (vs vs' : List Value) (n : Nat) (F : Nat → List Int) (w : World) (h : Lists B w v vs n F) (h' : Lists B' w v' vs' n F) (hb : n ≤ 1000000) (hbi : ∀ i, i < n → (F i).length ≤ 1000000) :
    Calls Try.prog 16 #[v, v'] w fun e w' => e = .returned (.bool true) ∧ ∃ m, w' = w.drewN m := by
  obtain ⟨a, cap, rfl, ha⟩ := h.view
  obtain ⟨a', cap', rfl, ha'⟩ := h'.view
  have HL := Lib.hid h
  have HL' := Lib.hid h'
  have HA := Lib.hid ha
  have HA' := Lib.hid ha'
  have HBI := Lib.hid hbi
  clear h h' ha ha' hbi
  go_enter Try.func16, Try.ntmps16
  go_wp2
  go_loopg [5, 13] n (fun q _ i wr => ∃ k : Nat, k ≤ n ∧ q + k = n ∧ i = .int .i64 k ∧ ∃ d, wr = w.drewN d)
  case atStart => exact ⟨0, Nat.zero_le _, rfl, rfl, 0, rfl⟩
  case round =>
    obtain ⟨k, hk, hq, rfl, hd⟩ := hrel
    have HD := Lib.hid hd
    have HQ := Lib.hid hq
    have L1 : Hid (Lists B wr (.slice a n cap) vs n F) := by obtain ⟨d, rfl⟩ := hd; exact HL.out.kept (below_drewN (Below.refl _ _) _)
    have L2 : Hid (Lists B' wr (.slice a' n cap') vs' n F) := by obtain ⟨d, rfl⟩ := hd; exact HL'.out.kept (below_drewN (Below.refl _ _) _)
    clear hq hd
    by_cases hlt : k < n
    · obtain ⟨g, rfl⟩ := HA.out (by omega)
      obtain ⟨g', rfl⟩ := HA'.out (by omega)
      have c1 := L1.out.outer.cell k _ (L1.out.at k hlt)
      have c2 := L2.out.outer.cell k _ (L2.out.at k hlt)
      have I1 := Lib.hid (L1.out.inner k hlt)
      have I2 := Lib.hid (L2.out.inner k hlt)
      have hki : (k : Int) < n := by omega
      obtain ⟨a1, cap1, e1, _⟩ := I1.out.viewI rfl
      obtain ⟨a2, cap2, e2, _⟩ := I2.out.viewI rfl
      rw [e1] at c1
      rw [e2] at c2
      have I1' : Hid (Own wr 3 (.slice a1 (F k).length cap1) (ints (F k))) := by rw [← e1]; exact I1
      have I2' : Hid (Own wr 3 (.slice a2 (F k).length cap2) (ints (F k))) := by rw [← e2]; exact I2
      clear e1 e2 I1 I2 L1 L2
      have hbk := HBI.out k hlt
      generalize hxk : F k = xk at c1 c2 I1' I2' hbk
      generalize hlk : xk.length = lk at c1 c2 I1' I2' hbk
      have HLK := Lib.hid hlk
      clear hlk hxk
      go_wp2
      go_quiet ((go_at_call 51; exact Calls.quiet_of (sameInts_same _ _ xk _ I1'.out I2'.out (by rw [HLK.out]; exact hbk))))
      go_wp2
      go_roundg (n - (k + 1))
      case measure => have := HQ.out; omega
      case rel => exact ⟨k + 1, by omega, by have := HQ.out; omega, by go_num, (by obtain ⟨d, hd⟩ := HD.out; exact ⟨_, by rw [hd, World.drewN_drewN]⟩)⟩
    · obtain rfl : k = n := by omega
      go_wp2
      go_ret
      exact ⟨rfl, HD.out⟩

end Go.Proofs.Ytnildepdpkbekaa
