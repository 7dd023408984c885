/- Products in the model. -/
import Derived.Test.YtnildepdpkbekaaA7
namespace Go.Proofs.Ytnildepdpkbekaa
open Go.RowKit

set_option maxRecDepth 100000 in
set_option maxHeartbeats 1000000 in
theorem l1Times_any (n : Nat) (f g : Nat → Nat) (s t : ByteArray) (hs : IsStr n f s) (ht : IsStr n g t) (hn : n ≤ 8) (hg : ∀ i, i < n → 49 ≤ g i ∧ g i ≤ 48 + n) (w : World) :
    Calls Try.prog 83 #[.string s, .string t] w fun e w' => e = .returned (.string (strOf n (mulF f g))) ∧ w = w' := by
  have hts : t.size = n := ht.1
  have hss : s.size = n := hs.1
  have HS := Lib.hid hs
  have HT := Lib.hid ht
  have HGG := Lib.hid hg
  clear hs ht hg
  go_enter Try.func83, Try.ntmps83
  go_wp2
  go_loopg [5, 6, 7] n (fun q o i _ wr => ∃ k : Nat, k ≤ n ∧ q + k = n ∧ i = .int .i64 ((k : Int) + 1) ∧ o = .string (strOf k (mulF f g)) ∧ w = wr)
  case atStart => exact ⟨0, Nat.zero_le _, rfl, rfl, rfl, rfl⟩
  case round =>
    obtain ⟨k, hk, hq, rfl, rfl, rfl⟩ := hrel
    have HQ := Lib.hid hq
    clear hq
    by_cases hlt : k < n
    · have hki : (k : Int) + 1 ≤ n := by omega
      obtain ⟨c, hc⟩ : ∃ c, g k = 49 + c := ⟨g k - 49, by have := HGG.out k hlt; omega⟩
      have hcn : c < n := by have := HGG.out k hlt; omega
      have HC := Lib.hid hc
      have hx := strOf_snoc k (mulF f g) (s.extract c (c + 1)) (by
        rw [extract_one s c (by omega)]
        have e1 : mulF f g k = f c := by unfold mulF; rw [hc]; congr 1; omega
        have e2 := HS.out.2 c (by omega)
        rw [e1, ← e2]; simp)
      clear hc
      have hcs : (c : Int) + 1 ≤ n := by omega
      have hlen := strOf_size k (mulF f g)
      have hmx : ¬ 9223372036854775807 < k + (min (c + 1) n - c) := by omega
      go_wp2_with fail
      refine (l1At_any n g t HT.out ((k : Int) + 1) (by omega) (by omega) hn (by rw [show ((k : Int) + 1).toNat - 1 = k from by omega]; have := HGG.out k hlt; omega) _).mono ?_
      rintro e w' ⟨rfl, rfl⟩
      rw [show ((k : Int) + 1).toNat - 1 = k from by omega, show ((g k : Int) - 48) = (c : Int) + 1 from by have := HC.out; omega]
      go_wp2
      go_roundg (n - (k + 1))
      case measure => have := HQ.out; omega
      case rel => exact ⟨k + 1, by omega, by have := HQ.out; omega, by go_num, rfl, rfl⟩
    · obtain rfl : k = n := by omega
      go_wp2
      go_ret
      exact ⟨rfl, rfl⟩

set_option maxRecDepth 100000 in
set_option maxHeartbeats 1000000 in
theorem l1Two_any (s t : ByteArray) (hs : s.size ≤ maxLen) (ht : t.size ≤ maxLen) (w : World) :
    Calls Try.prog 43 #[.string s, .string t] w fun e w' => e = .returned (.bool (goodB s && goodB t && decide (s.size = t.size))) ∧ Below w.heap.size w w' := by
  cases h1 : goodB s
  · have H1 := Lib.hid h1
    clear h1
    go_enter Try.func43, Try.ntmps43
    go_wp2_with fail
    refine (l1Row_any s hs _).mono ?_
    rintro e w1 ⟨rfl, hb1⟩
    rw [H1.out]
    go_wp2
    go_ret
    exact ⟨rfl, hb1⟩
  · cases h2 : goodB t
    · have H1 := Lib.hid h1
      clear h1
      have H2 := Lib.hid h2
      clear h2
      go_enter Try.func43, Try.ntmps43
      go_wp2_with fail
      refine (l1Row_any s hs _).mono ?_
      rintro e w1 ⟨rfl, hb1⟩
      rw [H1.out]
      go_wp2_with fail
      refine (l1Row_any t ht _).mono ?_
      rintro e w2 ⟨rfl, hb2⟩
      rw [H2.out]
      go_wp2
      go_ret
      exact ⟨rfl, hb1.trans (hb2.mono hb1.size)⟩
    · have H1 := Lib.hid h1
      clear h1
      have H2 := Lib.hid h2
      clear h2
      unfold maxLen at hs ht
      go_enter Try.func43, Try.ntmps43
      go_wp2_with fail
      refine (l1Row_any s (by unfold maxLen; exact hs) _).mono ?_
      rintro e w1 ⟨rfl, hb1⟩
      rw [H1.out]
      go_wp2_with fail
      refine (l1Row_any t (by unfold maxLen; exact ht) _).mono ?_
      rintro e w2 ⟨rfl, hb2⟩
      rw [H2.out]
      go_wp2
      go_ret
      refine ⟨?_, hb1.trans (hb2.mono hb1.size)⟩
      by_cases h : s.size = t.size
      · simp [h]
      · have h' : ((s.size : Int) == (t.size : Int)) = false := by simp; omega
        simp [h, h']

/-- whether two texts can be multiplied -/
noncomputable def twoB (s t : ByteArray) : Bool := goodB s && goodB t && decide (s.size = t.size)
theorem twoB_yes {s t : ByteArray} (h : twoB s t = true) : IsRow s.size (dg s) ∧ IsRow t.size (dg t) ∧ s.size = t.size := by
  unfold twoB goodB at h
  simp at h
  exact ⟨h.1.1, h.1.2, h.2⟩

end Go.Proofs.Ytnildepdpkbekaa
