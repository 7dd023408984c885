/- TurnTouch, ReverseTouch, LeastTurn, in the program and in the model, and their laws. -/
import Derived.Test.YtkhglknpcajmiaaXE
namespace Go.Proofs.Ytkhglknpcajmiaa
open Go.RowKit
set_option linter.unusedSimpArgs false
set_option linter.unusedVariables false

set_option maxRecDepth 100000 in
set_option maxHeartbeats 1000000 in
theorem reversedCalls_any (t : ByteArray) (h1 : 1 ≤ t.size) (ht : t.size ≤ 1000) (w : World) :
    Calls Try.prog 126 #[.string t] w fun e w' => e = .returned (.string (revT t)) ∧ Below w.heap.size w w' := by
  obtain ⟨cap, W1, hcap, hconv, hbytes, hbel⟩ := bytes_made2 t w
  obtain ⟨k, hk⟩ : ∃ k, t.size = k + 1 := ⟨t.size - 1, by omega⟩
  rw [hk] at hcap hconv hbytes ht
  have HY := Lib.hid hbytes
  have HB := Lib.hid hbel
  have HK := Lib.hid hk
  have hki : (k : Int) ≤ 1000 := by omega
  have hk0 : (0 : Int) ≤ k := by omega
  have hkc : (k : Int) ≤ cap := by omega
  have hkcn : k ≤ cap := by omega
  have hwp : IntKind.i64.wrap (k : Int) = (k : Int) := IntWalk.i64_in _ (by omega)
  have HRV := Lib.hid (fun W hW => reverseB_any w.heap.size (k + 1) k cap (dg t) W hW (by omega) (by omega))
  clear hbytes hbel hk h1
  go_enter Try.func126, Try.ntmps126
  go_wp2_with fail
  refine (HRV.out _ HY.out).mono ?_
  rintro e w2 ⟨rfl, ⟨i, hi1, hi2, hB2⟩, hb2⟩
  have HB2 := Lib.hid (HB.out.trans hb2)
  have hconv2 := conv_dig w2 w.heap.size (k + 1) cap _ hB2.cell
  have hres : strOf (k + 1) (revA k i (dg t)) = revT t := by
    unfold revT
    rw [HK.out]
    exact strOf_congr fun j hj => revA_all k i (dg t) hi1 hi2 j hj
  rw [hres] at hconv2
  clear hconv hres hB2 hb2
  go_wp2
  go_ret
  exact ⟨rfl, HB2.out⟩

set_option maxRecDepth 100000 in
set_option maxHeartbeats 1000000 in
theorem l9Reverse_any (t : ByteArray) (h1 : 1 ≤ t.size) (ht : t.size ≤ 1000) (w : World) :
    Calls Try.prog 128 #[.string t] w fun e w' => e = .returned (.string (revT t)) ∧ w' = w := by
  obtain ⟨k, hk⟩ : ∃ k, t.size = k + 1 := ⟨t.size - 1, by omega⟩
  have HK := Lib.hid hk
  have hki : (t.size : Int) ≤ 1000 := by omega
  have HE := Lib.hid (rev_end t k hk)
  have HS := Lib.hid (rev_step t)
  have hk1 : (1 : Int) ≤ t.size := by omega
  have hk2 : (t.size : Int) - 2 = (k : Int) - 1 := by omega
  have hk3 : (t.size : Int) - 1 = (k : Int) := by omega
  have hwp : IntKind.i64.wrap ((t.size : Int) - 2) = (k : Int) - 1 := by rw [hk2]; exact IntWalk.i64_in _ (by omega)
  have hwq : IntKind.i64.wrap ((t.size : Int) - 1) = (k : Int) := by rw [hk3]; exact IntWalk.i64_in _ (by omega)
  clear hk hk2 hk3
  generalize revF t.size (dg t) = f at *
  have h00 : strOf 0 f = ⟨#[]⟩ := rfl
  go_enter Try.func128, Try.ntmps128
  go_wp2
  go_loopg [3, 4] k (fun q o i wr => ∃ j : Nat, q + j = k ∧ o = .string (strOf j f) ∧ i = .int .i64 ((q : Int) - 1) ∧ wr = w)
  case atStart => exact ⟨0, by omega, rfl, by first | rfl | (congr 1; omega), rfl⟩
  case round =>
    obtain ⟨j, hq, rfl, rfl, rfl⟩ := hrel
    have HQ := Lib.hid hq
    clear hq
    by_cases hlt : 0 < gk
    · obtain ⟨p, rfl⟩ : ∃ p, gk = p + 1 := ⟨gk - 1, by omega⟩
      have hst := HS.out j p (by have := HQ.out; have := HK.out; omega)
      have e1 : ((p + 1 : Nat) : Int) - 1 = (p : Int) := by omega
      rw [e1]
      have hp0 : (0 : Int) ≤ p := by omega
      have hp1 : (p : Int) + 1 ≤ t.size := by have := HQ.out; have := HK.out; omega
      have hp2 : (p : Int) ≤ 1000 := by omega
      have hlen := strOf_size j f
      have hmx : ¬ 9223372036854775807 < j + (min (p + 1) t.size - p) := by have := HQ.out; have := HK.out; omega
      clear e1 hlt
      go_wp2
      go_roundg p
      case measure => omega
      case rel => exact ⟨j + 1, by have := HQ.out; omega, by first | rfl | (rw [← hst]) | simp [hst], by go_num, rfl⟩
    · obtain rfl : gk = 0 := by omega
      obtain rfl : j = k := by have := HQ.out; omega
      have hen := HE.out
      have hj0 : (0 : Int) ≤ j := by omega
      have hj1 : (j : Int) ≤ t.size := by have := HK.out; omega
      have hlen := strOf_size j f
      have hmx : ¬ 9223372036854775807 < j + (t.size - j) := by have := HK.out; omega
      have hmx2 : ¬ 9223372036854775807 < j + (min t.size t.size - j) := by have := HK.out; omega
      go_wp2
      go_ret
      exact ⟨by first | rfl | (rw [hen]; rfl), rfl⟩

set_option maxRecDepth 100000 in
set_option maxHeartbeats 1000000 in
theorem leastTurn_any (t : ByteArray) (ht : t.size ≤ 1000) (w : World) :
    Calls Try.prog 125 #[.string t] w fun e w' => e = .returned (.string (leastT t)) ∧ ∃ m, w' = w.drewN m := by
  have hti : (t.size : Int) ≤ 1000 := by omega
  have HT := Lib.hid (fun n hn w => turnedCalls_any t n hn ht w)
  have hmin : ∀ (w : World) (ts : Array TypeId) (ty : TypeId) (x y : ByteArray), (Builtin.min_ ts ty #[.string x, .string y]).run Try.prog w = .ok (.string (minB x y)) w := fun w ts ty x y => by rw [Lib.run_min_strs, minS_eq]
  obtain ⟨m, hm⟩ : ∃ m, t.size = m := ⟨_, rfl⟩
  have HM := Lib.hid hm
  have hres : leastT t = leastTo t m := by unfold leastT; rw [hm]
  rw [hres]
  have HS : Hid (∀ j, leastTo t (j + 1) = minB (leastTo t j) (turnT t j)) := Lib.hid fun j => rfl
  have H0 : Hid (leastTo t 0 = t) := Lib.hid rfl
  generalize leastTo t = lt at *
  clear hres ht hm
  go_enter Try.func125, Try.ntmps125
  go_wp2
  go_loopg [3, 8] m (fun q o i wr => ∃ j : Nat, q + j = m ∧ o = .string (lt j) ∧ i = .int .i64 j ∧ ∃ d, wr = w.drewN d)
  case atStart => exact ⟨0, by omega, by rw [H0.out], rfl, 0, rfl⟩
  case round =>
    obtain ⟨j, hq, rfl, rfl, d, rfl⟩ := hrel
    have HQ := Lib.hid hq
    clear hq
    by_cases hlt : j < m
    · have hji : (j : Int) < t.size := by have := HM.out; omega
      have HT1 := Lib.hid (HT.out j (by have := HM.out; omega))
      have HSJ := Lib.hid (HS.out j)
      generalize turnT t j = x at *
      go_wp2_with (first | (go_at_call 122; refine (HT1.out _).mono ?_; rintro e2 w2 ⟨rfl, d2, rfl⟩) | fail)
      go_roundg (m - (j + 1))
      case measure => have := HQ.out; omega
      case rel => exact ⟨j + 1, by have := HQ.out; omega, by rw [HSJ.out], by go_num, d + d2, by first | rfl | rw [World.drewN_drewN] | simp [World.drewN_add]⟩
    · obtain rfl : j = m := by have := HQ.out; omega
      have hji : ¬ (j : Int) < t.size := by have := HM.out; omega
      go_wp2
      go_ret
      exact ⟨rfl, d, rfl⟩

set_option maxRecDepth 100000 in
set_option maxHeartbeats 1000000 in
theorem l9Least_any (t : ByteArray) (hg : goodT t = true) (w : World) :
    Calls Try.prog 127 #[.string t] w fun e w' => e = .returned (.string (leastT t)) ∧ Below w.heap.size w w' := by
  obtain ⟨h1, h60, hall⟩ := goodT_parts hg
  have hti : (t.size : Int) ≤ 60 := by omega
  have HT := Lib.hid (fun n hn w => l9Turn_any t n hn (by omega) w)
  obtain ⟨m, hm⟩ : ∃ m, t.size = m := ⟨_, rfl⟩
  have HM := Lib.hid hm
  have hres : leastT t = leastTo t m := by unfold leastT; rw [hm]
  rw [hres]
  have HS : Hid (∀ j, leastTo t (j + 1) = if Op.bytesLess (turnT t j).toList (leastTo t j).toList = true then turnT t j else leastTo t j) := Lib.hid fun j => rfl
  have H0 : Hid (leastTo t 0 = t) := Lib.hid rfl
  have HASC : Hid (∀ k (h : k < t.size), (t[k]).toNat < 128) := Lib.hid fun k h => by
    have := hall k h
    rw [dg_at t k h]
    unfold kcB at this
    simp only [Bool.or_eq_true, decide_eq_true_eq] at this
    omega
  generalize leastTo t = lt at *
  clear hres hm hg hall h1
  have hI0 : (w.iter t 0).heap[w.heap.size]? = some (.stringIter t 0) := World.iter_heap w t 0
  have HI0 := Lib.hid hI0
  have HB0 : Hid (Below w.heap.size w (w.iter t 0)) := Lib.hid ((Below.refl _ w).alloc (Nat.le_refl _) _)
  clear hI0
  go_enter Try.func127, Try.ntmps127
  go_wp2
  go_loopg [3] m (fun q o wr => ∃ j : Nat, q + j = m ∧ o = .string (lt j) ∧ wr.heap[w.heap.size]? = some (.stringIter t j) ∧ Below w.heap.size w wr)
  case atStart => exact ⟨0, by omega, by rw [H0.out], HI0.out, HB0.out⟩
  case round =>
    clear HI0 HB0
    obtain ⟨j, hq, rfl, hI, hB⟩ := hrel
    have HQ := Lib.hid hq
    have HI := Lib.hid hI
    have HB := Lib.hid hB
    have hKlt : w.heap.size < wr.heap.size := (Array.getElem?_eq_some_iff.1 hI).1
    clear hq hI hB
    by_cases hlt : j < t.size
    · have hji : (j : Int) < t.size := by omega
      have hnx := fun ty => Lib.run_next_ascii_at (P := Try.prog) wr w.heap.size t j ty HI.out hlt (HASC.out j hlt)
      have hI' := Lib.iterAt_heap wr w.heap.size t j (j + 1) HI.out
      have hB' := Lib.below_iterAt HB.out (k := w.heap.size) (Nat.le_refl _) t (j + 1)
      have HI' := Lib.hid hI'
      have HB' := Lib.hid hB'
      have HT1 := Lib.hid (HT.out j (by omega))
      have HSJ := Lib.hid (HS.out j)
      have HHL := Lib.hid hlt
      clear hI' hB' HI HB
      generalize turnT t j = x at *
      cases hle : Op.bytesLess x.toList (lt j).toList
      · have HSK : Hid (lt (j + 1) = lt j) := Lib.hid (by rw [HSJ.out, hle]; rfl)
        go_wp2_with (first | (go_at_call 123; refine (HT1.out _).mono ?_; rintro e2 w2 ⟨rfl, d2, rfl⟩) | fail)
        go_roundg (m - (j + 1))
        case measure => have := HQ.out; have := HM.out; have := HHL.out; omega
        case rel => exact ⟨j + 1, by have := HQ.out; have := HM.out; have := HHL.out; omega, by rw [HSK.out], HI'.out, below_drewN HB'.out _⟩
      · have HSK : Hid (lt (j + 1) = x) := Lib.hid (by rw [HSJ.out, hle]; rfl)
        go_wp2_with (first | (go_at_call 123; refine (HT1.out _).mono ?_; rintro e2 w2 ⟨rfl, d2, rfl⟩) | fail)
        go_roundg (m - (j + 1))
        case measure => have := HQ.out; have := HM.out; have := HHL.out; omega
        case rel => exact ⟨j + 1, by have := HQ.out; have := HM.out; have := HHL.out; omega, by rw [HSK.out], HI'.out, below_drewN HB'.out _⟩
    · obtain rfl : j = t.size := by have := HQ.out; have := HM.out; omega
      have hnx := fun ty => Lib.run_next_end_at (P := Try.prog) wr w.heap.size t t.size ty HI.out hlt
      have HMM := HM.out
      subst HMM
      have hB' := HB.out
      go_wp2
      go_ret
      exact ⟨rfl, by first | exact HB.out | exact Lib.below_iterAt HB.out (k := w.heap.size) (Nat.le_refl _) _ _⟩
end Go.Proofs.Ytkhglknpcajmiaa
