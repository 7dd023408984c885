/- Places and swaps: lists of numbers, in the model and in the program. -/
import Derived.Test.YtkeighlcdnfjcaaB7
import Derived.Test.YtkeighlcdnfjcaaO5
namespace Go.Proofs.Ytkeighlcdnfjcaa
open Go.RowKit

/-- numbers as elements -/
def nums (xs : List Nat) : List Value := ints (xs.map fun (k : Nat) => (k : Int))
theorem nums_len (xs : List Nat) : (nums xs).length = xs.length := by simp [nums, ints]
theorem nums_snoc (xs : List Nat) (p : Nat) : nums xs ++ [.int .i64 p] = nums (xs ++ [p]) := by simp [nums, ints]

set_option maxRecDepth 100000 in
set_option maxHeartbeats 1000000 in
theorem l2Places_any (n : Nat) (s : ByteArray) (hs : s.size ≤ maxLen) (h8 : n ≤ 8) (res : List Nat) (hres : placesOf n (lets s) = res) (hlen : res.length ≤ 8) (w : World) :
    Calls Try.prog 58 #[.int .i64 n, .string s] w fun e w' => ∃ v, e = .returned v ∧ New w.heap.size w' 3 v (nums res) ∧ Below w.heap.size w w' := by
  have h8' : (n : Int) ≤ 8 := by omega
  obtain ⟨i0, hi0, hz0, hz1, hz2⟩ := info_parts infoInt
  have I0 := Lib.hid (⟨hi0, hz0, hz1, hz2⟩ : _ ∧ _ ∧ _ ∧ _)
  have HS := Lib.hid hs
  have HRES := Lib.hid hres
  have HLEN := Lib.hid hlen
  clear hs hres hi0 hz0 hz1 hz2 hlen
  go_enter Try.func58, Try.ntmps58
  go_wp2
  go_loopg [5, 6] n (fun q v i wr => ∃ (p : Nat) (acc : List Nat), 1 ≤ p ∧ p ≤ n + 1 ∧ n + 1 ≤ q + p ∧ i = .int .i64 p ∧ acc ++ mP n (lets s) q p = res ∧ New w.heap.size wr 3 v (nums acc) ∧ Below w.heap.size w wr)
  case atStart => exact ⟨1, [], Nat.le_refl _, by omega, by omega, rfl, HRES.out, New.nil _ _ _, Below.refl _ _⟩
  case round =>
    clear HRES
    obtain ⟨p, acc, hp1, hpn, hq, rfl, hacc, hnew, hbel⟩ := hrel
    have HA := Lib.hid hacc
    have HN := Lib.hid hnew
    have HB := Lib.hid hbel
    clear hacc hnew hbel
    by_cases hlt : p ≤ n
    · obtain ⟨q, rfl⟩ : ∃ q, gk = q + 1 := ⟨gk - 1, by omega⟩
      have hpi : (p : Int) ≤ n := by omega
      have hm := HA.out
      unfold mP at hm
      rw [if_pos hlt] at hm
      cases hst : (lets s).contains (48 + p)
      · rw [hst] at hm
        have HM2 := Lib.hid hm
        have HST := Lib.hid hst
        clear hm HA hst
        go_wp2_with fail
        refine (l2Stays_any s HS.out p _).mono ?_
        rintro e w' ⟨rfl, rfl⟩
        rw [HST.out]
        go_wp2
        go_roundg q
        case measure => omega
        case rel => exact ⟨p + 1, acc, by omega, by omega, by omega, by go_num, HM2.out, HN.out, HB.out⟩
      · rw [hst] at hm
        have HM2 := Lib.hid hm
        have HST := Lib.hid hst
        clear hm HA hst
        go_wp2_with fail
        refine (l2Stays_any s HS.out p _).mono ?_
        rintro e w' ⟨rfl, rfl⟩
        rw [HST.out]
        go_wp2_with (at_builtin; refine wpList_app1 rfl (.tmp 15) (.tmp 17) 28 rfl 3 i0 (.int .i64 0) 8 Try.underlying28 I0.out.1 I0.out.2.1 I0.out.2.2.1 I0.out.2.2.2 rfl w.heap.size w _ (nums acc) rfl HN.out rfl rfl HB.out.size HB.out ?c1 ?c2 ?_)
        case c1 => rw [nums_len]; have := HLEN.out; have := congrArg List.length HM2.out; simp at this; omega
        case c2 => omega
        intro v' w' hnew' _ hbel' _
        rw [nums_snoc] at hnew'
        have HN' := Lib.hid hnew'
        have HB' := Lib.hid hbel'
        clear hnew' hbel'
        go_wp2
        go_roundg q
        case measure => omega
        case rel => exact ⟨p + 1, acc ++ [p], by omega, by omega, by omega, by go_num, by have := HM2.out; simpa using this, HN'.out, HB'.out⟩
    · have hpi : ¬ (p : Int) ≤ n := by omega
      have hm := HA.out
      rw [mP_end n _ _ _ hlt, List.append_nil] at hm
      subst hm
      go_wp2
      go_ret
      exact ⟨_, rfl, HN.out, HB.out⟩

set_option maxRecDepth 100000 in
set_option maxHeartbeats 1000000 in
theorem l2Swaps_any (n : Nat) (s : ByteArray) (hs : s.size ≤ maxLen) (h8 : n ≤ 8) (res : List Nat) (hres : swapsOf n (lets s) = res) (hlen : res.length ≤ 8) (w : World) :
    Calls Try.prog 70 #[.int .i64 n, .string s] w fun e w' => ∃ v, e = .returned v ∧ New w.heap.size w' 3 v (nums res) ∧ Below w.heap.size w w' := by
  have h8' : (n : Int) ≤ 8 := by omega
  obtain ⟨i0, hi0, hz0, hz1, hz2⟩ := info_parts infoInt
  have I0 := Lib.hid (⟨hi0, hz0, hz1, hz2⟩ : _ ∧ _ ∧ _ ∧ _)
  have HS := Lib.hid hs
  have HRES := Lib.hid hres
  have HLEN := Lib.hid hlen
  clear hs hres hi0 hz0 hz1 hz2 hlen
  go_enter Try.func70, Try.ntmps70
  go_wp2
  go_loopg [5, 6] n (fun q v i wr => ∃ (p : Nat) (acc : List Nat), 1 ≤ p ∧ p ≤ n + 2 ∧ n ≤ q + p ∧ i = .int .i64 p ∧ acc ++ mS n (lets s) q p = res ∧ New w.heap.size wr 3 v (nums acc) ∧ Below w.heap.size w wr)
  case atStart => exact ⟨1, [], Nat.le_refl _, by omega, by omega, rfl, HRES.out, New.nil _ _ _, Below.refl _ _⟩
  case round =>
    clear HRES
    obtain ⟨p, acc, hp1, hpn, hq, rfl, hacc, hnew, hbel⟩ := hrel
    have HA := Lib.hid hacc
    have HN := Lib.hid hnew
    have HB := Lib.hid hbel
    clear hacc hnew hbel
    by_cases hlt : p < n
    · obtain ⟨q, rfl⟩ : ∃ q, gk = q + 1 := ⟨gk - 1, by omega⟩
      have hpi : (p : Int) < n := by omega
      have hm := HA.out
      unfold mS at hm
      rw [if_pos hlt] at hm
      cases hst : (lets s).contains (48 + p)
      · rw [hst] at hm
        have HM2 := Lib.hid hm
        have HST := Lib.hid hst
        clear hm HA hst
        go_wp2_with fail
        refine (l2Stays_any s HS.out p _).mono ?_
        rintro e w' ⟨rfl, rfl⟩
        rw [HST.out]
        go_wp2_with (at_builtin; refine wpList_app1 rfl (.tmp 16) (.tmp 18) 28 rfl 3 i0 (.int .i64 0) 8 Try.underlying28 I0.out.1 I0.out.2.1 I0.out.2.2.1 I0.out.2.2.2 rfl w.heap.size w _ (nums acc) rfl HN.out rfl rfl HB.out.size HB.out ?c1 ?c2 ?_)
        case c1 => rw [nums_len]; have := HLEN.out; have := congrArg List.length HM2.out; simp at this; omega
        case c2 => omega
        intro v' w' hnew' _ hbel' _
        rw [nums_snoc] at hnew'
        have HN' := Lib.hid hnew'
        have HB' := Lib.hid hbel'
        clear hnew' hbel'
        go_wp2
        go_roundg q
        case measure => omega
        case rel => exact ⟨p + 2, acc ++ [p], by omega, by omega, by omega, by go_num, by have := HM2.out; simpa using this, HN'.out, HB'.out⟩
      · rw [hst] at hm
        have HM2 := Lib.hid hm
        have HST := Lib.hid hst
        clear hm HA hst
        go_wp2_with fail
        refine (l2Stays_any s HS.out p _).mono ?_
        rintro e w' ⟨rfl, rfl⟩
        rw [HST.out]
        go_wp2
        go_roundg q
        case measure => omega
        case rel => exact ⟨p + 1, acc, by omega, by omega, by omega, by go_num, HM2.out, HN.out, HB.out⟩
    · have hpi : ¬ (p : Int) < n := by omega
      have hm := HA.out
      rw [mS_end n _ _ _ hlt, List.append_nil] at hm
      subst hm
      go_wp2
      go_ret
      exact ⟨_, rfl, HN.out, HB.out⟩
end Go.Proofs.Ytkeighlcdnfjcaa
