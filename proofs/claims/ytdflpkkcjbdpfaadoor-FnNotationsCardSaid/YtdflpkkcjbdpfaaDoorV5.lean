/- ReadNotation and CountChanges: every stage and text; the laws on them. -/
import Derived.Test.YtdflpkkcjbdpfaaDoorV4
namespace Go.Proofs.YtdflpkkcjbdpfaaDoor
open Go.RowKit
set_option linter.unusedSimpArgs false

set_option maxRecDepth 100000 in
set_option maxHeartbeats 1000000 in
theorem sReadNotation_any (n : Int) (s : ByteArray) (w : World) (hsz : s.size ≤ maxLen) :
    Calls Tryd.prog 27 #[.int .i64 n, .string s] w (ReadRes (readP n s) w) := by
  unfold maxLen at hsz
  by_cases hn : 3 ≤ n ∧ n ≤ 8
  · obtain ⟨k, rfl⟩ : ∃ k : Nat, n = k := ⟨n.toNat, by omega⟩
    have hin : (decide ((3 : Int) ≤ k) && decide ((k : Int) ≤ 8)) = true := by simp; omega
    have HIN := Lib.hid hin
    have hemp : s.toList.isEmpty = decide (s.size = 0) := by
      rw [empty_lets]
      have := lets_len s
      rw [Bool.eq_iff_iff, decide_eq_true_eq, decide_eq_true_eq, ← this]
      exact List.length_eq_zero_iff.symm
    by_cases hl : s.size = 0 ∨ 200 < s.size
    · rw [readP_len hn hl]
      by_cases h0 : s.size = 0
      · have h1 : s.toList.isEmpty = true := by rw [hemp, decide_eq_true h0]
        clear hin hemp hl hn h0
        go_enter Tryd.func27, Tryd.ntmps27
        go_wp2_with fail
        refine (l1In_any _ _ _ _).mono ?_
        rintro e w1 ⟨rfl, rfl⟩
        rw [HIN.out]
        go_wp2
        (try simp only [Exit.inBlock, Exit.then]); refine bodyPost_ret (results_tmp4 rfl _ _ _) rfl ?_
        exact ⟨_, rfl, New.nil _ _ _, Below.refl _ _⟩
      · have h1 : s.toList.isEmpty = false := by rw [hemp, decide_eq_false h0]
        have h2 : (200 : Int) < s.size := by omega
        clear hin hemp hl hn h0
        go_enter Tryd.func27, Tryd.ntmps27
        go_wp2_with fail
        refine (l1In_any _ _ _ _).mono ?_
        rintro e w1 ⟨rfl, rfl⟩
        rw [HIN.out]
        go_wp2
        (try simp only [Exit.inBlock, Exit.then]); refine bodyPost_ret (results_tmp4 rfl _ _ _) rfl ?_
        exact ⟨_, rfl, New.nil _ _ _, Below.refl _ _⟩
    · exact sRead_in k (by omega) (by omega) s w (by omega) (by omega)
  · rw [readP_out hn]
    have hin : (decide ((3 : Int) ≤ n) && decide (n ≤ 8)) = false := by simp; omega
    clear hn
    go_enter Tryd.func27, Tryd.ntmps27
    go_wp2_with fail
    refine (l1In_any _ _ _ _).mono ?_
    rintro e w1 ⟨rfl, rfl⟩
    rw [hin]
    go_wp2
    (try simp only [Exit.inBlock, Exit.then]); refine bodyPost_ret (results_tmp4 rfl _ _ _) rfl ?_
    exact ⟨_, rfl, New.nil _ _ _, Below.refl _ _⟩

theorem readP_nil {n : Int} {s : ByteArray} (h : (readP n s).ok = false) : (readP n s).list = [] := by
  by_cases h1 : 3 ≤ n ∧ n ≤ 8
  · by_cases h2 : s.size = 0 ∨ 200 < s.size
    · rw [readP_len h1 h2]
    · cases hb : blocksP n.toNat (lets s) with
      | error q => rw [readP_bad h1 h2 hb]
      | ok bs =>
        cases hj : joinOk bs
        · rw [readP_many h1 h2 hb hj]
        · rw [readP_ok h1 h2 hb hj] at h; cases h
  · rw [readP_out h1]
theorem readP_size (n : Int) (s : ByteArray) : (readP n s).list.length ≤ 40 := by
  by_cases h1 : 3 ≤ n ∧ n ≤ 8
  · by_cases h2 : s.size = 0 ∨ 200 < s.size
    · rw [readP_len h1 h2]; simp
    · cases hb : blocksP n.toNat (lets s) with
      | error q => rw [readP_bad h1 h2 hb]; simp
      | ok bs =>
        cases hj : joinOk bs
        · rw [readP_many h1 h2 hb hj]; simp
        · rw [readP_ok h1 h2 hb hj]
          unfold joinOk at hj
          simp only [Bool.and_eq_true, decide_eq_true_eq] at hj
          exact hj.2
  · rw [readP_out h1]; simp
def CountRes (k : Nat) (b : Bool) (w : World) (e : Ending) (w' : World) : Prop := e = .returned (.tuple #[.int .i64 k, .bool b]) ∧ Below w.heap.size w w'
set_option maxRecDepth 100000 in
set_option maxHeartbeats 1000000 in
theorem iCountChanges_any (n : Int) (s : ByteArray) (w : World) (hsz : s.size ≤ maxLen) :
    Calls Tryd.prog 18 #[.int .i64 n, .string s] w (CountRes (readP n s).list.length (readP n s).ok w) := by
  have hR := iReadNotation_any n s w hsz
  have hl : (readP n s).list.length = (strs (readP n s).list).length := (strs_len _).symm
  rw [hl]
  generalize readP n s = r at *
  clear hl
  go_enter Tryd.func18, Tryd.ntmps18
  go_wp2_with fail
  refine hR.mono ?_
  rintro e w1 ⟨v, rfl, hn, hb⟩
  obtain ⟨a, cap, rfl, _⟩ := hn.own.view
  generalize (strs r.list).length = k at *
  go_wp2
  go_ret2
  exact ⟨rfl, hb⟩
set_option maxRecDepth 100000 in
set_option maxHeartbeats 1000000 in
theorem sCountChanges_any (n : Int) (s : ByteArray) (w : World) (hsz : s.size ≤ maxLen) :
    Calls Tryd.prog 19 #[.int .i64 n, .string s] w (CountRes (readP n s).list.length (readP n s).ok w) := by
  have hR := sReadNotation_any n s w hsz
  have hl : (readP n s).list.length = (strs (readP n s).list).length := (strs_len _).symm
  rw [hl]
  have hnil := readP_nil (n := n) (s := s)
  generalize readP n s = r at *
  obtain ⟨l, c, a0, ok⟩ := r
  clear hl
  cases ok
  · have hnil : l = [] := hnil rfl
    subst hnil
    go_enter Tryd.func19, Tryd.ntmps19
    go_wp2_with fail
    refine hR.mono ?_
    rintro e w1 ⟨v, rfl, hn, hb⟩
    go_wp2
    go_ret2
    exact ⟨rfl, hb⟩
  · clear hnil
    go_enter Tryd.func19, Tryd.ntmps19
    go_wp2_with fail
    refine hR.mono ?_
    rintro e w1 ⟨v, rfl, hn, hb⟩
    obtain ⟨a, cap, rfl, _⟩ := hn.own.view
    generalize (strs l).length = k at *
    go_wp2
    go_ret2
    exact ⟨rfl, hb⟩

end Go.Proofs.YtdflpkkcjbdpfaaDoor
