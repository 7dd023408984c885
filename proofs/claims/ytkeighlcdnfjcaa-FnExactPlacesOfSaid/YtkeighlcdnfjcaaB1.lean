/- The model's test for a change, and its question whether a place is made. -/
import Derived.Test.YtkeighlcdnfjcaaA9
import Derived.Test.YtkeighlcdnfjcaaQ2
namespace Go.Proofs.Ytkeighlcdnfjcaa
open Go.RowKit

set_option maxRecDepth 100000 in
set_option maxHeartbeats 1000000 in
theorem l2Stays_any (s : ByteArray) (hs : s.size ≤ maxLen) (p : Nat) (w : World) :
    Calls Try.prog 80 #[.string s, .int .i64 p] w fun e w' => e = .returned (.bool ((lets s).contains (48 + p))) ∧ w = w' := by
  unfold maxLen at hs
  have hat := dg_at s
  have hdr := lets_drop s
  generalize hd : dg s = f at *
  have hlt256 : ∀ k, f k < 256 := fun k => by rw [← hd]; exact dg_lt s k
  clear hd
  generalize hL : (lets s).contains (48 + p) = res
  have HDR := Lib.hid hdr
  have HL := Lib.hid hL
  have HALL := Lib.hid (lets_all s)
  clear hdr hL
  go_enter Try.func80, Try.ntmps80
  go_wp2
  go_loopg [5] s.size (fun g i wr => ∃ k : Nat, k ≤ s.size ∧ g + k = s.size ∧ i = .int .i64 k ∧ ((lets s).drop k).contains (48 + p) = res ∧ w = wr)
  case atStart => exact ⟨0, Nat.zero_le _, rfl, rfl, by simpa using HL.out, rfl⟩
  case round =>
    clear HL
    obtain ⟨k, hk, hg, rfl, hc, rfl⟩ := hrel
    have HG := Lib.hid hg
    have HC := Lib.hid hc
    clear hg hc
    by_cases hlt : k < s.size
    · have hb := hlt256 k
      have hb' : (f k : Int) < 256 := by omega
      by_cases he : f k = 48 + p
      · have he' : ((f k : Int) - 48 == (p : Int)) = true := by simp; omega
        have hr : res = true := by rw [← HC.out, HDR.out k hlt, he]; simp
        clear he
        go_wp2
        go_ret
        exact ⟨by rw [hr]; rfl, rfl⟩
      · have he' : ((f k : Int) - 48 == (p : Int)) = false := by simp; omega
        have hr : ((lets s).drop (k + 1)).contains (48 + p) = res := by
          have := HC.out
          rw [HDR.out k hlt, List.contains_cons] at this
          rw [← this]
          have : (48 + p == f k) = false := by simp; omega
          rw [this, Bool.false_or]
        have HR := Lib.hid hr
        clear he hr
        go_wp2
        go_roundg (s.size - (k + 1))
        case measure => have := HG.out; omega
        case rel => exact ⟨k + 1, by omega, by have := HG.out; omega, by go_num, HR.out, rfl⟩
    · obtain rfl : k = s.size := by omega
      have hr : res = false := by rw [← HC.out, HALL.out]; rfl
      go_wp2
      go_ret
      exact ⟨by rw [hr]; rfl, rfl⟩

/-- whether the text is a change of stage n -/
def goodC (n : Int) (s : ByteArray) : Bool := decide (0 ≤ n) && goodL n.toNat (lets s)

theorem goodC_in (m : Nat) (s : ByteArray) : goodC m s = goodL m (lets s) := by simp [goodC]
theorem goodC_out (n : Int) (s : ByteArray) (h : ¬ (3 ≤ n ∧ n ≤ 8)) : goodC n s = false := by
  simp only [goodC, goodL, Bool.and_eq_false_iff, decide_eq_false_iff_not]
  omega
set_option maxRecDepth 100000 in
set_option maxHeartbeats 1000000 in
theorem l2Change_any (n : Int) (s : ByteArray) (hs : s.size ≤ maxLen) (w : World) :
    Calls Try.prog 51 #[.int .i64 n, .string s] w fun e w' => e = .returned (.bool (goodC n s)) ∧ w = w' := by
  unfold maxLen at hs
  by_cases hn : 3 ≤ n ∧ n ≤ 8
  · obtain ⟨m, rfl⟩ : ∃ m : Nat, n = m := ⟨n.toNat, by omega⟩
    have h3 : 3 ≤ m := by omega
    have h8 : m ≤ 8 := by omega
    rw [goodC_in]
    have h3' : (3 : Int) ≤ m := by omega
    have h8' : (m : Int) ≤ 8 := by omega
    have h12 : 1 ≤ m - 2 := by omega
    have hE := empty_lets s
    have hM := dash_lets s
    have hlen := lets_len s
    generalize hg : goodL m (lets s) = res
    by_cases he : lets s = []
    · have hr : res = false := by rw [← hg]; simp [goodL, he]
      rw [he] at hE
      clear hg he hM
      go_enter Try.func51, Try.ntmps51
      go_wp2_with (first | (go_at_call 65; refine (l1In_any _ _ _ _).mono ?_; rintro e w' ⟨rfl, rfl⟩))
      go_ret
      exact ⟨by rw [hr]; rfl, rfl⟩
    · have hE' : s.toList.isEmpty = false := by rw [hE, decide_eq_false he]
      clear hE
      by_cases hl : s.size ≤ m - 2
      · have hl' : ¬ ((m : Int) - 2 < s.size) := by omega
        by_cases hd : lets s = [45]
        · have hM' : (s.toList == [45]) = true := by rw [hM, decide_eq_true hd]
          have hr : res = ((m : Int) % 2 == 0) := by
            rw [← hg]
            simp only [goodL, h3, h8, hd, List.length_singleton, h12, decide_true, ne_eq, reduceCtorEq, not_false_eq_true, Bool.true_and, if_true]
            by_cases e : m % 2 = 0
            · have : (m : Int) % 2 = 0 := by omega
              rw [e, this]; rfl
            · have : (m : Int) % 2 ≠ 0 := by omega
              rw [beq_eq_false_iff_ne.2 e, beq_eq_false_iff_ne.2 this]
          clear hg he hM hd
          go_enter Try.func51, Try.ntmps51
          go_wp2_with (first | (go_at_call 65; refine (l1In_any _ _ _ _).mono ?_; rintro e w' ⟨rfl, rfl⟩))
          go_ret
          exact ⟨by rw [hr]; rfl, rfl⟩
        · have hM' : (s.toList == [45]) = false := by rw [hM, decide_eq_false hd]
          have hr : scanB m 0 (lets s) = res := by
            rw [← hg]
            simp [goodL, hlen, h3, h8, hl, hd, he]
          clear hg hM hd he
          have hat := dg_at s
          have hdr := lets_drop s
          have hlt256 := dg_lt s
          have hall := lets_all s
          generalize lets s = L at *
          generalize dg s = f at *
          have HDR := Lib.hid hdr
          have HR := Lib.hid hr
          have HALL := Lib.hid hall
          have HSZ := Lib.hid hlen
          have H256 := Lib.hid hlt256
          clear hdr hr hall hlen hlt256
          go_enter Try.func51, Try.ntmps51
          go_wp2_with (first | (go_at_call 65; refine (l1In_any _ _ _ _).mono ?_; rintro e w' ⟨rfl, rfl⟩))
          go_loopg [5, 6, 7] s.size (fun g p i _ wr => ∃ k last : Nat, k ≤ s.size ∧ g + k = s.size ∧ i = .int .i64 k ∧ p = .int .i64 last ∧ last ≤ m ∧ scanB m last (L.drop k) = res ∧ w = wr)
          case atStart => exact ⟨0, 0, Nat.zero_le _, rfl, rfl, rfl, by omega, by simpa using HR.out, rfl⟩
          case round =>
            clear HR
            obtain ⟨k, last, hk, hg, rfl, rfl, hlm, hc, rfl⟩ := hrel
            have HG := Lib.hid hg
            have HC := Lib.hid hc
            clear hg hc
            by_cases hlt : k < s.size
            · have hb := H256.out k
              have hb' : (f k : Int) < 256 := by omega
              have hc := HC.out
              rw [HDR.out k hlt, scanB] at hc
              by_cases h1 : 48 + last + 1 ≤ f k ∧ f k ≤ 48 + m
              · have a1 : (last : Int) + 1 ≤ (f k : Int) - 48 := by omega
                have a2 : (f k : Int) - 48 ≤ m := by omega
                obtain ⟨p, hp⟩ : ∃ p : Nat, f k = 48 + p := ⟨f k - 48, by omega⟩
                have ep : (f k : Int) - 48 = p := by omega
                by_cases h2 : (f k - 48 - last) % 2 = 1
                · have hm2 : (((p : Int) - last) % 2 == 0) = false := by simp; omega
                  have hnx : scanB m p (L.drop (k + 1)) = res := by
                    have e1 : 48 + last + 1 ≤ 48 + p ∧ 48 + p ≤ 48 + m := by rw [← hp]; exact h1
                    rw [← hc, h2, hp, Nat.add_sub_cancel_left, decide_eq_true e1.1, decide_eq_true e1.2]
                    rfl
                  have HN := Lib.hid hnx
                  clear hnx hc h1 h2 hp
                  go_wp2_with (first | (go_at_call 65; refine (l1In_any _ _ _ _).mono ?_; rintro e w' ⟨rfl, rfl⟩))
                  go_roundg (s.size - (k + 1))
                  case measure => have := HG.out; omega
                  case rel => exact ⟨k + 1, p, by omega, by have := HG.out; omega, by go_num, rfl, by omega, HN.out, rfl⟩
                · have hm2 : (((p : Int) - last) % 2 == 0) = true := by simp; omega
                  have hr : res = false := by rw [← hc]; simp [h2]
                  clear hc h1 h2 hp
                  go_wp2_with (first | (go_at_call 65; refine (l1In_any _ _ _ _).mono ?_; rintro e w' ⟨rfl, rfl⟩))
                  go_ret
                  exact ⟨by rw [hr]; rfl, rfl⟩
              · have hr : res = false := by
                  rw [← hc]
                  by_cases e1 : 48 + last + 1 ≤ f k
                  · have e2 : ¬ f k ≤ 48 + m := fun e => h1 ⟨e1, e⟩
                    simp [e2]
                  · simp [e1]
                have hin : (decide ((last : Int) + 1 ≤ (f k : Int) - 48) && decide ((f k : Int) - 48 ≤ m)) = false := by simp; omega
                clear hc h1
                go_wp2_with (first | (go_at_call 65; refine (l1In_any _ _ _ _).mono ?_; rintro e w' ⟨rfl, rfl⟩))
                go_ret
                exact ⟨by rw [hr]; rfl, rfl⟩
            · obtain rfl : k = s.size := by omega
              have hr : res = (((m : Int) - last) % 2 == 0) := by
                rw [← HC.out, HALL.out, scanB]
                by_cases e : (m - last) % 2 = 0
                · have : ((m : Int) - last) % 2 = 0 := by omega
                  rw [e, this]; rfl
                · have : ((m : Int) - last) % 2 ≠ 0 := by omega
                  rw [beq_eq_false_iff_ne.2 e, beq_eq_false_iff_ne.2 this]
              go_wp2
              go_ret
              exact ⟨by rw [hr]; rfl, rfl⟩
      · have hl' : (m : Int) - 2 < s.size := by omega
        have hr : res = false := by rw [← hg]; simp [goodL, hlen, hl]
        clear hg he hM
        go_enter Try.func51, Try.ntmps51
        go_wp2_with (first | (go_at_call 65; refine (l1In_any _ _ _ _).mono ?_; rintro e w' ⟨rfl, rfl⟩))
        go_ret
        exact ⟨by rw [hr]; rfl, rfl⟩
  · rw [goodC_out n s hn]
    have hin : (decide (3 ≤ n) && decide (n ≤ 8)) = false := by simp; omega
    go_enter Try.func51, Try.ntmps51
    go_wp2_with (first | (go_at_call 65; refine (l1In_any _ _ _ _).mono ?_; rintro e w' ⟨rfl, rfl⟩))
    go_ret
    exact ⟨rfl, rfl⟩
end Go.Proofs.Ytkeighlcdnfjcaa
