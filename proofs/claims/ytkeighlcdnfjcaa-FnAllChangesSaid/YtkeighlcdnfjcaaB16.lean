/- AllChanges in the program. -/
import Derived.Test.YtkeighlcdnfjcaaB15
namespace Go.Proofs.Ytkeighlcdnfjcaa
open Go.RowKit

/-- new texts, and a word -/
def TextsAny (xs : List (List Nat)) (b : Bool) (w : World) (e : Ending) (w' : World) : Prop :=
  ∃ v, e = .returned (.tuple #[v, .bool b]) ∧ New w.heap.size w' 9 v (strs xs) ∧ Below w.heap.size w w'
theorem isEmpty_txt (b : List Nat) : (txt b).toList.isEmpty = decide (b = []) := by
  rw [empty_lets]
  have h1 : (lets (txt b)).length = b.length := by rw [lets_len, txt_size]
  cases b with
  | nil => rfl
  | cons x t =>
    have : lets (txt (x :: t)) ≠ [] := fun h => by rw [h] at h1; simp at h1
    simp [this]

set_option maxRecDepth 100000 in
set_option maxHeartbeats 1000000 in
theorem iAllChanges_yes (n : Nat) (h3 : 3 ≤ n) (h8 : n ≤ 8) (w : World) :
    Calls Try.prog 29 #[.int .i64 n] w (TextsAny (chs n) true w) := by
  have h3' : (3 : Int) ≤ n := by omega
  have h8' : (n : Int) ≤ 8 := by omega
  obtain ⟨hfix, _, hlen, _, hne⟩ := alls n h3 h8
  have HC := Lib.hid (changesAfter_any n h8 9 0 0 [] (by omega) (by omega) rfl (by omega) hlen 1 rfl)
  rw [show txt [] = (⟨#[]⟩ : ByteArray) from rfl, show (aft n 9 0 0).map (([] : List Nat) ++ ·) = aft n 9 0 0 by simp] at HC
  rw [← hfix]
  generalize aft n 9 0 0 = xs at *
  clear hfix
  cases xs with
  | nil => exact absurd rfl hne
  | cons b t =>
    clear hne
    have hl : ((b :: t).length : Int) ≤ 100 := by omega
    have hl0 : (0 : Int) < ((b :: t).length : Nat) := by simp
    go_enter Try.func29, Try.ntmps29
    go_wp2_with (first | (go_at_call 63; refine (goodStage_any _ _).mono ?_; rintro e w' ⟨rfl, rfl⟩) | fail)
    refine (HC.out _).mono ?_
    rintro e w1 ⟨v1, rfl, hn1, hb1⟩
    obtain ⟨a, cap, rfl, ha⟩ := hn1.own.view
    rw [strs_len] at hn1 ha ⊢
    obtain ⟨g, rfl⟩ := ha (by simp)
    have hgb := hn1.base g rfl
    have c0 := hn1.own.cell 0 (.string (txt b)) (by simp [strs])
    have f0 := hn1.own.free 0
    have hem := isEmpty_txt b
    have HN1 := Lib.hid hn1
    have HB1 := Lib.hid hb1
    clear hn1 hb1 ha
    generalize hL : (b :: t).length = len at *
    by_cases hb : b = []
    · rw [decide_eq_true hb] at hem
      have hset : (strs (b :: t)).set 0 (.string (txt [45])) = strs (fixA (b :: t)) := by rw [hb]; rfl
      have HSET := Lib.hid hset
      have HS1 := Lib.hid (HN1.out.own.set 0 (.string (txt [45])))
      generalize txt b = T at *
      clear hb hset
      go_wp2
      go_ret2
      exact ⟨_, rfl, ⟨by rw [← HSET.out]; exact HS1.out, HN1.out.base⟩, HB1.out.setCell hgb _⟩
    · rw [decide_eq_false hb] at hem
      have hfix : fixA (b :: t) = b :: t := by cases b with
        | nil => exact absurd rfl hb
        | cons => rfl
      have HFIX := Lib.hid hfix
      generalize txt b = T at *
      clear hb hfix
      go_wp2
      go_ret2
      exact ⟨_, rfl, by rw [HFIX.out]; exact HN1.out, HB1.out⟩
end Go.Proofs.Ytkeighlcdnfjcaa
