/- What the laws do with lists of numbers: compare them, mark them, ask whether the marks stand. -/
import Derived.Test.YtkeighlcdnfjcaaO1
namespace Go.Proofs.Ytkeighlcdnfjcaa
open Go.RowKit
set_option linter.unusedSimpArgs false

def ints (xs : List Int) : List Value := xs.map (Value.int .i64)
theorem ints_len (xs : List Int) : (ints xs).length = xs.length := by simp [ints]
theorem ints_at (xs : List Int) (j : Nat) (h : j < xs.length) : (ints xs)[j]? = some (.int .i64 xs[j]) := by simp [ints, h]

/-- a slice's length and, where it has elements, its block -/
theorem Own.view {W : World} {e : TypeId} {v : Value} {xs : List Value} (h : Own W e v xs) : ∃ a cap, v = .slice a xs.length cap ∧ (0 < xs.length → ∃ g, a = some ⟨g, 0, none⟩) := by
  rcases h.shape with ⟨rfl, rfl⟩ | ⟨g, cap, rfl, _⟩
  · exact ⟨none, 0, rfl, fun h0 => absurd h0 (by simp)⟩
  · exact ⟨_, cap, rfl, fun _ => ⟨g, rfl⟩⟩
theorem Own.viewI {W : World} {e : TypeId} {v : Value} {xs : List Int} {n : Nat} (h : Own W e v (ints xs)) (hn : xs.length = n) : ∃ a cap, v = .slice a n cap ∧ (0 < n → ∃ g, a = some ⟨g, 0, none⟩) := by
  have := h.view
  rw [ints_len, hn] at this
  exact this
theorem Own.set {W : World} {e : TypeId} {g n cap : Nat} {xs : List Value} (h : Own W e (.slice (some ⟨g, 0, none⟩) n cap) xs) (k : Nat) (u : Value) : Own (W.setCell ⟨g, k, none⟩ u) e (.slice (some ⟨g, 0, none⟩) n cap) (xs.set k u) := by
  obtain ⟨h1, h2⟩ := h
  rcases h2 with ⟨h0, _⟩ | ⟨g', cap', cur, hv, hb, hg, hle, hm, hs, ht⟩
  · cases h0
  · injection hv with e1 e2 e3
    injection e1 with e1
    injection e1 with e1
    subst e1 e2 e3
    refine ⟨by simp, .inr ⟨g, cap, cur.setIfInBounds k u, by simp, hb, heap_setCell_same W g k _ _ _ hg, by simpa using hle, hm, by simpa using hs, ?_⟩⟩
    simp only [List.length_set, Nat.mul_one] at ht ⊢
    rw [Array.toList_setIfInBounds]
    have : (cur.toList.set k u).take xs.length = (cur.toList.take xs.length).set k u := by
      rw [List.take_set]
    rw [this, ht]

set_option maxRecDepth 100000 in
set_option maxHeartbeats 1000000 in
theorem eqIntS_same (v v' : Value) (xs : List Int) (w : World) (h : Own w 3 v (ints xs)) (h' : Own w 3 v' (ints xs)) (hb : xs.length ≤ 1000000) :
    Calls Try.prog 38 #[v, v'] w fun e w' => e = .returned (.bool true) ∧ ∃ m, w' = w.drewN m := by
  obtain ⟨n, hn⟩ : ∃ n, xs.length = n := ⟨_, rfl⟩
  obtain ⟨a, cap, rfl, ha⟩ := h.viewI hn
  obtain ⟨a', cap', rfl, ha'⟩ := h'.viewI hn
  rw [hn] at hb
  have HO := Lib.hid h
  have HO' := Lib.hid h'
  have HA := Lib.hid ha
  have HA' := Lib.hid ha'
  clear h h' ha ha'
  have HN := Lib.hid hn
  clear hn
  go_enter Try.func38, Try.ntmps38
  go_wp2
  go_loopg [5] n (fun q i wr => ∃ k : Nat, k ≤ n ∧ q + k = n ∧ i = .int .i64 k ∧ ∃ d, wr = w.drewN d)
  case atStart => exact ⟨0, Nat.zero_le _, rfl, rfl, 0, rfl⟩
  case round =>
    obtain ⟨k, hk, hq, rfl, d, rfl⟩ := hrel
    have HQ := Lib.hid hq
    clear hq
    by_cases hlt : k < n
    · obtain ⟨g, rfl⟩ := HA.out (by omega)
      obtain ⟨g', rfl⟩ := HA'.out (by omega)
      have c1 := HO.out.cell k _ (ints_at xs k (by rw [HN.out]; exact hlt))
      have c2 := HO'.out.cell k _ (ints_at xs k (by rw [HN.out]; exact hlt))
      have hki : (k : Int) < n := by omega
      generalize xs[k]'(by rw [HN.out]; exact hlt) = x at c1 c2
      go_wp2
      go_quiet (fail)
      go_wp2
      go_roundg (n - (k + 1))
      case measure => have := HQ.out; omega
      case rel => exact ⟨k + 1, by omega, by have := HQ.out; omega, by go_num, _, rfl⟩
    · obtain rfl : k = n := by omega
      go_wp2
      go_ret
      exact ⟨rfl, d, rfl⟩

/-- the marks from k on, n of them -/
def marks (k : Int) (n : Nat) : List Int := (List.range n).map fun j => k + (j : Nat)
theorem marks_len (k : Int) (n : Nat) : (marks k n).length = n := by simp [marks]
theorem marks_at (k : Int) (n j : Nat) (h : j < n) : (marks k n)[j]? = some (k + j) := by simp [marks, h]
/-- the first j of xs marked -/
def markTo (k : Int) (xs : List Int) (j : Nat) : List Int := marks k j ++ xs.drop j
theorem markTo_len (k : Int) (xs : List Int) (j : Nat) (h : j ≤ xs.length) : (markTo k xs j).length = xs.length := by simp [markTo, marks_len]; omega
theorem markTo_succ (k : Int) (xs : List Int) (j : Nat) (h : j < xs.length) : (markTo k xs j).set j (k + j) = markTo k xs (j + 1) := by
  have e : (List.drop j xs).set 0 (k + j) = (k + j) :: List.drop (j + 1) xs := by rw [List.drop_eq_getElem_cons h]; rfl
  unfold markTo
  rw [List.set_append_right _ _ (by rw [marks_len]; exact Nat.le_refl _), marks_len, Nat.sub_self, e]
  simp [marks, List.range_succ]
theorem markTo_all (k : Int) (xs : List Int) : markTo k xs xs.length = marks k xs.length := by simp [markTo]

set_option maxRecDepth 100000 in
set_option maxHeartbeats 1000000 in
theorem markIntS_any (v : Value) (xs : List Int) (k : Int) (w : World) (h : Own w 3 v (ints xs)) (hb : xs.length ≤ 1000000) (hk0 : 0 ≤ k) (hk1 : k ≤ 1000000) :
    Calls Try.prog 39 #[v, .int .i64 k] w fun e w' => e = .returned (.int .i64 (k + xs.length)) ∧ Own w' 3 v (ints (marks k xs.length)) ∧ w.grownBy w' v.ownBlock := by
  obtain ⟨n, hn⟩ : ∃ n, xs.length = n := ⟨_, rfl⟩
  obtain ⟨a, cap, rfl, ha⟩ := h.viewI hn
  rw [hn] at hb ⊢
  have HO := Lib.hid h
  have HA := Lib.hid ha
  clear h ha
  have HN := Lib.hid hn
  clear hn
  go_enter Try.func39, Try.ntmps39
  go_wp2
  go_loopg [1, 5] n (fun q kk i wr => ∃ j : Nat, j ≤ n ∧ q + j = n ∧ i = .int .i64 j ∧ kk = .int .i64 (k + j) ∧ Own wr 3 (.slice a n cap) (ints (markTo k xs j)) ∧ w.grownBy wr (Value.slice a n cap).ownBlock)
  case atStart => exact ⟨0, Nat.zero_le _, rfl, rfl, by simp, by simpa [markTo, marks] using HO.out, ⟨rfl, rfl, rfl, Nat.le_refl _, fun _ _ _ => rfl⟩⟩
  case round =>
    obtain ⟨j, hj, hq, rfl, rfl, ho, hg⟩ := hrel
    have HQ := Lib.hid hq
    have HO2 := Lib.hid ho
    have HG := Lib.hid hg
    clear hq ho hg
    by_cases hlt : j < n
    · obtain ⟨g, rfl⟩ := HA.out (by omega)
      have c1 := HO2.out.cell j _ (ints_at (markTo k xs j) j (by rw [markTo_len k xs j (by rw [HN.out]; exact hj), HN.out]; exact hlt))
      have f1 := HO2.out.free j
      have hki : (j : Int) < n := by omega
      generalize (markTo k xs j)[j]'(by rw [markTo_len k xs j (by rw [HN.out]; exact hj), HN.out]; exact hlt) = x at c1
      go_wp2
      go_roundg (n - (j + 1))
      case measure => have := HQ.out; omega
      case rel =>
        refine ⟨j + 1, by omega, by have := HQ.out; omega, by go_num, by go_num, ?_, ?_⟩
        · have := HO2.out.set j (.int .i64 (k + j))
          rw [show (ints (markTo k xs j)).set j (.int .i64 (k + j)) = ints (markTo k xs (j + 1)) from by rw [← markTo_succ k xs j (by rw [HN.out]; exact hlt)]; simp [ints, List.map_set]] at this
          exact this
        · exact ⟨HG.out.os, HG.out.tape, HG.out.output, by simpa using HG.out.size, fun b hb hne => (Below.heap_setCell _ _ _ _ (fun e => hne (by simp [Value.ownBlock, e]))).trans (HG.out.block b hb hne)⟩
    · obtain rfl : j = n := by omega
      have hfin := HO2.out
      rw [← HN.out, markTo_all, HN.out] at hfin
      have HF := Lib.hid hfin
      clear hfin
      go_wp2
      go_ret
      exact ⟨rfl, HF.out, HG.out⟩

set_option maxRecDepth 100000 in
set_option maxHeartbeats 1000000 in
theorem heldIntS_any (v : Value) (n : Nat) (k : Int) (w : World) (h : Own w 3 v (ints (marks k n))) (hb : n ≤ 1000000) (hk0 : 0 ≤ k) (hk1 : k ≤ 1000000) :
    Calls Try.prog 40 #[v, .int .i64 k] w fun e w' => e = .returned (.int .i64 (k + n)) ∧ w = w' := by
  obtain ⟨a, cap, rfl, ha⟩ := h.viewI (marks_len k n)
  have HO := Lib.hid h
  have HA := Lib.hid ha
  clear h ha
  go_enter Try.func40, Try.ntmps40
  go_wp2
  go_loopg [1, 5] n (fun q kk i wr => ∃ j : Nat, j ≤ n ∧ q + j = n ∧ i = .int .i64 j ∧ kk = .int .i64 (k + j) ∧ w = wr)
  case atStart => exact ⟨0, Nat.zero_le _, rfl, rfl, by simp, rfl⟩
  case round =>
    obtain ⟨j, hj, hq, rfl, rfl, rfl⟩ := hrel
    have HQ := Lib.hid hq
    clear hq
    by_cases hlt : j < n
    · obtain ⟨g, rfl⟩ := HA.out (by omega)
      have c1 := HO.out.cell j (.int .i64 (k + j)) (by rw [ints_at _ j (by rw [marks_len]; exact hlt)]; simp [marks])
      have hki : (j : Int) < n := by omega
      go_wp2
      go_roundg (n - (j + 1))
      case measure => have := HQ.out; omega
      case rel => exact ⟨j + 1, by omega, by have := HQ.out; omega, by go_num, by go_num, rfl⟩
    · obtain rfl : j = n := by omega
      go_wp2
      go_ret
      exact ⟨rfl, rfl⟩
end Go.Proofs.Ytkeighlcdnfjcaa
