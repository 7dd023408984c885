/- Laws' own: whether a list has a number, whether one lies within another. -/
import Derived.Test.YtpfnamiacagocaaDA
namespace Go.Proofs.Ytpfnamiacagocaa
open Go.RowKit
set_option linter.unusedSimpArgs false
set_option linter.unusedVariables false

set_option maxRecDepth 100000 in
set_option maxHeartbeats 1000000 in
theorem has_any (v : Value) (xs : List Int) (k : Int) (w : World) (h : Own w 3 v (ints xs)) (hb : xs.length ≤ 1000000) :
    Calls Try.prog 92 #[v, .int .i64 k] w fun e w' => e = .returned (.bool (decide (k ∈ xs))) ∧ w = w' := by
  obtain ⟨n, hn⟩ : ∃ n, xs.length = n := ⟨_, rfl⟩
  obtain ⟨a, cap, rfl, ha⟩ := h.viewI hn
  rw [hn] at hb
  have HO := Lib.hid h
  have HA := Lib.hid ha
  have HN := Lib.hid hn
  clear h ha hn
  obtain ⟨res, hres⟩ : ∃ r, decide (k ∈ xs) = r := ⟨_, rfl⟩
  rw [hres]
  have HRES := Lib.hid hres
  clear hres
  go_enter Try.func92, Try.ntmps92
  go_wp2
  go_loopg [6, 9] n (fun q _ i wr => ∃ j : Nat, j ≤ n ∧ q + j = n ∧ i = .int .i64 j ∧ (∀ t, t < j → xs.getD t 0 ≠ k) ∧ wr = w)
  case atStart => exact ⟨0, Nat.zero_le _, rfl, rfl, fun t h => by omega, rfl⟩
  case round =>
    obtain ⟨j, hj, hq, rfl, hno, rfl⟩ := hrel
    have HQ := Lib.hid hq
    have HNO := Lib.hid hno
    clear hq hno
    by_cases hlt : j < n
    · obtain ⟨g, rfl⟩ := HA.out (by omega)
      have c1 := HO.out.cell j _ (ints_at xs j (by rw [HN.out]; exact hlt))
      have hki : (j : Int) < n := by omega
      have hgd : xs.getD j 0 = xs[j]'(by rw [HN.out]; exact hlt) := by
        rw [List.getD_eq_getElem?_getD, List.getElem?_eq_getElem (by rw [HN.out]; exact hlt)]; rfl
      have hmem : xs[j]'(by rw [HN.out]; exact hlt) ∈ xs := List.getElem_mem _
      generalize xs[j]'(by rw [HN.out]; exact hlt) = x at c1 hgd hmem
      by_cases hx : x = k
      · have HR : Hid (true = res) := Lib.hid (by rw [← HRES.out]; simpa [hx] using hmem)
        clear hmem hgd
        subst hx
        go_wp2
        go_ret
        exact ⟨by rw [← HR.out]; rfl, rfl⟩
      · have q1 : (x == k) = false := by rw [beq_eq_false_iff_ne]; exact hx
        have HN2 : Hid (∀ t, t < j + 1 → xs.getD t 0 ≠ k) := Lib.hid (fun t ht => by
          by_cases h9 : t = j
          · rw [h9, hgd]; exact hx
          · exact HNO.out t (by omega))
        clear hmem hgd
        go_wp2
        go_roundg (n - (j + 1))
        case measure => have := HQ.out; omega
        case rel => exact ⟨j + 1, by omega, by have := HQ.out; omega, by go_num, HN2.out, rfl⟩
    · obtain rfl : j = n := by omega
      have HR : Hid (false = res) := Lib.hid (by
        rw [← HRES.out]
        symm
        rw [decide_eq_false_iff_not]
        intro hm
        obtain ⟨t, ht, he⟩ := List.getElem_of_mem hm
        have h1 := HNO.out t (by rw [HN.out] at ht; exact ht)
        rw [List.getD_eq_getElem?_getD, List.getElem?_eq_getElem ht] at h1
        exact h1 (by simpa using he))
      go_wp2
      go_ret
      exact ⟨by rw [← HR.out]; rfl, rfl⟩

set_option maxRecDepth 100000 in
set_option maxHeartbeats 1000000 in
theorem within_yes (v v' : Value) (xs ys : List Int) (w : World) (h : Own w 3 v (ints xs)) (h' : Own w 3 v' (ints ys)) (hb : xs.length ≤ 1000000) (hb' : ys.length ≤ 1000000) (hin : ∀ x ∈ xs, x ∈ ys) :
    Calls Try.prog 42 #[v, v'] w fun e w' => e = .returned (.bool true) ∧ w = w' := by
  obtain ⟨n, hn⟩ : ∃ n, xs.length = n := ⟨_, rfl⟩
  obtain ⟨a, cap, rfl, ha⟩ := h.viewI hn
  rw [hn] at hb
  have HH := Lib.hid (fun k => has_any v' ys k w h' hb')
  have HO := Lib.hid h
  have HA := Lib.hid ha
  have HN := Lib.hid hn
  have HIN := Lib.hid hin
  clear h ha hn hin h'
  go_enter Try.func42, Try.ntmps42
  go_wp2
  go_loopg [6, 9] n (fun q _ i wr => ∃ j : Nat, j ≤ n ∧ q + j = n ∧ i = .int .i64 j ∧ w = wr)
  case atStart => exact ⟨0, Nat.zero_le _, rfl, rfl, rfl⟩
  case round =>
    obtain ⟨j, hj, hq, rfl, rfl⟩ := hrel
    have HQ := Lib.hid hq
    clear hq
    by_cases hlt : j < n
    · obtain ⟨g, rfl⟩ := HA.out (by omega)
      have c1 := HO.out.cell j _ (ints_at xs j (by rw [HN.out]; exact hlt))
      have hki : (j : Int) < n := by omega
      have hmem := HIN.out _ (List.getElem_mem (by rw [HN.out]; exact hlt : j < xs.length))
      generalize xs[j]'(by rw [HN.out]; exact hlt) = x at c1 hmem
      have HX := Lib.hid (HH.out x)
      rw [decide_eq_true hmem] at HX
      clear hmem
      go_wp2_with fail
      refine HX.out.mono ?_
      rintro e w1 ⟨rfl, rfl⟩
      go_wp2
      go_roundg (n - (j + 1))
      case measure => have := HQ.out; omega
      case rel => exact ⟨j + 1, by omega, by have := HQ.out; omega, by go_num, rfl⟩
    · obtain rfl : j = n := by omega
      go_wp2
      go_ret
      exact ⟨rfl, rfl⟩
end Go.Proofs.Ytpfnamiacagocaa
