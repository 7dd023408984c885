/- What the law FnStill wants of hunt bells, still bells and palindromes. -/
import Derived.Test.YtfocnflnpabmkaaG4
import Derived.Test.YtfocnflnpabmkaaG5
import Derived.Test.YtfocnflnpabmkaaD11
import Derived.Test.YtfocnflnpabmkaaD14
import Derived.Test.YtfocnflnpabmkaaD4
namespace Go.Proofs.Ytfocnflnpabmkaa
open Go.RowKit
set_option linter.unusedSimpArgs false
set_option linter.unusedVariables false

theorem small10 {L : List (List Nat)} (h : ∀ l ∈ L, l.length ≤ 10) : Small L := fun l hl => by
  have := h l hl
  unfold maxLen
  omega

theorem stillFacts (s : ByteArray) (hs : s.size ≤ maxLen) (n : Int) (L : List (List Nat)) (hl : L.length ≤ 2000000) (hsm : Small L) :
    ∃ P Q : List Int, P.length ≤ 1000 ∧ Q.length ≤ 1000 ∧
      (∀ u w, Txts w u L → Calls Try.prog 35 #[.agg #[.string s, .int .i64 n, u]] w (IntsAny P (goodM s n L) w)) ∧
      (∀ u w, Txts w u L → Calls Try.prog 36 #[.agg #[.string s, .int .i64 n, u]] w (IntsAny P (goodM s n L) w)) ∧
      (∀ u w, Txts w u L → Calls Try.prog 37 #[.agg #[.string s, .int .i64 n, u]] w (IntsAny Q (goodM s n L) w)) ∧
      (∀ u w, Txts w u L → Calls Try.prog 38 #[.agg #[.string s, .int .i64 n, u]] w (IntsAny Q (goodM s n L) w)) ∧
      (goodM s n L = true → ∃ (k : Nat) (F : Nat → Nat), n = (k : Int) ∧ 3 ≤ k ∧ k ≤ 8 ∧ 1 ≤ L.length ∧ L.length ≤ 40 ∧
        (∀ b : Nat, 1 ≤ b → b ≤ k → decide ((b : Int) ∈ P) = decide (F (b - 1) = 48 + b)) ∧ (∀ i, i < k → 49 ≤ F i ∧ F i ≤ 48 + k) ∧ (∀ x ∈ Q, x ∈ P) ∧
        (∀ u w, Txts w u L → Calls Try.prog 21 #[.agg #[.string s, .int .i64 n, u]] w fun e w' => e = .returned (.tuple #[.string (strOf k F), .bool true]) ∧ Below w.heap.size w w')) := by
  cases hg : goodM s n L
  · exact ⟨([] : List Nat).map fun (k : Nat) => (k : Int), ([] : List Nat).map fun (k : Nat) => (k : Int), by simp, by simp, fun u w h => iHuntBells_no s hs n u L w h hl hg, fun u w h => sHuntBells_no s hs n u L w h hl hsm hg, fun u w h => iStillBells_no s hs n u L w h hl hg, fun u w h => sStillBells_no s hs n u L w h hl hsm hg, fun h => by cases h⟩
  · obtain ⟨k, rfl⟩ := good_cast hg
    have h9 := goodM_nat hg
    have hlen := h9.2.2.2
    rw [chR_len] at hlen
    have hrow := isRow_head h9.1 h9.2.1 h9.2.2.1
    refine ⟨(home k (headF k (chR k L))).map fun (k : Nat) => (k : Int), (keptL k (chR k L)).map fun (k : Nat) => (k : Int), ?_, ?_, fun u w h => iHuntBells_yes s hs k u L w h hl hg, fun u w h => sHuntBells_yes s hs k u L w h hl hsm hg, fun u w h => iStillBells_yes s hs k u L w h hl hg, fun u w h => ?_, fun _ => ⟨k, headF k (chR k L), rfl, h9.1, h9.2.1, hlen.2, hlen.1, ?_, fun i hi => ⟨hrow.lo i hi, hrow.hi i hi⟩, ?_, fun u w h => iLeadHead_yes s hs k u L w h hl hg⟩⟩
    · have := home_len k (headF k (chR k L))
      simp
      omega
    · have := keptL_len k (chR k L)
      simp
      omega
    · have := sStillBells_yes s hs k u L w h hl hsm hg
      rw [still_kept h9.1 h9.2.1 h9.2.2.1] at this
      exact this
    · intro b h1 h2
      have hm : ((b : Int) ∈ (home k (headF k (chR k L))).map fun (k : Nat) => (k : Int)) ↔ b ∈ home k (headF k (chR k L)) := by
        rw [List.mem_map]
        constructor
        · rintro ⟨a, ha, he⟩
          have : a = b := by omega
          rwa [← this]
        · exact fun h => ⟨b, h, rfl⟩
      rw [decide_eq_decide, hm, mem_home]
      exact ⟨fun h => h.2.2, fun h => ⟨h1, h2, h⟩⟩
    · intro x hx
      rw [List.mem_map] at hx
      obtain ⟨y, hy, rfl⟩ := hx
      exact List.mem_map.2 ⟨y, kept_home h9.1 h9.2.1 h9.2.2.1 y hy, rfl⟩

theorem pairsOk_at {M : List (List Nat)} (h : pairsOk M = true) (i : Nat) (hi : i < M.length) : sameT (M.getD i []) (M.getD (M.length - 1 - i) []) = true := by
  unfold pairsOk at h
  rw [List.all_eq_true] at h
  exact h i (List.mem_range.2 hi)
theorem getD_take' (L : List (List Nat)) (m i : Nat) (hi : i < m) : (L.take m).getD i [] = L.getD i [] := by
  simp [List.getD_eq_getElem?_getD, List.getElem?_take, hi]
theorem getD_rev' (L : List (List Nat)) (i : Nat) (hi : i < L.length) : L.reverse.getD i [] = L.getD (L.length - 1 - i) [] := by
  simp [List.getD_eq_getElem?_getD, List.getElem?_reverse hi]
/-- behind a palindrome's last change the reversed list reads as the list -/
theorem turn_at {L : List (List Nat)} (h : pairsOk (L.take (L.length - 1)) = true) (j : Nat) (hj : j < L.length) : sameT (L.reverse.getD ((j + 1) % L.length) []) (L.getD j []) = true := by
  by_cases h1 : j + 1 < L.length
  · rw [Nat.mod_eq_of_lt h1, getD_rev' L _ h1]
    have hm : (L.take (L.length - 1)).length = L.length - 1 := by simp
    have h2 := pairsOk_at h j (by rw [hm]; omega)
    rw [hm, getD_take' L _ _ (by omega), getD_take' L _ _ (by omega), sameT_comm] at h2
    rw [show L.length - 1 - (j + 1) = L.length - 1 - 1 - j by omega]
    exact h2
  · have h2 : j + 1 = L.length := by omega
    rw [h2, Nat.mod_self, getD_rev' L _ (by omega), show L.length - 1 - 0 = j by omega]
    exact sameT_self _
end Go.Proofs.Ytfocnflnpabmkaa
