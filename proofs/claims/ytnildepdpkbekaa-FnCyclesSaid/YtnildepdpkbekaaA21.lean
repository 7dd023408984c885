/- RowOf in the model, and the law on it. -/
import Derived.Test.YtnildepdpkbekaaA20
namespace Go.Proofs.Ytnildepdpkbekaa
open Go.RowKit
set_option linter.unusedSimpArgs false

theorem str_drop (M : Nat) (h : Nat → Nat) (p : Nat) (hp : p ≤ M) : (strOf (M + 1) h).extract 0 p ++ (strOf (M + 1) h).extract (p + 1) (M + 1) = strOf M (dropF h p) := by
  have e : ((strOf (M + 1) h).extract 0 p ++ (strOf (M + 1) h).extract (p + 1) (M + 1)).data = (strOf M (dropF h p)).data := by
    rw [ByteArray.data_append, ByteArray.data_extract, ByteArray.data_extract]
    apply Array.ext
    · simp [strOf]; omega
    · intro i h1 h2
      have hi : i < M := by simpa [strOf] using h2
      by_cases hip : i < p
      · rw [Array.getElem_append_left (by simp [strOf]; omega)]
        simp [strOf, dropF, hip]
      · rw [Array.getElem_append_right (by simp [strOf]; omega)]
        simp [strOf, dropF, hip]
        rw [show p + 1 + (i - min p (M + 1)) = i + 1 by omega]
  cases h1 : ((strOf (M + 1) h).extract 0 p ++ (strOf (M + 1) h).extract (p + 1) (M + 1)); cases h2 : strOf M (dropF h p)
  rw [h1, h2] at e
  exact congrArg _ e

set_option maxRecDepth 100000 in
set_option maxHeartbeats 1000000 in
theorem sRowOf_yes (n k : Nat) (h3 : 3 ≤ n) (h8 : n ≤ 8) (hk : k < fact n) (w : World) :
    Calls Try.prog 21 #[.int .i64 n, .int .i64 k] w fun e w' => e = .returned (.tuple #[.string (strOf n (pickAt n k (rdf n))), .bool true]) ∧ Below w.heap.size w w' := by
  have h3' : (3 : Int) ≤ n := by omega
  have h8' : (n : Int) ≤ 8 := by omega
  have hf8 := fact_le h8
  have hk' : (k : Int) ≤ (fact n : Int) - 1 := by omega
  have HK := Lib.hid hk
  clear hk
  go_enter Try.func21, Try.ntmps21
  go_wp2_with (first | (go_at_call 61; refine (l1In_any _ _ _ _).mono ?_; rintro e w' ⟨rfl, rfl⟩) | (go_at_call 56; refine (l1Fact_any _ h8 _).mono ?_; rintro e w' ⟨rfl, rfl⟩) | (go_at_call 62; refine (l1Rounds_any n h8 _).mono ?_; rintro e w' ⟨rfl, rfl⟩; rw [← strOf_rdf]))
  go_loopg [1, 6, 7, 8, 9] n (fun q kk rest out _ _ wr => ∃ (j : Nat), j ≤ n ∧ q + j = n ∧ kk = .int .i64 (leftK n k j) ∧ rest = .string (strOf (n - j) (leftH n k (rdf n) j)) ∧ out = .string (strOf j (pickAt n k (rdf n))) ∧ Below w.heap.size w wr)
  case atStart => exact ⟨0, Nat.zero_le _, rfl, rfl, rfl, rfl, Below.refl _ _⟩
  case round =>
    obtain ⟨j, hj, hq, rfl, rfl, rfl, hb⟩ := hrel
    have HQ := Lib.hid hq
    have HB := Lib.hid hb
    clear hq hb
    by_cases hlt : j < n
    · have hp1 := pick_lt HK.out j hlt
      have hF1 := fact_pos (n - (j + 1))
      have hF2 := fact_le (show n - (j + 1) ≤ 8 by omega)
      have hKl := leftK_lt HK.out j hj
      have hK2 := fact_le (show n - j ≤ 8 by omega)
      have hpick : leftH n k (rdf n) j (leftK n k j / fact (n - (j + 1))) = pickAt n k (rdf n) j := rfl
      have hKs : leftK n k (j + 1) = leftK n k j % fact (n - (j + 1)) := rfl
      have hHs : leftH n k (rdf n) (j + 1) = dropF (leftH n k (rdf n) j) (leftK n k j / fact (n - (j + 1))) := rfl
      obtain ⟨M, hM⟩ : ∃ M, n - j = M + 1 := ⟨n - (j + 1), by omega⟩
      have hM2 : n - (j + 1) = M := by omega
      have hM7 : M ≤ 7 := by omega
      rw [hM2] at hp1 hF1 hF2 hpick hKs hHs
      rw [hM] at hp1 hKl hK2
      rw [hM]
      have HM2 := Lib.hid hM2
      have HKS := Lib.hid hKs
      have HHS := Lib.hid hHs
      have HP := Lib.hid hpick
      clear hKs hHs hpick hM hM2
      generalize hKe : leftK n k j = K at *
      generalize hFe : fact M = F at *
      obtain ⟨p, hp⟩ : ∃ p, K / F = p := ⟨_, rfl⟩
      obtain ⟨r, hr⟩ : ∃ r, K % F = r := ⟨_, rfl⟩
      rw [hp] at hp1 HHS HP
      rw [hr] at HKS
      have hpi : (K : Int) / (F : Int) = p := by rw [← hp]; simp
      have hri : (K : Int) % (F : Int) = r := by rw [← hr]; simp
      have HKe := Lib.hid hKe
      have HFe := Lib.hid hFe
      have HR := Lib.hid hri
      clear hKe hFe hp hr
      have hFi : (1 : Int) ≤ F := by omega
      have hdrop := str_drop M (leftH n k (rdf n) j) p (by omega)
      have hsz := strOf_size (M + 1) (leftH n k (rdf n) j)
      have hsz2 := strOf_size j (pickAt n k (rdf n))
      have hone := strOf_snoc j (pickAt n k (rdf n)) ((strOf (M + 1) (leftH n k (rdf n) j)).extract p (p + 1)) (by
        rw [extract_one _ p (by rw [strOf_size]; omega)]
        have : (strOf (M + 1) (leftH n k (rdf n) j))[p]'(by rw [strOf_size]; omega) = UInt8.ofNat (pickAt n k (rdf n) j) := by
          rw [← HP.out]
          show (strOf (M + 1) (leftH n k (rdf n) j)).data[p]'_ = _
          simp [strOf]
        rw [this])
      generalize strOf (M + 1) (leftH n k (rdf n) j) = R at *
      have hp2 : (p : Int) + 1 ≤ (M : Int) + 1 := by omega
      go_wp2_with fail
      refine (l1Fact_any M (by omega) _).mono ?_
      rintro e w' ⟨rfl, rfl⟩
      rw [HFe.out]
      go_wp2
      have hwp : IntKind.i64.wrap ((p : Int) + 1) = (p : Int) + 1 := IntWalk.i64_in _ (by omega)
      go_quiet (fail)
      clear hwp
      go_wp2
      go_roundg (n - (j + 1))
      case measure => have := HQ.out; omega
      case rel => exact ⟨j + 1, by omega, by have := HQ.out; omega, by rw [HKS.out, HR.out], by rw [HM2.out, HHS.out], rfl, below_drewN HB.out _⟩
    · obtain rfl : j = n := by omega
      have hsz := strOf_size (j - j) (leftH j k (rdf j) j)
      have hjj : j - j = 0 := by omega
      go_wp2
      go_ret2
      exact ⟨rfl, HB.out⟩

set_option maxRecDepth 100000 in
set_option maxHeartbeats 1000000 in
theorem sRowOf_no (n k : Int) (h : ¬ (3 ≤ n ∧ n ≤ 8 ∧ 0 ≤ k ∧ k < fact n.toNat)) (w : World) :
    Calls Try.prog 21 #[.int .i64 n, .int .i64 k] w fun e w' => e = .returned (.tuple #[.string ⟨#[]⟩, .bool false]) ∧ w = w' := by
  by_cases hn : 3 ≤ n ∧ n ≤ 8
  · obtain ⟨h3, h8⟩ := hn
    obtain ⟨m, rfl⟩ := Int.eq_ofNat_of_zero_le (show 0 ≤ n by omega)
    have h8n : m ≤ 8 := by omega
    have hf8 := fact_le h8n
    have hd : (decide (0 ≤ k) && decide (k ≤ (fact m : Int) - 1)) = false := by simp at h; simp; omega
    clear h
    go_enter Try.func21, Try.ntmps21
    go_wp2_with (first | (go_at_call 61; refine (l1In_any _ _ _ _).mono ?_; rintro e w' ⟨rfl, rfl⟩) | (go_at_call 56; refine (l1Fact_any _ h8n _).mono ?_; rintro e w' ⟨rfl, rfl⟩))
    go_ret2
    exact ⟨rfl, rfl⟩
  · have hd : (decide (3 ≤ n) && decide (n ≤ 8)) = false := by simp; omega
    clear h
    go_enter Try.func21, Try.ntmps21
    go_wp2_with (first | (go_at_call 61; refine (l1In_any _ _ _ _).mono ?_; rintro e w' ⟨rfl, rfl⟩))
    go_ret2
    exact ⟨rfl, rfl⟩

end Go.Proofs.Ytnildepdpkbekaa
