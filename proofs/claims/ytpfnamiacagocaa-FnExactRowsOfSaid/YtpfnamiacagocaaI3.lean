/- RowsOf in the program: rows out of lists of places. -/
import Derived.Test.YtpfnamiacagocaaM1
import Derived.Test.YtpfnamiacagocaaI1
namespace Go.Proofs.Ytpfnamiacagocaa
open Go.RowKit
set_option linter.unusedSimpArgs false
set_option linter.unusedVariables false

/-- list k, its number at index i; the digits that say which place each bell has at index i -/
def lk (F : List (List Int)) (k : Nat) : List Int := F.getD k []
def pl (F : List (List Int)) (k i : Nat) : Int := gx (lk F k) i
def cF (F : List (List Int)) (n i k : Nat) : Nat := if k < n then 48 + (pl F k i).toNat else 0
theorem cF_at {F : List (List Int)} {n i k : Nat} (hk : k < n) (h : 1 ≤ pl F k i) : (cF F n i k : Int) = 48 + pl F k i := by
  unfold cF
  rw [if_pos hk]
  omega
theorem col_range {F : List (List Int)} {n i : Nat} (h : IsRow n (cF F n i)) {k : Nat} (hk : k < n) : 1 ≤ pl F k i ∧ pl F k i ≤ n := by
  have h1 := h.lo k hk
  have h2 := h.hi k hk
  unfold cF at h1 h2
  rw [if_pos hk] at h1 h2
  omega
theorem col_dup {F : List (List Int)} {n i t k : Nat} (ht : t < k) (hk : k < n) (e : pl F t i = pl F k i) : ¬ IsRow n (cF F n i) := by
  intro h
  have := h.inj t k (by omega) hk (by unfold cF; rw [if_pos (by omega), if_pos hk, e])
  omega
theorem col_yes {F : List (List Int)} {n i : Nat} (h3 : 3 ≤ n) (h8 : n ≤ 8) (hr : ∀ k, k < n → 1 ≤ pl F k i ∧ pl F k i ≤ n) (hd : ∀ t k, t < k → k < n → pl F t i ≠ pl F k i) : IsRow n (cF F n i) := by
  refine isRow_mk h3 h8 (fun k hk => ?_) (fun k hk => ?_) (fun s t hs ht e => ?_) (fun k hk => by unfold cF; rw [if_neg (by omega)])
  · have := hr k hk; have := cF_at (F := F) hk this.1; omega
  · have := hr k hk; have := cF_at (F := F) hk this.1; omega
  · have h1 := cF_at (F := F) hs (hr s hs).1
    have h2 := cF_at (F := F) ht (hr t ht).1
    rw [e] at h1
    rcases Nat.lt_trichotomy s t with q | q | q
    · exact absurd (by omega) (hd s t q ht)
    · exact q
    · exact absurd (by omega) (hd t s q hs)

/-- v reads as these lists of numbers, wherever they lie -/
def LLI (W : World) (v : Value) (F : List (List Int)) : Prop :=
  ∃ a cap, v = .slice a F.length cap ∧ (0 < F.length → ∃ ad : Addr, a = some ad ∧ ad.block < W.heap.size ∧ ∀ k, k < F.length → ∃ u, W.cell? (ad.add k) = some u ∧ ArgI W u (lk F k))
theorem LLI.kept {W W' : World} {v : Value} {F : List (List Int)} (h : LLI W v F) (hb : Below W.heap.size W W') : LLI W' v F := by
  obtain ⟨a, cap, rfl, ha⟩ := h
  refine ⟨a, cap, rfl, fun h0 => ?_⟩
  obtain ⟨ad, rfl, hlt, hc⟩ := ha h0
  refine ⟨ad, rfl, Nat.lt_of_lt_of_le hlt hb.size, fun k hk => ?_⟩
  obtain ⟨u, h1, h2⟩ := hc k hk
  exact ⟨u, by rw [hb.cell (by rw [addI_block]; exact hlt)]; exact h1, h2.kept hb⟩

/-- all lists are of one length, from 1 to 800 -/
def EqLong (F : List (List Int)) : Prop := ∀ k, k < F.length → (lk F k).length = (lk F 0).length ∧ 1 ≤ (lk F k).length ∧ (lk F k).length ≤ 800
open Classical in
noncomputable def eqB (F : List (List Int)) : Bool := decide (EqLong F)
open Classical in
theorem eqB_no {F : List (List Int)} {k : Nat} (hk : k < F.length) (h : ¬ ((lk F k).length = (lk F 0).length ∧ 1 ≤ (lk F k).length ∧ (lk F k).length ≤ 800)) : eqB F = false := by
  unfold eqB
  rw [decide_eq_false_iff_not]
  exact fun e => h (e k hk)
open Classical in
theorem eqB_yes {F : List (List Int)} (h : EqLong F) : eqB F = true := by
  unfold eqB
  rw [decide_eq_true_eq]
  exact h
open Classical in
theorem eqB_of {F : List (List Int)} (h : eqB F = true) : EqLong F := by
  unfold eqB at h
  rwa [decide_eq_true_eq] at h

set_option maxRecDepth 100000 in
set_option maxHeartbeats 1000000 in
theorem equallyLong_any (v : Value) (F : List (List Int)) (w : World) (h : LLI w v F) (hl : F.length ≤ 2000000) (hm : ∀ k, (lk F k).length ≤ 9223372036854775807) :
    Calls Try.prog 65 #[v] w fun e w' => e = .returned (.bool (eqB F)) ∧ w = w' := by
  obtain ⟨n, hn⟩ : ∃ n, F.length = n := ⟨_, rfl⟩
  obtain ⟨a, cap, rfl, ha⟩ := h
  rw [hn] at ha ⊢
  have HA := Lib.hid ha
  have HN := Lib.hid hn
  have HM := Lib.hid hm
  obtain ⟨res, hres⟩ : ∃ b, eqB F = b := ⟨_, rfl⟩
  rw [hres]
  have HRES := Lib.hid hres
  have hni : (n : Int) ≤ 2000000 := by omega
  clear ha hn hm hres hl
  go_enter Try.func65, Try.ntmps65
  go_wp2
  go_loopg [4, 7] n (fun q _ x wr => ∃ j : Nat, q + j = n ∧ x = .int .i64 j ∧ (∀ k, k < j → (lk F k).length = (lk F 0).length ∧ 1 ≤ (lk F k).length ∧ (lk F k).length ≤ 800) ∧ w = wr)
  case atStart => exact ⟨0, by omega, rfl, fun k hk => absurd hk (by omega), rfl⟩
  case round =>
    obtain ⟨j, hq, rfl, hok, rfl⟩ := hrel
    have HOK := Lib.hid hok
    clear hok
    by_cases hlt : j < n
    · have hji : (j : Int) < n := by omega
      obtain ⟨ad, rfl, had, hc⟩ := HA.out (by omega)
      obtain ⟨u, c1, hu⟩ := hc j hlt
      obtain ⟨u0, c0, hu0⟩ := hc 0 (by omega)
      obtain ⟨a1, k1, rfl, -⟩ := hu
      obtain ⟨a0, k0, rfl, -⟩ := hu0
      have c00 : w.cell? ad = some (.slice a0 (lk F 0).length k0) := by
        have e0 : ad.add 0 = ad := by
          rcases ad with ⟨b, o, x⟩
          unfold Addr.add
          split <;> simp_all
        rw [e0] at c0
        exact c0
      have h0n : (0 : Int) < (n : Int) := by omega
      have HNO : Hid (¬ ((lk F j).length = (lk F 0).length ∧ 1 ≤ (lk F j).length ∧ (lk F j).length ≤ 800) → res = false) := Lib.hid (fun h => by rw [← HRES.out]; exact eqB_no (by rw [HN.out]; exact hlt) h)
      have hm1 := HM.out j
      have hm0 := HM.out 0
      have HOK2 : Hid ((lk F j).length = (lk F 0).length ∧ 1 ≤ (lk F j).length ∧ (lk F j).length ≤ 800 → ∀ k, k < j + 1 → (lk F k).length = (lk F 0).length ∧ 1 ≤ (lk F k).length ∧ (lk F k).length ≤ 800) := Lib.hid (fun h k hk => by
        by_cases e : k = j
        · rw [e]; exact h
        · exact HOK.out k (by omega))
      generalize hlj : (lk F j).length = lj at c1 HNO hm1
      generalize hl0 : (lk F 0).length = l0 at c0 c00 HNO hm0
      have HLJ := Lib.hid hlj
      have HL0 := Lib.hid hl0
      clear hlj hl0
      clear hc
      have hmj : (lj : Int) ≤ 9223372036854775807 := by omega
      have hmz : (l0 : Int) ≤ 9223372036854775807 := by omega
      by_cases h1 : lj = l0
      · have e1 : ((lj : Int) != (l0 : Int)) = false := by rw [bne_eq_false_iff_eq]; omega
        by_cases h2 : lj = 0
        · have hr := HNO.out (by omega)
          subst hr
          have e2 : ((lj : Int) == 0) = true := by rw [beq_iff_eq]; omega
          clear h1 h2
          go_wp2
          go_ret
          exact ⟨rfl, rfl⟩
        · have e2 : ((lj : Int) == 0) = false := by rw [beq_eq_false_iff_ne]; omega
          by_cases h3 : 800 < lj
          · have hr := HNO.out (by omega)
            subst hr
            have h3' : (800 : Int) < lj := by omega
            clear h1 h2
            go_wp2
            go_ret
            exact ⟨rfl, rfl⟩
          · have h3' : ¬ (800 : Int) < lj := by omega
            have HO2 := Lib.hid (HOK2.out ⟨by rw [HLJ.out, HL0.out]; exact h1, by rw [HLJ.out]; omega, by rw [HLJ.out]; omega⟩)
            clear h1 h2 h3
            go_wp2
            go_roundg (n - (j + 1))
            case measure => omega
            case rel => exact ⟨j + 1, by omega, by go_num, HO2.out, rfl⟩
      · have hr := HNO.out (fun h => h1 h.1)
        subst hr
        have e1 : ((lj : Int) != (l0 : Int)) = true := by rw [bne_iff_ne]; omega
        clear h1
        go_wp2
        go_ret
        exact ⟨rfl, rfl⟩
    · obtain rfl : j = n := by omega
      have hr : res = true := by rw [← HRES.out]; exact eqB_yes (fun k hk => HOK.out k (by rw [HN.out] at hk; exact hk))
      subst hr
      go_wp2
      go_ret
      exact ⟨rfl, rfl⟩
end Go.Proofs.Ytpfnamiacagocaa
