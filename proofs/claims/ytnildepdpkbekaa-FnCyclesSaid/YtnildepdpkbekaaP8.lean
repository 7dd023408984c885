/- Plain facts on the cycles of a row. No program here. -/
import Derived.Test.YtnildepdpkbekaaP7
namespace Go.Proofs.Ytnildepdpkbekaa

structure IsPer (n : Nat) (f : Nat → Nat) (i m : Nat) : Prop where
  pos : 1 ≤ m
  le : m ≤ n
  back : orb n f i m = i
  least : ∀ j, 1 ≤ j → j < m → orb n f i j ≠ i
theorem per_exists {n : Nat} {f : Nat → Nat} (h : IsRow n f) {i : Nat} (hi : i < n) : ∃ m, IsPer n f i m := by
  obtain ⟨m0, h1, h2, h3⟩ := orb_returns h hi
  obtain ⟨m, ⟨p1, p2⟩, p3⟩ := least_of (p := fun m => 1 ≤ m ∧ orb n f i m = i) ⟨m0, h1, h3⟩
  refine ⟨m, p1, ?_, p2, fun j hj hjm e => p3 j hjm ⟨hj, e⟩⟩
  by_cases hle : m ≤ m0
  · omega
  · exact absurd ⟨h1, h3⟩ (p3 m0 (by omega))
open Classical in
noncomputable def perN (n : Nat) (f : Nat → Nat) (i : Nat) : Nat := if h : ∃ m, IsPer n f i m then Classical.choose h else 1
theorem perN_spec {n : Nat} {f : Nat → Nat} (h : IsRow n f) {i : Nat} (hi : i < n) : IsPer n f i (perN n f i) := by
  unfold perN
  rw [dif_pos (per_exists h hi)]
  exact Classical.choose_spec (per_exists h hi)
/-- the first k bells of the cycle from place i on -/
def cycTo (n : Nat) (f : Nat → Nat) (i k : Nat) : List Int := (List.range k).map fun j => ((orb n f i j + 1 : Nat) : Int)
noncomputable def cyc (n : Nat) (f : Nat → Nat) (i : Nat) : List Int := cycTo n f i (perN n f i)
theorem cycTo_len (n : Nat) (f : Nat → Nat) (i k : Nat) : (cycTo n f i k).length = k := by simp [cycTo]
theorem cycTo_succ (n : Nat) (f : Nat → Nat) (i k : Nat) : cycTo n f i (k + 1) = cycTo n f i k ++ [((orb n f i k + 1 : Nat) : Int)] := by simp [cycTo, List.range_succ]
theorem mem_cycTo {n : Nat} {f : Nat → Nat} {i k : Nat} {x : Int} : x ∈ cycTo n f i k ↔ ∃ j, j < k ∧ x = ((orb n f i j + 1 : Nat) : Int) := by
  simp only [cycTo, List.mem_map, List.mem_range]
  constructor
  · rintro ⟨j, h1, h2⟩; exact ⟨j, h1, h2.symm⟩
  · rintro ⟨j, h1, h2⟩; exact ⟨j, h1, h2.symm⟩
theorem cyc_new {n : Nat} {f : Nat → Nat} (h : IsRow n f) {i m : Nat} (hi : i < n) (hm : IsPer n f i m) {k : Nat} (hk : k < m) : ¬ ((orb n f i k + 1 : Nat) : Int) ∈ cycTo n f i k := by
  rw [mem_cycTo]
  rintro ⟨j, hj, e⟩
  have e' : orb n f i j = orb n f i (j + (k - j)) := by rw [show j + (k - j) = k by omega]; omega
  exact hm.least (k - j) (by omega) (by omega) (orb_back h hi j (k - j) e')
theorem cyc_back {n : Nat} {f : Nat → Nat} {i m : Nat} (hi : i < n) (hm : IsPer n f i m) : ((orb n f i m + 1 : Nat) : Int) ∈ cycTo n f i m := by
  rw [mem_cycTo]
  exact ⟨0, hm.pos, by rw [hm.back, orb_zero f hi]⟩
theorem fixed_per {n : Nat} {f : Nat → Nat} (h : IsRow n f) {i : Nat} (hi : i < n) : f i = 49 + i ↔ perN n f i = 1 := by
  have hp := perN_spec h hi
  have e1 : orb n f i 1 = f i - 49 := by
    have := orb_succ h hi 0
    rw [orb_zero f hi] at this
    exact this
  have := h.lo i hi
  constructor
  · intro e
    by_cases h1 : perN n f i = 1
    · exact h1
    · exact absurd (by rw [e1]; omega) (hp.least 1 (by omega) (by have := hp.pos; omega))
  · intro e
    have := hp.back
    rw [e, e1] at this
    omega
open Classical in
/-- the cycles that begin at the first i places, none at a place that is in one already or stays -/
noncomputable def cycs (n : Nat) (f : Nat → Nat) : Nat → List (List Int)
  | 0 => []
  | i + 1 => if ((i : Int) + 1) ∈ (cycs n f i).flatten ∨ f i = 49 + i then cycs n f i else cycs n f i ++ [cyc n f i]
theorem cycs_skip {n : Nat} {f : Nat → Nat} {i : Nat} (h : ((i : Int) + 1) ∈ (cycs n f i).flatten ∨ f i = 49 + i) : cycs n f (i + 1) = cycs n f i := by simp only [cycs, if_pos h]
theorem cycs_add {n : Nat} {f : Nat → Nat} {i : Nat} (h : ¬ (((i : Int) + 1) ∈ (cycs n f i).flatten ∨ f i = 49 + i)) : cycs n f (i + 1) = cycs n f i ++ [cyc n f i] := by simp only [cycs, if_neg h]
theorem cycs_len (n : Nat) (f : Nat → Nat) : ∀ i, (cycs n f i).length ≤ i
  | 0 => Nat.le_refl _
  | i + 1 => by
    have := cycs_len n f i
    unfold cycs
    split
    · omega
    · simp; omega
theorem cycs_all {n : Nat} {f : Nat → Nat} (h : IsRow n f) : ∀ i, i ≤ n → ∀ c, c ∈ cycs n f i → ∃ s, s < n ∧ c = cyc n f s
  | 0, _, c, hc => by simp [cycs] at hc
  | i + 1, hi, c, hc => by
    by_cases hd : ((i : Int) + 1) ∈ (cycs n f i).flatten ∨ f i = 49 + i
    · rw [cycs_skip hd] at hc
      exact cycs_all h i (by omega) c hc
    · rw [cycs_add hd, List.mem_append] at hc
      rcases hc with hc | hc
      · exact cycs_all h i (by omega) c hc
      · exact ⟨i, by omega, by simpa using hc⟩
theorem cyc_len_le {n : Nat} {f : Nat → Nat} (h : IsRow n f) {i : Nat} (hi : i < n) : (cyc n f i).length ≤ 8 := by
  have := (perN_spec h hi).le
  have := h.eight
  unfold cyc
  rw [cycTo_len]; omega
theorem flat_len {n : Nat} {f : Nat → Nat} (h : IsRow n f) : ∀ i, i ≤ n → (cycs n f i).flatten.length ≤ 8 * i
  | 0, _ => by simp [cycs]
  | i + 1, hi => by
    have ih := flat_len h i (by omega)
    by_cases hd : ((i : Int) + 1) ∈ (cycs n f i).flatten ∨ f i = 49 + i
    · rw [cycs_skip hd]; omega
    · rw [cycs_add hd, List.flatten_append]
      have := cyc_len_le h (show i < n by omega)
      simp only [List.length_append, List.flatten_cons, List.flatten_nil, List.append_nil]
      omega
end Go.Proofs.Ytnildepdpkbekaa
