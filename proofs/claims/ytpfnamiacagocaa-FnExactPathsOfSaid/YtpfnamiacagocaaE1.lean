/- Plain facts on paths: the place of a bell, the places in a lead, the cycle of place bells. No program here. -/
import Derived.Test.YtpfnamiacagocaaM10
namespace Go.Proofs.Ytpfnamiacagocaa

/-- the place of bell b in a row -/
def plc (n : Nat) (f : Nat → Nat) (b : Nat) : Nat := invF n f (b - 1) - 48
theorem plc_spec {n : Nat} {f : Nat → Nat} (h : IsRow n f) {b : Nat} (h1 : 1 ≤ b) (hn : b ≤ n) : 1 ≤ plc n f b ∧ plc n f b ≤ n ∧ f (plc n f b - 1) = 48 + b := by
  obtain ⟨i, hi, e1, e2⟩ := inv_spec h (b - 1) (by omega)
  unfold plc
  rw [e2]
  refine ⟨by omega, by omega, ?_⟩
  rw [show 49 + i - 48 - 1 = i by omega, e1]
  omega
theorem plc_uniq {n : Nat} {f : Nat → Nat} (h : IsRow n f) {b i : Nat} (h1 : 1 ≤ b) (hn : b ≤ n) (hi : i < n) (e : f i = 48 + b) : plc n f b = i + 1 := by
  obtain ⟨p1, p2, p3⟩ := plc_spec h h1 hn
  have := h.inj (plc n f b - 1) i (by omega) hi (by rw [p3, e])
  omega
theorem inv_plc {n : Nat} {f : Nat → Nat} (h : IsRow n f) {j : Nat} (hj : j < n) : invF n f j = 48 + plc n f (j + 1) := by
  obtain ⟨i, hi, e1, e2⟩ := inv_spec h j hj
  have := plc_uniq h (show 1 ≤ j + 1 by omega) (by omega) hi (by omega)
  omega
theorem plc_rd {n : Nat} (h3 : 3 ≤ n) (h8 : n ≤ 8) {b : Nat} (h1 : 1 ≤ b) (hn : b ≤ n) : plc n (rdf n) b = b := by
  have := plc_uniq (isRow_rdf h3 h8) (i := b - 1) h1 hn (by omega) (by simp [rdf, show b - 1 < n by omega]; omega)
  omega

/-- the places of bell b in the rows of a lead and in what follows -/
def pathF (n : Nat) (cs : List (Nat → Nat)) (f : Nat → Nat) (b : Nat) : List Nat := (leadF n cs f ++ [endF n cs f]).map fun g => plc n g b
theorem pathF_len (n : Nat) (cs : List (Nat → Nat)) (f : Nat → Nat) (b : Nat) : (pathF n cs f b).length = cs.length + 1 := by simp [pathF, leadF_len]
theorem pathF_last (n : Nat) (cs : List (Nat → Nat)) (f : Nat → Nat) (b : Nat) : (pathF n cs f b).dropLast = (leadF n cs f).map fun g => plc n g b := by
  simp [pathF, List.map_append]
theorem pathF_mem {n : Nat} {cs : List (Nat → Nat)} {f : Nat → Nat} (hc : Rows n cs) (hf : IsRow n f) {b : Nat} (h1 : 1 ≤ b) (hn : b ≤ n) : ∀ x ∈ pathF n cs f b, 1 ≤ x ∧ x ≤ n := by
  intro x hx
  simp only [pathF, List.mem_map] at hx
  obtain ⟨g, hg, rfl⟩ := hx
  have hr : IsRow n g := by
    rcases List.mem_append.1 hg with h | h
    · exact rows_lead hc hf g h
    · rw [List.mem_singleton.1 h]; exact isRow_end hc hf
  have := plc_spec hr h1 hn
  exact ⟨this.1, this.2.1⟩

structure IsPer (n : Nat) (f : Nat → Nat) (i m : Nat) : Prop where
  pos : 1 ≤ m
  le : m ≤ n
  back : orb n f i m = i
  least : ∀ j, 1 ≤ j → j < m → orb n f i j ≠ i
theorem per_exists {n : Nat} {f : Nat → Nat} (h : IsRow n f) {i : Nat} (hi : i < n) : ∃ m, IsPer n f i m := by
  obtain ⟨m0, h1, h2, h3⟩ := orb_returns h hi
  obtain ⟨m, ⟨p1, p2⟩, p3⟩ := least_of (p := fun m => 1 ≤ m ∧ orb n f i m = i) ⟨m0, h1, h3⟩
  refine ⟨m, p1, ?_, p2, fun j hj hjm e => p3 j hjm ⟨hj, e⟩⟩
  by_cases hle : m ≤ m0
  · omega
  · exact absurd ⟨h1, h3⟩ (p3 m0 (by omega))
open Classical in
noncomputable def perN (n : Nat) (f : Nat → Nat) (i : Nat) : Nat := if h : ∃ m, IsPer n f i m then Classical.choose h else 1
theorem perN_spec {n : Nat} {f : Nat → Nat} (h : IsRow n f) {i : Nat} (hi : i < n) : IsPer n f i (perN n f i) := by
  unfold perN
  rw [dif_pos (per_exists h hi)]
  exact Classical.choose_spec (per_exists h hi)
/-- the first k bells of the cycle from place i on -/
def cycTo (n : Nat) (f : Nat → Nat) (i k : Nat) : List Int := (List.range k).map fun j => ((orb n f i j + 1 : Nat) : Int)
noncomputable def cyc (n : Nat) (f : Nat → Nat) (i : Nat) : List Int := cycTo n f i (perN n f i)
theorem cycTo_len (n : Nat) (f : Nat → Nat) (i k : Nat) : (cycTo n f i k).length = k := by simp [cycTo]
theorem cycTo_succ (n : Nat) (f : Nat → Nat) (i k : Nat) : cycTo n f i (k + 1) = cycTo n f i k ++ [((orb n f i k + 1 : Nat) : Int)] := by simp [cycTo, List.range_succ]
end Go.Proofs.Ytpfnamiacagocaa
