/- Plain facts on turned rows: no program here. -/
import Derived.Test.YtnildepdpkbekaaP1
namespace Go.Proofs.Ytnildepdpkbekaa

def setF (h : Nat → Nat) (k v : Nat) (i : Nat) : Nat := if i = k then v else h i
/-- the first k of h, zeros behind -/
def cutF (k : Nat) (h : Nat → Nat) (i : Nat) : Nat := if i < k then h i else 0
theorem cutF_succ (k : Nat) (h : Nat → Nat) : setF (cutF k h) k (h k) = cutF (k + 1) h := by
  funext i
  unfold setF cutF
  by_cases e : i = k
  · subst e; simp
  · by_cases e2 : i < k
    · simp [e, e2, show i < k + 1 by omega]
    · simp [e, e2, show ¬ i < k + 1 by omega]

/-- each of the first k digits of f has put its place to where it points -/
def fill (f v : Nat → Nat) : Nat → Nat → Nat
  | 0 => v
  | k + 1 => setF (fill f v k) (f k - 49) (49 + k)

theorem fill_hit (f v : Nat → Nat) (k j : Nat) (h : ∃ i, i < k ∧ f i - 49 = j) : ∃ i, i < k ∧ f i - 49 = j ∧ fill f v k j = 49 + i := by
  induction k with
  | zero => obtain ⟨i, hi, _⟩ := h; omega
  | succ k ih =>
    by_cases e : f k - 49 = j
    · exact ⟨k, by omega, e, by simp [fill, setF, e]⟩
    · obtain ⟨i, hi, hj⟩ := h
      have hik : i ≠ k := fun q => e (q ▸ hj)
      obtain ⟨m, hm, h1, h2⟩ := ih ⟨i, by omega, hj⟩
      exact ⟨m, by omega, h1, by simp [fill, setF, show j ≠ f k - 49 from fun q => e q.symm, h2]⟩
theorem fill_free (f v : Nat → Nat) (k j : Nat) (h : ∀ i, i < k → f i - 49 ≠ j) : fill f v k j = v j := by
  induction k with
  | zero => rfl
  | succ k ih =>
    have := h k (by omega)
    simp [fill, setF, show j ≠ f k - 49 from fun q => this q.symm, ih (fun i hi => h i (by omega))]

/-- no room: numbers below n that are all different, n of them, leave none out -/
theorem pigeon : ∀ (n : Nat) (f : Nat → Nat), (∀ i, i < n → f i < n) → (∀ i j, i < n → j < n → f i = f j → i = j) → ∀ y, y < n → ∃ i, i < n ∧ f i = y
  | 0, _, _, _, y, hy => by omega
  | n + 1, f, hb, hi, y, hy => by
    -- swap the value n away
    by_cases hn : ∃ i, i < n + 1 ∧ f i = n
    · obtain ⟨i0, hi0, hfi0⟩ := hn
      by_cases hyn : y = n
      · exact ⟨i0, hi0, by omega⟩
      · -- g: f with place i0 replaced by the last place
        have ih := pigeon n (fun i => if i = i0 then f n else f i) (fun i hin => by
            have h1 := hb i (by omega)
            have h2 := hb n (by omega)
            try dsimp only
            split
            · rename_i e
              by_cases q : f n = n
              · have := hi n i0 (by omega) hi0 (by omega); omega
              · omega
            · rename_i e
              by_cases q : f i = n
              · have := hi i i0 (by omega) hi0 (by omega); omega
              · omega) (fun i j hin hjn e => by
            try dsimp only at e
            split at e <;> split at e
            · omega
            · have := hi n j (by omega) (by omega) e; omega
            · have := hi i n (by omega) (by omega) e; omega
            · exact hi i j (by omega) (by omega) e) y (by omega)
        obtain ⟨i, hin, hfi⟩ := ih
        try dsimp only at hfi
        split at hfi
        · exact ⟨n, by omega, hfi⟩
        · exact ⟨i, by omega, hfi⟩
    · have hlt : ∀ i, i < n + 1 → f i < n := fun i hin => by
        have h1 := hb i hin
        by_cases q : f i = n
        · exact absurd ⟨i, hin, q⟩ hn
        · omega
      -- n + 1 numbers below n: two are the same
      have ih := pigeon n f (fun i hin => hlt i (by omega)) (fun i j a b c => hi i j (by omega) (by omega) c) (f n) (hlt n (by omega))
      obtain ⟨i, hin, hfi⟩ := ih
      have := hi i n (by omega) (by omega) hfi
      omega

theorem IsRow.inj {n : Nat} {f : Nat → Nat} (h : IsRow n f) (i j : Nat) (hi : i < n) (hj : j < n) (e : f i = f j) : i = j := by
  by_cases h1 : i < j
  · exact absurd e ((h.ok j hj).2.2 i h1)
  · by_cases h2 : j < i
    · exact absurd e.symm ((h.ok i hi).2.2 j h2)
    · omega
theorem IsRow.lo {n : Nat} {f : Nat → Nat} (h : IsRow n f) (i : Nat) (hi : i < n) : 49 ≤ f i := (h.ok i hi).1
theorem IsRow.hi {n : Nat} {f : Nat → Nat} (h : IsRow n f) (i : Nat) (hi : i < n) : f i ≤ 48 + n := (h.ok i hi).2.1
theorem IsRow.onto {n : Nat} {f : Nat → Nat} (h : IsRow n f) (j : Nat) (hj : j < n) : ∃ i, i < n ∧ f i - 49 = j :=
  pigeon n (fun i => f i - 49) (fun i hi => by have := h.lo i hi; have := h.hi i hi; omega)
    (fun i k hi hk e => h.inj i k hi hk (by have := h.lo i hi; have := h.lo k hk; omega)) j hj
theorem isRow_mk {n : Nat} {f : Nat → Nat} (h3 : 3 ≤ n) (h8 : n ≤ 8) (lo : ∀ i, i < n → 49 ≤ f i) (hi : ∀ i, i < n → f i ≤ 48 + n) (inj : ∀ i j, i < n → j < n → f i = f j → i = j) (z : ∀ i, n ≤ i → f i = 0) : IsRow n f :=
  ⟨h3, h8, fun i hin => ⟨lo i hin, hi i hin, fun j hj e => by have := inj j i (by omega) hin e; omega⟩, z⟩

/-- the turned row -/
def invF (n : Nat) (f : Nat → Nat) : Nat → Nat := cutF n (fill f (fun _ => 0) n)
theorem fill_inv {n : Nat} {f : Nat → Nat} (h : IsRow n f) (v : Nat → Nat) (j : Nat) (hj : j < n) : fill f v n j = invF n f j := by
  obtain ⟨i, hi, h1, h2⟩ := fill_hit f v n j (h.onto j hj)
  obtain ⟨k, hk, h3, h4⟩ := fill_hit f (fun _ => 0) n j (h.onto j hj)
  have : i = k := h.inj i k hi hk (by have := h.lo i hi; have := h.lo k hk; omega)
  subst this
  simp only [invF, cutF, hj, if_true, h2, h4]
theorem inv_spec {n : Nat} {f : Nat → Nat} (h : IsRow n f) (j : Nat) (hj : j < n) : ∃ i, i < n ∧ f i = 49 + j ∧ invF n f j = 49 + i := by
  obtain ⟨i, hi, h1, h2⟩ := fill_hit f (fun _ => 0) n j (h.onto j hj)
  exact ⟨i, hi, by have := h.lo i hi; omega, by simp only [invF, cutF, hj, if_true, h2]⟩
theorem isRow_inv {n : Nat} {f : Nat → Nat} (h : IsRow n f) : IsRow n (invF n f) := by
  refine isRow_mk h.three h.eight (fun j hj => ?_) (fun j hj => ?_) (fun j k hj hk e => ?_) (fun i hi => by simp [invF, cutF]; omega)
  · obtain ⟨i, _, _, e⟩ := inv_spec h j hj; omega
  · obtain ⟨i, _, _, e⟩ := inv_spec h j hj; omega
  · obtain ⟨i, _, e1, e2⟩ := inv_spec h j hj
    obtain ⟨m, _, e3, e4⟩ := inv_spec h k hk
    have : i = m := by omega
    subst this; omega

/-- products as whole rows -/
def mulR (n : Nat) (f g : Nat → Nat) : Nat → Nat := cutF n (mulF f g)
theorem isRow_mul {n : Nat} {f g : Nat → Nat} (hf : IsRow n f) (hg : IsRow n g) : IsRow n (mulR n f g) := by
  have hlt : ∀ i, i < n → g i - 49 < n := fun i hi => by have := hg.lo i hi; have := hg.hi i hi; omega
  refine isRow_mk hf.three hf.eight (fun j hj => ?_) (fun j hj => ?_) (fun j k hj hk e => ?_) (fun i hi => by simp [mulR, cutF]; omega)
  · simp only [mulR, cutF, hj, if_true, mulF]; exact hf.lo _ (hlt j hj)
  · simp only [mulR, cutF, hj, if_true, mulF]; exact hf.hi _ (hlt j hj)
  · simp only [mulR, cutF, hj, hk, if_true, mulF] at e
    have := hf.inj _ _ (hlt j hj) (hlt k hk) e
    exact hg.inj j k hj hk (by have := hg.lo j hj; have := hg.lo k hk; omega)
theorem mulR_at {n : Nat} (f g : Nat → Nat) {i : Nat} (hi : i < n) : mulR n f g i = f (g i - 49) := by simp only [mulR, cutF, hi, if_true, mulF]
theorem row_ext {n : Nat} {f g : Nat → Nat} (hf : IsRow n f) (hg : IsRow n g) (h : ∀ i, i < n → f i = g i) : f = g := by
  funext i
  by_cases hi : i < n
  · exact h i hi
  · rw [hf.zero i (by omega), hg.zero i (by omega)]
theorem mulR_assoc {n : Nat} {f g h : Nat → Nat} (hf : IsRow n f) (hg : IsRow n g) (hh : IsRow n h) : mulR n (mulR n f g) h = mulR n f (mulR n g h) := by
  refine row_ext (isRow_mul (isRow_mul hf hg) hh) (isRow_mul hf (isRow_mul hg hh)) (fun i hi => ?_)
  have hlt : h i - 49 < n := by have := hh.lo i hi; have := hh.hi i hi; omega
  rw [mulR_at _ _ hi, mulR_at _ _ hi, mulR_at _ _ hlt, mulR_at _ _ hi]

/-- rounds -/
def rdf (n : Nat) (i : Nat) : Nat := if i < n then 49 + i else 0
theorem isRow_rdf {n : Nat} (h3 : 3 ≤ n) (h8 : n ≤ 8) : IsRow n (rdf n) :=
  isRow_mk h3 h8 (fun i hi => by simp [rdf, hi]) (fun i hi => by simp [rdf, hi]; omega) (fun i j hi hj e => by simp [rdf, hi, hj] at e; exact e) (fun i hi => by simp [rdf]; omega)
theorem mul_rounds {n : Nat} {f : Nat → Nat} (h : IsRow n f) : mulR n f (rdf n) = f := by
  refine row_ext (isRow_mul h (isRow_rdf h.three h.eight)) h (fun i hi => ?_)
  rw [mulR_at _ _ hi]; simp [rdf, hi]
theorem rounds_mul {n : Nat} {f : Nat → Nat} (h : IsRow n f) : mulR n (rdf n) f = f := by
  refine row_ext (isRow_mul (isRow_rdf h.three h.eight) h) h (fun i hi => ?_)
  have := h.lo i hi
  have := h.hi i hi
  rw [mulR_at _ _ hi]; simp [rdf, show f i - 49 < n by omega]; omega
theorem mul_inv {n : Nat} {f : Nat → Nat} (h : IsRow n f) : mulR n f (invF n f) = rdf n := by
  refine row_ext (isRow_mul h (isRow_inv h)) (isRow_rdf h.three h.eight) (fun j hj => ?_)
  obtain ⟨i, _, e1, e2⟩ := inv_spec h j hj
  rw [mulR_at _ _ hj, e2, show 49 + i - 49 = i by omega, e1]; simp [rdf, hj]
theorem inv_mul {n : Nat} {f : Nat → Nat} (h : IsRow n f) : mulR n (invF n f) f = rdf n := by
  refine row_ext (isRow_mul (isRow_inv h) h) (isRow_rdf h.three h.eight) (fun j hj => ?_)
  have h1 := h.lo j hj
  have h2 := h.hi j hj
  obtain ⟨i, hi, e1, e2⟩ := inv_spec h (f j - 49) (by omega)
  have : i = j := h.inj i j hi hj (by omega)
  subst this
  rw [mulR_at _ _ hj, e2]; simp [rdf, hj]
end Go.Proofs.Ytnildepdpkbekaa
