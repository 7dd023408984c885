/- What is so of lists of rows: repeats and truth, truth kept by multiplication and turning, counts. -/
import Derived.Test.YtnoepobbecobbaaUB
import Derived.Test.YtnoepobbecobbaaUC
namespace Go.Proofs.Ytnoepobbecobbaa
open Go.RowKit
set_option linter.unusedSimpArgs false
set_option linter.unusedVariables false

theorem rowP_mem {fs : List (Nat → Nat)} {i : Nat} : ∀ k, k ≤ fs.length → ∀ x ∈ rowP fs i k, ∃ j, i < j ∧ j < k ∧ x = [i, j] ∧ fs[i]? = fs[j]?
  | 0, _, x, hx => by simp [rowP] at hx
  | k + 1, hk, x, hx => by
    by_cases h : i < k ∧ fs[i]? = fs[k]?
    · rw [rowP_yes h.1 h.2] at hx
      rcases List.mem_append.1 hx with hx | hx
      · obtain ⟨j, h1, h2, h3⟩ := rowP_mem k (by omega) x hx
        exact ⟨j, h1, by omega, h3⟩
      · simp at hx
        exact ⟨k, h.1, by omega, hx, h.2⟩
    · rw [rowP_skip h] at hx
      obtain ⟨j, h1, h2, h3⟩ := rowP_mem k (by omega) x hx
      exact ⟨j, h1, by omega, h3⟩
theorem rowP_has {fs : List (Nat → Nat)} {i j : Nat} (hij : i < j) (e : fs[i]? = fs[j]?) : ∀ k, j < k → [i, j] ∈ rowP fs i k
  | 0, h => by omega
  | k + 1, h => by
    by_cases hjk : j = k
    · subst hjk
      rw [rowP_yes hij e]
      simp
    · have := rowP_has hij e k (by omega)
      obtain ⟨t, ht⟩ := rowP_more (fs := fs) (i := i) (k := k) 1
      rw [ht]
      exact List.mem_append_left _ this
theorem allP_mem {fs : List (Nat → Nat)} : ∀ m, ∀ x ∈ allP fs m, ∃ i j, i < j ∧ j < fs.length ∧ x = [i, j] ∧ fs[i]? = fs[j]?
  | 0, x, hx => by simp [allP] at hx
  | m + 1, x, hx => by
    rcases List.mem_append.1 (show x ∈ allP fs m ++ rowP fs m fs.length from hx) with h | h
    · exact allP_mem m x h
    · obtain ⟨j, h1, h2, h3, h4⟩ := rowP_mem fs.length (Nat.le_refl _) x h
      exact ⟨m, j, h1, h2, h3, h4⟩
theorem allP_has {fs : List (Nat → Nat)} {i j : Nat} (hij : i < j) (hj : j < fs.length) (e : fs[i]? = fs[j]?) : ∀ m, i < m → [i, j] ∈ allP fs m
  | 0, h => by omega
  | m + 1, h => by
    show [i, j] ∈ allP fs m ++ rowP fs m fs.length
    by_cases him : i = m
    · subst him
      exact List.mem_append_right _ (rowP_has hij e _ hj)
    · exact List.mem_append_left _ (allP_has hij hj e m (by omega))
/-- each pair told is one of equal rows -/
theorem repF_mem {fs : List (Nat → Nat)} {x : List Nat} (h : x ∈ repF fs) : ∃ i j, ∃ hi : i < fs.length, ∃ hj : j < fs.length, i < j ∧ x = [i, j] ∧ fs[i] = fs[j] := by
  obtain ⟨i, j, h1, h2, h3, h4⟩ := allP_mem _ x (List.mem_of_mem_take h)
  have hi : i < fs.length := by omega
  rw [List.getElem?_eq_getElem hi, List.getElem?_eq_getElem h2] at h4
  exact ⟨i, j, hi, h2, h1, h3, Option.some.inj h4⟩
theorem repF_len (fs : List (Nat → Nat)) : (repF fs).length ≤ 100 := by
  unfold repF
  rw [List.length_take]
  omega
/-- a list is true if no pair is told -/
theorem nodB_rep (fs : List (Nat → Nat)) : nodB fs = decide ((repF fs).length = 0) := by
  rw [Bool.eq_iff_iff, nodB_iff, decide_eq_true_iff]
  constructor
  · intro h
    have : repF fs = [] := List.eq_nil_iff_forall_not_mem.2 fun x hx => by
      obtain ⟨i, j, hi, hj, hij, -, e⟩ := repF_mem hx
      exact List.pairwise_iff_getElem.1 h i j hi hj hij e
    rw [this]
    rfl
  · intro h
    have hz : allP fs fs.length = [] := by
      unfold repF at h
      rw [List.length_take] at h
      exact List.eq_nil_of_length_eq_zero (by omega)
    unfold List.Nodup
    rw [List.pairwise_iff_getElem]
    intro i j hi hj hij e
    have := allP_has hij hj (by rw [List.getElem?_eq_getElem hi, List.getElem?_eq_getElem hj, e]) fs.length hi
    rw [hz] at this
    simp at this
/-- truth is kept by multiplication on the left and by turning -/
theorem nodB_map {n : Nat} {a : Nat → Nat} (ha : IsRow n a) {fs : List (Nat → Nat)} (hr : Rows n fs) : nodB (fs.map (mulR n a)) = nodB fs := by
  rw [Bool.eq_iff_iff, nodB_iff, nodB_iff]
  constructor
  · intro h
    have h2 : (fs.map (mulR n a)).Pairwise (· ≠ ·) := h
    rw [List.pairwise_map] at h2
    exact h2.imp fun {x y} h e => h (by rw [e])
  · exact map_nodup ha hr
theorem nodB_turn (fs : List (Nat → Nat)) (k : Nat) : nodB (fs.drop k ++ fs.take k) = nodB fs := by
  refine nodB_perm ?_
  have := List.perm_append_comm (l₁ := fs.drop k) (l₂ := fs.take k)
  rwa [List.take_append_drop] at this
/-- the counts add up -/
theorem sum_set : ∀ (xs : List Int) (p : Nat) (h : p < xs.length), (xs.set p (xs[p] + 1)).sum = xs.sum + 1
  | [], p, h => by simp at h
  | x :: xs, 0, h => by simp; omega
  | x :: xs, p + 1, h => by
    have := sum_set xs p (by simpa using h)
    simp at this ⊢
    omega
theorem sum_zero : ∀ k : Nat, (List.replicate k (0 : Int)).sum = 0
  | 0 => rfl
  | k + 1 => by rw [List.replicate_succ, List.sum_cons, sum_zero k]; rfl
theorem cnts_take (n : Nat) (fs : List (Nat → Nat)) : ∀ j, j ≤ fs.length → (cnts n (fs.take j)).sum = (j : Int)
  | 0, _ => by rw [List.take_zero, cnts_nil, sum_zero]; rfl
  | j + 1, hj => by
    have h1 := cnts_take n fs j (by omega)
    have hlt : plR n (fs[j]'(by omega)) < (cnts n (fs.take j)).length := by rw [cnts_len]; exact plR_lt n _
    have h2 := sum_set (cnts n (fs.take j)) (plR n (fs[j]'(by omega))) hlt
    rw [cnts_at, cnts_set, h1] at h2
    rw [List.take_add_one, List.getElem?_eq_getElem (show j < fs.length by omega)]
    show (cnts n (fs.take j ++ [fs[j]])).sum = _
    rw [h2]
    omega
theorem cnts_sum (n : Nat) (fs : List (Nat → Nat)) : (cnts n fs).sum = (fs.length : Int) := by
  have := cnts_take n fs fs.length (Nat.le_refl _)
  rwa [List.take_length] at this
/-- as many places are empty as rows are missing -/
theorem cnts_zero (n : Nat) (fs : List (Nat → Nat)) : ((cnts n fs).filter fun x => x == 0).length = (missF n fs (fact n)).length := by
  unfold cnts missF
  rw [List.length_map, List.filter_map, List.length_map]
  congr 1
  refine List.filter_congr fun p _ => ?_
  simp only [Function.comp]
  rw [Bool.eq_iff_iff, beq_iff_eq, beq_iff_eq]
  omega
/-- a level list misses no row, unless it is empty -/
theorem lev_none {n : Nat} {fs : List (Nat → Nat)} (h0 : 0 < fs.length) (hl : levB (cnts n fs) = true) : (missF n fs (fact n)).length = 0 := by
  rw [← cnts_zero]
  have hall := List.all_eq_true.1 hl
  have hsum := cnts_sum n fs
  refine List.length_eq_zero_iff.2 (List.filter_eq_nil_iff.2 fun x hx h => ?_)
  rw [beq_iff_eq] at h
  have hx0 := beq_iff_eq.1 (hall x hx)
  have hz : ∀ y ∈ cnts n fs, y = 0 := fun y hy => by
    have := beq_iff_eq.1 (hall y hy)
    rw [this, ← hx0, h]
  have key : ∀ xs : List Int, (∀ y ∈ xs, y = 0) → xs.sum = 0 := by
    intro xs
    induction xs with
    | nil => intro _; rfl
    | cons x xs ih =>
      intro h
      rw [List.sum_cons, h x List.mem_cons_self, ih fun y hy => h y (List.mem_cons_of_mem _ hy)]
      rfl
  rw [key _ hz] at hsum
  omega
end Go.Proofs.Ytnoepobbecobbaa
