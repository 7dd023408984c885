/- Plain facts: the row of a rank has that rank, greater ranks have greater rows; places moved and places that stay. No program here. -/
import Derived.Test.YtnildepdpkbekaaP9
import Derived.Sort.Walk0
namespace Go.Proofs.Ytnildepdpkbekaa

theorem cntLt_congr {f g : Nat → Nat} (v lo : Nat) : ∀ len, (∀ i, lo ≤ i → i < lo + len → f i = g i) → cntLt f v lo len = cntLt g v lo len
  | 0, _ => rfl
  | len + 1, h => by
    unfold cntLt
    rw [cntLt_congr v lo len (fun i h1 h2 => h i h1 (by omega)), h (lo + len) (by omega) (by omega)]
theorem cntLt_shift (f : Nat → Nat) (v lo : Nat) : ∀ len, cntLt f v (lo + 1) len = cntLt (fun i => f (i + 1)) v lo len
  | 0 => rfl
  | len + 1 => by
    unfold cntLt
    rw [cntLt_shift f v lo len, show lo + 1 + len = lo + len + 1 by omega]
theorem cntLt_first (f : Nat → Nat) (v : Nat) : ∀ len, cntLt f v 0 (len + 1) = cntLt f v 1 len + if f 0 < v then 1 else 0
  | 0 => rfl
  | len + 1 => by
    show cntLt f v 0 (len + 1) + _ = cntLt f v 1 len + _ + _
    rw [cntLt_first f v len, show 0 + (len + 1) = 1 + len by omega]; omega
theorem cntLt_drop (h : Nat → Nat) (v p : Nat) : ∀ m, p < m + 1 → cntLt (dropF h p) v 0 m + (if h p < v then 1 else 0) = cntLt h v 0 (m + 1)
  | 0, hp => by obtain rfl : p = 0 := by omega
                rfl
  | m + 1, hp => by
    by_cases e : p = m + 1
    · subst e
      show cntLt (dropF h (m + 1)) v 0 (m + 1) + _ = cntLt h v 0 (m + 1) + (if h (0 + (m + 1)) < v then 1 else 0)
      rw [Nat.zero_add, cntLt_congr (g := h) v 0 (m + 1) (fun i _ h2 => by simp only [dropF, show i < m + 1 by omega, if_true])]
    · have ih := cntLt_drop h v p m (by omega)
      show cntLt (dropF h p) v 0 m + (if dropF h p (0 + m) < v then 1 else 0) + _ = cntLt h v 0 (m + 1) + (if h (0 + (m + 1)) < v then 1 else 0)
      rw [Nat.zero_add, Nat.zero_add, show dropF h p m = h (m + 1) by simp only [dropF, show ¬ m < p by omega, if_false]]
      omega

theorem leftK_next (m k : Nat) : ∀ j, leftK (m + 1) k (j + 1) = leftK m (k % fact m) j
  | 0 => rfl
  | j + 1 => by
    show leftK (m + 1) k (j + 1) % fact (m + 1 - (j + 1 + 1)) = leftK m (k % fact m) j % fact (m - (j + 1))
    rw [leftK_next m k j, show m + 1 - (j + 1 + 1) = m - (j + 1) by omega]
theorem leftH_next (m k : Nat) (h : Nat → Nat) : ∀ j, leftH (m + 1) k h (j + 1) = leftH m (k % fact m) (dropF h (k / fact m)) j
  | 0 => rfl
  | j + 1 => by
    show dropF (leftH (m + 1) k h (j + 1)) (leftK (m + 1) k (j + 1) / fact (m + 1 - (j + 1 + 1))) = dropF (leftH m (k % fact m) _ j) (leftK m (k % fact m) j / fact (m - (j + 1)))
    rw [leftH_next m k h j, leftK_next, show m + 1 - (j + 1 + 1) = m - (j + 1) by omega]
theorem pick_zero (m k : Nat) (h : Nat → Nat) : pickAt (m + 1) k h 0 = h (k / fact m) := rfl
theorem pick_next (m k : Nat) (h : Nat → Nat) (j : Nat) : pickAt (m + 1) k h (j + 1) = pickAt m (k % fact m) (dropF h (k / fact m)) j := by
  unfold pickAt
  rw [leftH_next, leftK_next, show m + 1 - (j + 1 + 1) = m - (j + 1) by omega]
theorem rank_lt {m k : Nat} (hk : k < fact (m + 1)) : k / fact m < m + 1 := Nat.div_lt_of_lt_mul hk

theorem cnt_pick (v : Nat) : ∀ (m k : Nat) (h : Nat → Nat), k < fact m → cntLt (pickAt m k h) v 0 m = cntLt h v 0 m
  | 0, _, _, _ => rfl
  | m + 1, k, h, hk => by
    rw [cntLt_first, cntLt_shift, ← cntLt_drop h v (k / fact m) m (rank_lt hk), pick_zero]
    have e : cntLt (fun i => pickAt (m + 1) k h (i + 1)) v 0 m = cntLt (pickAt m (k % fact m) (dropF h (k / fact m))) v 0 m := cntLt_congr v 0 m fun i _ _ => pick_next m k h i
    rw [e, cnt_pick v m (k % fact m) _ (Nat.mod_lt _ (fact_pos m))]

/-- the first m digits go up -/
def Inc (m : Nat) (h : Nat → Nat) : Prop := ∀ i j, i < j → j < m → h i < h j
theorem inc_drop {m : Nat} {h : Nat → Nat} (hi : Inc (m + 1) h) (p : Nat) : Inc m (dropF h p) := by
  intro i j hij hj
  unfold dropF
  split <;> split
  · exact hi i j hij (by omega)
  · exact hi i (j + 1) (by omega) (by omega)
  · omega
  · exact hi (i + 1) (j + 1) (by omega) (by omega)
theorem inc_ne {m : Nat} {h : Nat → Nat} (hi : Inc (m + 1) h) {p : Nat} (hp : p < m + 1) (t : Nat) (ht : t < m) : dropF h p t ≠ h p := by
  unfold dropF
  split
  · have := hi t p (by omega) hp; omega
  · have := hi p (t + 1) (by omega) (by omega); omega
theorem cnt_inc {m : Nat} {h : Nat → Nat} (hi : Inc m h) {p : Nat} (hp : p < m) : ∀ len, len ≤ m → cntLt h (h p) 0 len = if len ≤ p then len else p
  | 0, _ => by simp [cntLt]
  | len + 1, hl => by
    have ih := cnt_inc hi hp len (by omega)
    show cntLt h (h p) 0 len + (if h (0 + len) < h p then 1 else 0) = _
    rw [ih, Nat.zero_add]
    by_cases h1 : len < p
    · have := hi len p h1 hp
      rw [if_pos (by omega), if_pos this, if_pos (by omega)]
    · have : ¬ h len < h p := by
        by_cases e : len = p
        · subst e; omega
        · have := hi p len (by omega) (by omega); omega
      rw [if_neg this]
      split <;> split <;> omega
theorem lessAt_zero {m k : Nat} {h : Nat → Nat} (hi : Inc (m + 1) h) (hk : k < fact (m + 1)) : lessAt (pickAt (m + 1) k h) (m + 1) 0 = k / fact m := by
  have h1 := cnt_pick (h (k / fact m)) (m + 1) k h hk
  rw [cntLt_first, pick_zero, if_neg (Nat.lt_irrefl _), cnt_inc hi (rank_lt hk) (m + 1) (Nat.le_refl _), if_neg (by have := rank_lt hk; omega)] at h1
  exact h1
theorem lessAt_next (m k : Nat) (h : Nat → Nat) (i : Nat) : lessAt (pickAt (m + 1) k h) (m + 1) (i + 1) = lessAt (pickAt m (k % fact m) (dropF h (k / fact m))) m i := by
  unfold lessAt
  rw [cntLt_shift, pick_next, show m + 1 - (i + 1 + 1) = m - (i + 1) by omega]
  exact cntLt_congr _ _ _ fun t _ _ => pick_next m k h t
theorem placeA_next (m k : Nat) (h : Nat → Nat) : ∀ j, placeA (pickAt (m + 1) k h) (m + 1) (j + 1) = lessAt (pickAt (m + 1) k h) (m + 1) 0 * fact m + placeA (pickAt m (k % fact m) (dropF h (k / fact m))) m j
  | 0 => by
    show 0 + _ * fact (m + 1 - 1) = _ + 0
    rw [Nat.zero_add]; rfl
  | j + 1 => by
    show placeA (pickAt (m + 1) k h) (m + 1) (j + 1) + lessAt (pickAt (m + 1) k h) (m + 1) (j + 1) * fact (m + 1 - (j + 1 + 1)) = _ + (placeA _ m j + lessAt _ m j * fact (m - (j + 1)))
    rw [placeA_next m k h j, lessAt_next, show m + 1 - (j + 1 + 1) = m - (j + 1) by omega]; omega
theorem place_pick : ∀ (m k : Nat) (h : Nat → Nat), Inc m h → k < fact m → placeA (pickAt m k h) m m = k
  | 0, k, _, _, hk => by
    have : fact 0 = 1 := rfl
    show 0 = k
    omega
  | m + 1, k, h, hi, hk => by
    rw [placeA_next, lessAt_zero hi hk, place_pick m _ _ (inc_drop hi _) (Nat.mod_lt _ (fact_pos m)), Nat.mul_comm]
    exact Nat.div_add_mod k (fact m)
theorem pick_inj : ∀ (m k : Nat) (h : Nat → Nat), Inc m h → k < fact m → ∀ i j, i < j → j < m → pickAt m k h i ≠ pickAt m k h j
  | 0, _, _, _, _, i, j, _, hj => by omega
  | m + 1, k, h, hi, hk, i, j + 1, hij, hj => by
    rw [pick_next]
    cases i with
    | zero =>
      rw [pick_zero]
      exact Ne.symm (pickAt_ok (P := fun x => x ≠ h (k / fact m)) (Nat.mod_lt _ (fact_pos m)) (inc_ne hi (rank_lt hk)) j (by omega))
    | succ i =>
      rw [pick_next]
      exact pick_inj m _ _ (inc_drop hi _) (Nat.mod_lt _ (fact_pos m)) i j (by omega) (by omega)
/-- the first digit that is not the same is less -/
def LexLt (m : Nat) (f g : Nat → Nat) : Prop := ∃ j, j < m ∧ (∀ i, i < j → f i = g i) ∧ f j < g j
theorem pick_lex : ∀ (m k q : Nat) (h : Nat → Nat), Inc m h → k < q → q < fact m → LexLt m (pickAt m k h) (pickAt m q h)
  | 0, k, q, _, _, hkq, hq => by
    have : fact 0 = 1 := rfl
    omega
  | m + 1, k, q, h, hi, hkq, hq => by
    by_cases e : k / fact m = q / fact m
    · have h1 := Nat.div_add_mod k (fact m)
      have h2 := Nat.div_add_mod q (fact m)
      rw [e] at h1
      obtain ⟨j, hj, h3, h4⟩ := pick_lex m (k % fact m) (q % fact m) (dropF h (k / fact m)) (inc_drop hi _) (by omega) (Nat.mod_lt _ (fact_pos m))
      refine ⟨j + 1, by omega, fun i hij => ?_, ?_⟩
      · cases i with
        | zero => rw [pick_zero, pick_zero, e]
        | succ i => rw [pick_next, pick_next, ← e]; exact h3 i (by omega)
      · rw [pick_next, pick_next, ← e]; exact h4
    · refine ⟨0, by omega, fun i hij => by omega, ?_⟩
      rw [pick_zero, pick_zero]
      have h1 : k / fact m ≤ q / fact m := Nat.div_le_div_right (by omega)
      exact hi _ _ (by omega) (rank_lt hq)
theorem inc_rdf (n : Nat) : Inc n (rdf n) := by
  intro i j hij hj
  simp only [rdf, hj, show i < n by omega, if_true]; omega
/-- the row of rank k -/
def rankF (n k : Nat) : Nat → Nat := cutF n (pickAt n k (rdf n))
theorem rankF_at {n k i : Nat} (hi : i < n) : rankF n k i = pickAt n k (rdf n) i := by simp only [rankF, cutF, hi, if_true]
theorem isRow_rank {n k : Nat} (h3 : 3 ≤ n) (h8 : n ≤ 8) (hk : k < fact n) : IsRow n (rankF n k) := by
  refine isRow_mk h3 h8 (fun i hi => ?_) (fun i hi => ?_) (fun i j hi hj e => ?_) (fun i hi => by simp only [rankF, cutF, show ¬ i < n by omega, if_false])
  · rw [rankF_at hi]
    exact pickAt_ok (P := fun x => 49 ≤ x) hk (fun t ht => by simp only [rdf, ht, if_true]; omega) i hi
  · rw [rankF_at hi]
    exact pickAt_ok (P := fun x => x ≤ 48 + n) hk (fun t ht => by simp only [rdf, ht, if_true]; omega) i hi
  · rw [rankF_at hi, rankF_at hj] at e
    by_cases h1 : i < j
    · exact absurd e (pick_inj n k _ (inc_rdf n) hk i j h1 hj)
    · by_cases h2 : j < i
      · exact absurd e.symm (pick_inj n k _ (inc_rdf n) hk j i h2 hi)
      · omega
theorem lessAt_congr {n : Nat} {f g : Nat → Nat} (h : ∀ i, i < n → f i = g i) {i : Nat} (hi : i < n) : lessAt f n i = lessAt g n i := by
  unfold lessAt
  rw [h i hi]
  exact cntLt_congr _ _ _ fun t _ h2 => h t (by omega)
theorem placeA_congr {n : Nat} {f g : Nat → Nat} (h : ∀ i, i < n → f i = g i) : ∀ k, k ≤ n → placeA f n k = placeA g n k
  | 0, _ => rfl
  | k + 1, hk => by
    unfold placeA
    rw [placeA_congr h k (by omega), lessAt_congr h (by omega)]
theorem place_rank {n k : Nat} (hk : k < fact n) : placeB (rankF n k) n n = k := by
  rw [place_end, placeA_congr (fun i hi => rankF_at hi) n (Nat.le_refl _)]
  exact place_pick n k _ (inc_rdf n) hk
theorem str_rank (n k : Nat) : strOf n (pickAt n k (rdf n)) = strOf n (rankF n k) := strOf_congr fun _ hi => (rankF_at hi).symm

theorem less_list : ∀ (n : Nat) (F G : Nat → UInt8), (∃ j, j < n ∧ (∀ i, i < j → F i = G i) ∧ F j < G j) → Op.bytesLess ((List.range n).map F) ((List.range n).map G) = true
  | 0, _, _, h => by obtain ⟨j, hj, _⟩ := h; omega
  | n + 1, F, G, h => by
    obtain ⟨j, hj, h1, h2⟩ := h
    rw [List.range_succ_eq_map, List.map_cons, List.map_cons, List.map_map, List.map_map]
    unfold Op.bytesLess
    cases j with
    | zero => simp [h2]
    | succ j =>
      rw [h1 0 (by omega)]
      simp only [beq_self_eq_true, Bool.true_and, Bool.or_eq_true]
      exact Or.inr (less_list n (F ∘ Nat.succ) (G ∘ Nat.succ) ⟨j, by omega, fun i hi => h1 (i + 1) (by omega), h2⟩)
theorem less_str {n : Nat} {f g : Nat → Nat} (hg : ∀ i, i < n → g i < 256) (h : LexLt n f g) : Op.bytesLess (strOf n f).toList (strOf n g).toList = true := by
  rw [Lib.toList_data, Lib.toList_data]
  simp only [strOf]
  refine less_list n _ _ ?_
  obtain ⟨j, hj, h1, h2⟩ := h
  refine ⟨j, hj, fun i hi => by rw [h1 i hi], ?_⟩
  have := hg j hj
  rw [UInt8.lt_iff_toNat_lt]
  simp; omega
theorem less_rank {n k q : Nat} (h3 : 3 ≤ n) (h8 : n ≤ 8) (hkq : k < q) (hq : q < fact n) : Op.bytesLess (strOf n (rankF n k)).toList (strOf n (rankF n q)).toList = true := by
  have hr := isRow_rank h3 h8 hq
  refine less_str (fun i hi => by have := hr.hi i hi; omega) ?_
  obtain ⟨j, hj, h1, h2⟩ := pick_lex n k q _ (inc_rdf n) hkq hq
  exact ⟨j, hj, fun _ hi => by rw [rankF_at (by omega), rankF_at (by omega)]; exact h1 _ hi, by rw [rankF_at hj, rankF_at hj]; exact h2⟩
end Go.Proofs.Ytnildepdpkbekaa
