/- Plain facts: the row of a rank has that rank, greater ranks have greater rows; places moved and places that stay. No program here. Lagrange: a group's size divides that of what its products keep; orders divide it; it divides the number of all rows. The texts of rows, read back: what the program's tests say of them. -/
import Derived.Test.YtnoepobbecobbaaRB
import Derived.Sort.Walk0
namespace Go.Proofs.Ytnoepobbecobbaa

theorem cntLt_congr {f g : Nat → Nat} (v lo : Nat) : ∀ len, (∀ i, lo ≤ i → i < lo + len → f i = g i) → cntLt f v lo len = cntLt g v lo len
  | 0, _ => rfl
  | len + 1, h => by
    unfold cntLt
    rw [cntLt_congr v lo len (fun i h1 h2 => h i h1 (by omega)), h (lo + len) (by omega) (by omega)]
theorem cntLt_shift (f : Nat → Nat) (v lo : Nat) : ∀ len, cntLt f v (lo + 1) len = cntLt (fun i => f (i + 1)) v lo len
  | 0 => rfl
  | len + 1 => by
    unfold cntLt
    rw [cntLt_shift f v lo len, show lo + 1 + len = lo + len + 1 by omega]
theorem cntLt_first (f : Nat → Nat) (v : Nat) : ∀ len, cntLt f v 0 (len + 1) = cntLt f v 1 len + if f 0 < v then 1 else 0
  | 0 => rfl
  | len + 1 => by
    show cntLt f v 0 (len + 1) + _ = cntLt f v 1 len + _ + _
    rw [cntLt_first f v len, show 0 + (len + 1) = 1 + len by omega]; omega
theorem cntLt_drop (h : Nat → Nat) (v p : Nat) : ∀ m, p < m + 1 → cntLt (dropF h p) v 0 m + (if h p < v then 1 else 0) = cntLt h v 0 (m + 1)
  | 0, hp => by obtain rfl : p = 0 := by omega
                rfl
  | m + 1, hp => by
    by_cases e : p = m + 1
    · subst e
      show cntLt (dropF h (m + 1)) v 0 (m + 1) + _ = cntLt h v 0 (m + 1) + (if h (0 + (m + 1)) < v then 1 else 0)
      rw [Nat.zero_add, cntLt_congr (g := h) v 0 (m + 1) (fun i _ h2 => by simp only [dropF, show i < m + 1 by omega, if_true])]
    · have ih := cntLt_drop h v p m (by omega)
      show cntLt (dropF h p) v 0 m + (if dropF h p (0 + m) < v then 1 else 0) + _ = cntLt h v 0 (m + 1) + (if h (0 + (m + 1)) < v then 1 else 0)
      rw [Nat.zero_add, Nat.zero_add, show dropF h p m = h (m + 1) by simp only [dropF, show ¬ m < p by omega, if_false]]
      omega

theorem leftK_next (m k : Nat) : ∀ j, leftK (m + 1) k (j + 1) = leftK m (k % fact m) j
  | 0 => rfl
  | j + 1 => by
    show leftK (m + 1) k (j + 1) % fact (m + 1 - (j + 1 + 1)) = leftK m (k % fact m) j % fact (m - (j + 1))
    rw [leftK_next m k j, show m + 1 - (j + 1 + 1) = m - (j + 1) by omega]
theorem leftH_next (m k : Nat) (h : Nat → Nat) : ∀ j, leftH (m + 1) k h (j + 1) = leftH m (k % fact m) (dropF h (k / fact m)) j
  | 0 => rfl
  | j + 1 => by
    show dropF (leftH (m + 1) k h (j + 1)) (leftK (m + 1) k (j + 1) / fact (m + 1 - (j + 1 + 1))) = dropF (leftH m (k % fact m) _ j) (leftK m (k % fact m) j / fact (m - (j + 1)))
    rw [leftH_next m k h j, leftK_next, show m + 1 - (j + 1 + 1) = m - (j + 1) by omega]
theorem pick_zero (m k : Nat) (h : Nat → Nat) : pickAt (m + 1) k h 0 = h (k / fact m) := rfl
theorem pick_next (m k : Nat) (h : Nat → Nat) (j : Nat) : pickAt (m + 1) k h (j + 1) = pickAt m (k % fact m) (dropF h (k / fact m)) j := by
  unfold pickAt
  rw [leftH_next, leftK_next, show m + 1 - (j + 1 + 1) = m - (j + 1) by omega]
theorem rank_lt {m k : Nat} (hk : k < fact (m + 1)) : k / fact m < m + 1 := Nat.div_lt_of_lt_mul hk

theorem cnt_pick (v : Nat) : ∀ (m k : Nat) (h : Nat → Nat), k < fact m → cntLt (pickAt m k h) v 0 m = cntLt h v 0 m
  | 0, _, _, _ => rfl
  | m + 1, k, h, hk => by
    rw [cntLt_first, cntLt_shift, ← cntLt_drop h v (k / fact m) m (rank_lt hk), pick_zero]
    have e : cntLt (fun i => pickAt (m + 1) k h (i + 1)) v 0 m = cntLt (pickAt m (k % fact m) (dropF h (k / fact m))) v 0 m := cntLt_congr v 0 m fun i _ _ => pick_next m k h i
    rw [e, cnt_pick v m (k % fact m) _ (Nat.mod_lt _ (fact_pos m))]

/-- the first m digits go up -/
def Inc (m : Nat) (h : Nat → Nat) : Prop := ∀ i j, i < j → j < m → h i < h j
theorem inc_drop {m : Nat} {h : Nat → Nat} (hi : Inc (m + 1) h) (p : Nat) : Inc m (dropF h p) := by
  intro i j hij hj
  unfold dropF
  split <;> split
  · exact hi i j hij (by omega)
  · exact hi i (j + 1) (by omega) (by omega)
  · omega
  · exact hi (i + 1) (j + 1) (by omega) (by omega)
theorem inc_ne {m : Nat} {h : Nat → Nat} (hi : Inc (m + 1) h) {p : Nat} (hp : p < m + 1) (t : Nat) (ht : t < m) : dropF h p t ≠ h p := by
  unfold dropF
  split
  · have := hi t p (by omega) hp; omega
  · have := hi p (t + 1) (by omega) (by omega); omega
theorem cnt_inc {m : Nat} {h : Nat → Nat} (hi : Inc m h) {p : Nat} (hp : p < m) : ∀ len, len ≤ m → cntLt h (h p) 0 len = if len ≤ p then len else p
  | 0, _ => by simp [cntLt]
  | len + 1, hl => by
    have ih := cnt_inc hi hp len (by omega)
    show cntLt h (h p) 0 len + (if h (0 + len) < h p then 1 else 0) = _
    rw [ih, Nat.zero_add]
    by_cases h1 : len < p
    · have := hi len p h1 hp
      rw [if_pos (by omega), if_pos this, if_pos (by omega)]
    · have : ¬ h len < h p := by
        by_cases e : len = p
        · subst e; omega
        · have := hi p len (by omega) (by omega); omega
      rw [if_neg this]
      split <;> split <;> omega
theorem lessAt_zero {m k : Nat} {h : Nat → Nat} (hi : Inc (m + 1) h) (hk : k < fact (m + 1)) : lessAt (pickAt (m + 1) k h) (m + 1) 0 = k / fact m := by
  have h1 := cnt_pick (h (k / fact m)) (m + 1) k h hk
  rw [cntLt_first, pick_zero, if_neg (Nat.lt_irrefl _), cnt_inc hi (rank_lt hk) (m + 1) (Nat.le_refl _), if_neg (by have := rank_lt hk; omega)] at h1
  exact h1
theorem lessAt_next (m k : Nat) (h : Nat → Nat) (i : Nat) : lessAt (pickAt (m + 1) k h) (m + 1) (i + 1) = lessAt (pickAt m (k % fact m) (dropF h (k / fact m))) m i := by
  unfold lessAt
  rw [cntLt_shift, pick_next, show m + 1 - (i + 1 + 1) = m - (i + 1) by omega]
  exact cntLt_congr _ _ _ fun t _ _ => pick_next m k h t
theorem placeA_next (m k : Nat) (h : Nat → Nat) : ∀ j, placeA (pickAt (m + 1) k h) (m + 1) (j + 1) = lessAt (pickAt (m + 1) k h) (m + 1) 0 * fact m + placeA (pickAt m (k % fact m) (dropF h (k / fact m))) m j
  | 0 => by
    show 0 + _ * fact (m + 1 - 1) = _ + 0
    rw [Nat.zero_add]; rfl
  | j + 1 => by
    show placeA (pickAt (m + 1) k h) (m + 1) (j + 1) + lessAt (pickAt (m + 1) k h) (m + 1) (j + 1) * fact (m + 1 - (j + 1 + 1)) = _ + (placeA _ m j + lessAt _ m j * fact (m - (j + 1)))
    rw [placeA_next m k h j, lessAt_next, show m + 1 - (j + 1 + 1) = m - (j + 1) by omega]; omega
theorem place_pick : ∀ (m k : Nat) (h : Nat → Nat), Inc m h → k < fact m → placeA (pickAt m k h) m m = k
  | 0, k, _, _, hk => by
    have : fact 0 = 1 := rfl
    show 0 = k
    omega
  | m + 1, k, h, hi, hk => by
    rw [placeA_next, lessAt_zero hi hk, place_pick m _ _ (inc_drop hi _) (Nat.mod_lt _ (fact_pos m)), Nat.mul_comm]
    exact Nat.div_add_mod k (fact m)
theorem pick_inj : ∀ (m k : Nat) (h : Nat → Nat), Inc m h → k < fact m → ∀ i j, i < j → j < m → pickAt m k h i ≠ pickAt m k h j
  | 0, _, _, _, _, i, j, _, hj => by omega
  | m + 1, k, h, hi, hk, i, j + 1, hij, hj => by
    rw [pick_next]
    cases i with
    | zero =>
      rw [pick_zero]
      exact Ne.symm (pickAt_ok (P := fun x => x ≠ h (k / fact m)) (Nat.mod_lt _ (fact_pos m)) (inc_ne hi (rank_lt hk)) j (by omega))
    | succ i =>
      rw [pick_next]
      exact pick_inj m _ _ (inc_drop hi _) (Nat.mod_lt _ (fact_pos m)) i j (by omega) (by omega)
/-- the first digit that is not the same is less -/
def LexLt (m : Nat) (f g : Nat → Nat) : Prop := ∃ j, j < m ∧ (∀ i, i < j → f i = g i) ∧ f j < g j
theorem pick_lex : ∀ (m k q : Nat) (h : Nat → Nat), Inc m h → k < q → q < fact m → LexLt m (pickAt m k h) (pickAt m q h)
  | 0, k, q, _, _, hkq, hq => by
    have : fact 0 = 1 := rfl
    omega
  | m + 1, k, q, h, hi, hkq, hq => by
    by_cases e : k / fact m = q / fact m
    · have h1 := Nat.div_add_mod k (fact m)
      have h2 := Nat.div_add_mod q (fact m)
      rw [e] at h1
      obtain ⟨j, hj, h3, h4⟩ := pick_lex m (k % fact m) (q % fact m) (dropF h (k / fact m)) (inc_drop hi _) (by omega) (Nat.mod_lt _ (fact_pos m))
      refine ⟨j + 1, by omega, fun i hij => ?_, ?_⟩
      · cases i with
        | zero => rw [pick_zero, pick_zero, e]
        | succ i => rw [pick_next, pick_next, ← e]; exact h3 i (by omega)
      · rw [pick_next, pick_next, ← e]; exact h4
    · refine ⟨0, by omega, fun i hij => by omega, ?_⟩
      rw [pick_zero, pick_zero]
      have h1 : k / fact m ≤ q / fact m := Nat.div_le_div_right (by omega)
      exact hi _ _ (by omega) (rank_lt hq)
theorem inc_rdf (n : Nat) : Inc n (rdf n) := by
  intro i j hij hj
  simp only [rdf, hj, show i < n by omega, if_true]; omega
/-- the row of rank k -/
def rankF (n k : Nat) : Nat → Nat := cutF n (pickAt n k (rdf n))
theorem rankF_at {n k i : Nat} (hi : i < n) : rankF n k i = pickAt n k (rdf n) i := by simp only [rankF, cutF, hi, if_true]
theorem isRow_rank {n k : Nat} (h3 : 3 ≤ n) (h8 : n ≤ 8) (hk : k < fact n) : IsRow n (rankF n k) := by
  refine isRow_mk h3 h8 (fun i hi => ?_) (fun i hi => ?_) (fun i j hi hj e => ?_) (fun i hi => by simp only [rankF, cutF, show ¬ i < n by omega, if_false])
  · rw [rankF_at hi]
    exact pickAt_ok (P := fun x => 49 ≤ x) hk (fun t ht => by simp only [rdf, ht, if_true]; omega) i hi
  · rw [rankF_at hi]
    exact pickAt_ok (P := fun x => x ≤ 48 + n) hk (fun t ht => by simp only [rdf, ht, if_true]; omega) i hi
  · rw [rankF_at hi, rankF_at hj] at e
    by_cases h1 : i < j
    · exact absurd e (pick_inj n k _ (inc_rdf n) hk i j h1 hj)
    · by_cases h2 : j < i
      · exact absurd e.symm (pick_inj n k _ (inc_rdf n) hk j i h2 hi)
      · omega
theorem lessAt_congr {n : Nat} {f g : Nat → Nat} (h : ∀ i, i < n → f i = g i) {i : Nat} (hi : i < n) : lessAt f n i = lessAt g n i := by
  unfold lessAt
  rw [h i hi]
  exact cntLt_congr _ _ _ fun t _ h2 => h t (by omega)
theorem placeA_congr {n : Nat} {f g : Nat → Nat} (h : ∀ i, i < n → f i = g i) : ∀ k, k ≤ n → placeA f n k = placeA g n k
  | 0, _ => rfl
  | k + 1, hk => by
    unfold placeA
    rw [placeA_congr h k (by omega), lessAt_congr h (by omega)]
theorem place_rank {n k : Nat} (hk : k < fact n) : placeB (rankF n k) n n = k := by
  rw [place_end, placeA_congr (fun i hi => rankF_at hi) n (Nat.le_refl _)]
  exact place_pick n k _ (inc_rdf n) hk
theorem str_rank (n k : Nat) : strOf n (pickAt n k (rdf n)) = strOf n (rankF n k) := strOf_congr fun _ hi => (rankF_at hi).symm

theorem less_list9 : ∀ (n : Nat) (F G : Nat → UInt8), (∃ j, j < n ∧ (∀ i, i < j → F i = G i) ∧ F j < G j) → Op.bytesLess ((List.range n).map F) ((List.range n).map G) = true
  | 0, _, _, h => by obtain ⟨j, hj, _⟩ := h; omega
  | n + 1, F, G, h => by
    obtain ⟨j, hj, h1, h2⟩ := h
    rw [List.range_succ_eq_map, List.map_cons, List.map_cons, List.map_map, List.map_map]
    unfold Op.bytesLess
    cases j with
    | zero => simp [h2]
    | succ j =>
      rw [h1 0 (by omega)]
      simp only [beq_self_eq_true, Bool.true_and, Bool.or_eq_true]
      exact Or.inr (less_list9 n (F ∘ Nat.succ) (G ∘ Nat.succ) ⟨j, by omega, fun i hi => h1 (i + 1) (by omega), h2⟩)
theorem less_str {n : Nat} {f g : Nat → Nat} (hg : ∀ i, i < n → g i < 256) (h : LexLt n f g) : Op.bytesLess (strOf n f).toList (strOf n g).toList = true := by
  rw [Lib.toList_data, Lib.toList_data]
  simp only [strOf]
  refine less_list9 n _ _ ?_
  obtain ⟨j, hj, h1, h2⟩ := h
  refine ⟨j, hj, fun i hi => by rw [h1 i hi], ?_⟩
  have := hg j hj
  rw [UInt8.lt_iff_toNat_lt]
  simp; omega
theorem less_rank {n k q : Nat} (h3 : 3 ≤ n) (h8 : n ≤ 8) (hkq : k < q) (hq : q < fact n) : Op.bytesLess (strOf n (rankF n k)).toList (strOf n (rankF n q)).toList = true := by
  have hr := isRow_rank h3 h8 hq
  refine less_str (fun i hi => by have := hr.hi i hi; omega) ?_
  obtain ⟨j, hj, h1, h2⟩ := pick_lex n k q _ (inc_rdf n) hkq hq
  exact ⟨j, hj, fun _ hi => by rw [rankF_at (by omega), rankF_at (by omega)]; exact h1 _ hi, by rw [rankF_at hj, rankF_at hj]; exact h2⟩
end Go.Proofs.Ytnoepobbecobbaa
namespace Go.Proofs.Ytnoepobbecobbaa
open Go.RowKit
set_option linter.unusedSimpArgs false
set_option linter.unusedVariables false

open Classical in
theorem lagrange {n : Nat} {gs : List (Nat → Nat)} (hg : Rows n gs) (hn : gs.Nodup) (hG : IsGrp n gs) : ∀ (N : Nat) (S : List (Nat → Nat)), S.length ≤ N → S.Nodup → Rows n S → (∀ x ∈ S, ∀ h ∈ gs, mulR n x h ∈ S) → ∃ c, S.length = c * gs.length
  | N, [], _, _, _, _ => ⟨0, by simp⟩
  | 0, x :: S, hl, _, _, _ => by simp at hl
  | N + 1, x :: S, hl, hnd, hr, hc => by
    have hx := hr x List.mem_cons_self
    have hcn : (cosF n gs x).Nodup := ((sortF_perm n _).nodup_iff).2 (map_nodup hx hg hn)
    have hin : ∀ z ∈ cosF n gs x, z ∈ x :: S := fun z hz => by
      obtain ⟨h, hh, rfl⟩ := cos_mem.1 hz
      exact hc x List.mem_cons_self h hh
    have hp : ((x :: S).filter fun z => decide (z ∈ cosF n gs x)).Perm (cosF n gs x) := (List.perm_ext_iff_of_nodup (hnd.filter _) hcn).2 fun z => by
      rw [List.mem_filter, decide_eq_true_eq]
      exact ⟨fun h => h.2, fun h => ⟨hin z h, h⟩⟩
    have hsum := List.length_eq_countP_add_countP (fun z => decide (z ∈ cosF n gs x)) (l := x :: S)
    rw [List.countP_eq_length_filter, List.countP_eq_length_filter, hp.length_eq, cos_len] at hsum
    have hpos : 0 < gs.length := List.length_pos_of_mem hG.1
    obtain ⟨c, hcc⟩ := lagrange hg hn hG N ((x :: S).filter fun z => decide ¬ (decide (z ∈ cosF n gs x)) = true) (by omega) (hnd.filter _) (fun z hz => hr z (List.mem_filter.1 hz).1) (fun z hz h hh => by
      obtain ⟨h1, h2⟩ := List.mem_filter.1 hz
      have h2 : z ∉ cosF n gs x := by simpa using h2
      refine List.mem_filter.2 ⟨hc z h1 h hh, ?_⟩
      have hzr := hr z h1
      have : mulR n z h ∉ cosF n gs x := fun hm => by
        have e1 := cos_eq hx hg hn hG hm
        have e2 := cos_eq hzr hg hn hG (z := mulR n z h) (cos_mem.2 ⟨h, hh, rfl⟩)
        rw [e2] at e1
        exact h2 (e1 ▸ cos_self hzr hG)
      simpa using this)
    refine ⟨c + 1, ?_⟩
    rw [Nat.succ_mul, ← hcc]
    omega

/-- all rows of a stage -/
noncomputable def allRows (n : Nat) : List (Nat → Nat) := (List.range (fact n)).map (rankF n)
theorem allRows_len (n : Nat) : (allRows n).length = fact n := by simp [allRows]
theorem allRows_nodup (n : Nat) : (allRows n).Nodup := by
  unfold allRows List.Nodup
  rw [List.pairwise_map]
  refine List.Pairwise.imp_of_mem ?_ List.nodup_range
  intro a b ha hb hne e
  have h1 := place_rank (n := n) (List.mem_range.1 ha)
  have h2 := place_rank (n := n) (List.mem_range.1 hb)
  rw [e, h2] at h1
  exact hne h1.symm
theorem mem_allRows {n : Nat} (h3 : 3 ≤ n) (h8 : n ≤ 8) {f : Nat → Nat} : f ∈ allRows n ↔ IsRow n f := by
  unfold allRows
  rw [List.mem_map]
  constructor
  · rintro ⟨k, hk, rfl⟩
    exact isRow_rank h3 h8 (List.mem_range.1 hk)
  · intro hf
    refine ⟨plR n f, List.mem_range.2 (plR_lt n f), ?_⟩
    exact plR_inj (isRow_rank h3 h8 (plR_lt n f)) hf (place_rank (plR_lt n f))
/-- a group's size divides the number of rows -/
theorem grp_divides {n : Nat} (h3 : 3 ≤ n) (h8 : n ≤ 8) {gs : List (Nat → Nat)} (hg : Rows n gs) (hn : gs.Nodup) (hG : IsGrp n gs) : ∃ c, fact n = c * gs.length := by
  have := lagrange hg hn hG _ (allRows n) (Nat.le_refl _) (allRows_nodup n) (fun x hx => (mem_allRows h3 h8).1 hx) (fun x hx h hh => (mem_allRows h3 h8).2 (isRow_mul ((mem_allRows h3 h8).1 hx) (hg h hh)))
  rwa [allRows_len] at this
/-- what a group generates: it is one -/
theorem IsGen.grp {n : Nat} {gens G : List (Nat → Nat)} (h3 : 3 ≤ n) (h8 : n ≤ 8) (hg : Rows n gens) (h : IsGen n gens G) : IsGrp n G :=
  ⟨(h.mem _).2 .one, fun a ha b hb => (h.mem _).2 (((h.mem a).1 ha).times h3 h8 hg ((h.mem b).1 hb))⟩
/-- a row's order divides a group that has it -/
theorem ord_divides {n : Nat} {G : List (Nat → Nat)} (hg : Rows n G) (hn : G.Nodup) (hG : IsGrp n G) {f : Nat → Nat} (hf : f ∈ G) {m : Nat} (hm : IsOrd n f m) : ∃ c, G.length = c * m := by
  have hr := hg f hf
  have hmp := hm.pos
  have hpow : ∀ k, powR n f k ∈ G := fun k => by
    induction k with
    | zero => exact hG.1
    | succ k ih => exact hG.2 _ ih _ hf
  have hgr : IsGrp n ((List.range m).map (powR n f)) := by
    refine ⟨List.mem_map.2 ⟨0, List.mem_range.2 hmp, rfl⟩, fun a ha b hb => ?_⟩
    obtain ⟨i, hi, rfl⟩ := List.mem_map.1 ha
    obtain ⟨j, hj, rfl⟩ := List.mem_map.1 hb
    rw [← pow_add hr, ← pow_mod hr hm.back]
    exact List.mem_map.2 ⟨(i + j) % m, List.mem_range.2 (Nat.mod_lt _ hmp), rfl⟩
  have hrw : Rows n ((List.range m).map (powR n f)) := fun x hx => by
    obtain ⟨i, _, rfl⟩ := List.mem_map.1 hx
    exact hg _ (hpow i)
  have hnd : ((List.range m).map (powR n f)).Nodup := by
    unfold List.Nodup
    rw [List.pairwise_map]
    refine List.Pairwise.imp_of_mem ?_ List.pairwise_lt_range
    intro a b ha hb hab e
    have ha := List.mem_range.1 ha
    have hb := List.mem_range.1 hb
    have e2 : powR n f (b - a) = rdf n := by
      have h1 : powR n f (a + (b - a)) = mulR n (powR n f a) (powR n f (b - a)) := pow_add hr a (b - a)
      rw [show a + (b - a) = b by omega, ← e] at h1
      have h2 : mulR n (powR n f a) (rdf n) = powR n f a := mul_rounds (hg _ (hpow a))
      exact mulR_cancel (hg _ (hpow a)) (hg _ (hpow (b - a))) (isRow_rdf hr.three hr.eight) (h1.symm.trans h2.symm)
    exact hm.least (b - a) (by omega) (by omega) e2
  have := lagrange hrw hnd hgr _ G (Nat.le_refl _) hn hg (fun x hx h hh => by
    obtain ⟨i, _, rfl⟩ := List.mem_map.1 hh
    exact hG.2 _ hx _ (hpow i))
  simpa using this
end Go.Proofs.Ytnoepobbecobbaa
namespace Go.Proofs.Ytnoepobbecobbaa
open Go.RowKit
set_option linter.unusedSimpArgs false
set_option linter.unusedVariables false

theorem goodB_rowL {n : Nat} {f : Nat → Nat} (h : IsRow n f) : goodB (txt (rowL n f)) = true := by
  rw [txt_rowL]
  refine goodB_yes ?_
  rw [strOf_size, dg_strOf h]
  exact h
theorem dg_rowL {n : Nat} {f : Nat → Nat} (h : IsRow n f) : dg (txt (rowL n f)) = f := by rw [txt_rowL, dg_strOf h]
theorem rF_rowsL {n : Nat} {fs : List (Nat → Nat)} (h : Rows n fs) : rF (rowsL n fs) = fs := by
  unfold rF rowsL
  rw [List.map_map]
  conv => rhs; rw [← List.map_id fs]
  exact List.map_congr_left fun f hf => dg_rowL (h f hf)
theorem rowsB_rowsL {n : Nat} {fs : List (Nat → Nat)} (h : Rows n fs) (hl : fs.length ≤ 800) : rowsB n (rowsL n fs) = true := by
  unfold rowsB
  rw [rowsL_len, decide_eq_true hl, Bool.true_and, List.all_eq_true]
  intro l hm
  obtain ⟨f, hf, rfl⟩ := List.mem_map.1 hm
  unfold rowB
  rw [goodB_rowL (h f hf), rowL_len]
  simp
theorem firstN_rowsL {n : Nat} {fs : List (Nat → Nat)} (h0 : 0 < fs.length) : firstN (rowsL n fs) = n := by
  unfold firstN
  rw [List.getD_eq_getElem?_getD, List.getElem?_eq_getElem (by rw [rowsL_len]; exact h0), Option.getD_some]
  simp [rowsL, rowL_len]
theorem listB_rowsL {n : Nat} {fs : List (Nat → Nat)} (h : Rows n fs) (hl : fs.length ≤ 800) (h0 : 0 < fs.length) : listB (rowsL n fs) = true := by
  unfold listB
  rw [firstN_rowsL h0]
  exact rowsB_rowsL h hl
theorem incTo_rise {n : Nat} {fs : List (Nat → Nat)} (h : Rows n fs) (hl : fs.length ≤ 800) (hr : Rise n fs) (h0 : 0 < fs.length) : ∀ k, k < fs.length → incTo (rowsL n fs) k = true
  | 0, _ => rfl
  | k + 1, hk => by
    show (incTo (rowsL n fs) k && stepB (rowsL n fs) k) = true
    rw [incTo_rise h hl hr h0 k (by omega), Bool.true_and, stepB_row (listB_rowsL h hl h0) (by rw [rowsL_len]; exact hk)]
    have := hr k (k + 1) (by omega) hk (by omega)
    have e := firstN_rowsL (n := n) h0
    simp only [e, rF_rowsL h, ltF, decide_eq_true_eq]
    exact this
theorem riseB_rowsL {n : Nat} {fs : List (Nat → Nat)} (h : Rows n fs) (hl : fs.length ≤ 800) (hr : Rise n fs) (h0 : 0 < fs.length) : riseB (rowsL n fs) = true := by
  unfold riseB incB
  rw [rowsL_len, incTo_rise h hl hr h0 _ (by omega), listB_rowsL h hl h0]
  rfl
/-- the program says that a group's rows in order are one -/
theorem isG_rowsL {n : Nat} {fs : List (Nat → Nat)} (h : Rows n fs) (hl : fs.length ≤ 800) (hr : Rise n fs) (hG : IsGrp n fs) : isG (rowsL n fs) = true := by
  have h0 := List.length_pos_of_mem hG.1
  unfold isG
  rw [riseB_rowsL h hl hr h0, rowsL_len, decide_eq_true h0, firstN_rowsL h0, rF_rowsL h, grpB_iff.2 hG]
  rfl
/-- rows in order, each once, rise -/
theorem rise_sort {n : Nat} {fs : List (Nat → Nat)} (h : Rows n fs) (hn : fs.Nodup) : Rise n (sortF n fs) := by
  intro i j hi hj hij
  have ho := List.pairwise_iff_getElem.1 (sortF_ord n fs) i j hi hj hij
  refine Nat.lt_of_le_of_ne ho fun e => ?_
  have hrs := rows_sort h
  have e2 := rowKey_inj (hrs _ (List.getElem_mem hi)) (hrs _ (List.getElem_mem hj)) e
  have hnd : (sortF n fs).Nodup := ((sortF_perm n fs).nodup_iff).2 hn
  exact List.pairwise_iff_getElem.1 hnd i j hi hj hij e2
theorem grp_sort {n : Nat} {fs : List (Nat → Nat)} (h : IsGrp n fs) : IsGrp n (sortF n fs) :=
  ⟨(sortF_perm n fs).mem_iff.2 h.1, fun a ha b hb => (sortF_perm n fs).mem_iff.2 (h.2 a ((sortF_perm n fs).mem_iff.1 ha) b ((sortF_perm n fs).mem_iff.1 hb))⟩
end Go.Proofs.Ytnoepobbecobbaa
