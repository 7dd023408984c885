/- Plain facts on powers and orders of rows: no program here. -/
import Derived.Test.YtnildepdpkbekaaP2
namespace Go.Proofs.Ytnildepdpkbekaa

/-- powers: each by one more factor on the right -/
def powR (n : Nat) (f : Nat → Nat) : Nat → Nat → Nat
  | 0 => rdf n
  | k + 1 => mulR n (powR n f k) f
theorem isRow_pow {n : Nat} {f : Nat → Nat} (h : IsRow n f) : ∀ k, IsRow n (powR n f k)
  | 0 => isRow_rdf h.three h.eight
  | k + 1 => isRow_mul (isRow_pow h k) h
theorem pow_one {n : Nat} {f : Nat → Nat} (h : IsRow n f) : powR n f 1 = f := rounds_mul h
theorem pow_add {n : Nat} {f : Nat → Nat} (h : IsRow n f) (a : Nat) : ∀ b, powR n f (a + b) = mulR n (powR n f a) (powR n f b)
  | 0 => (mul_rounds (isRow_pow h a)).symm
  | b + 1 => by
    show mulR n (powR n f (a + b)) f = _
    rw [pow_add h a b, mulR_assoc (isRow_pow h a) (isRow_pow h b) h]; rfl
theorem pow_comm {n : Nat} {f : Nat → Nat} (h : IsRow n f) (a b : Nat) : mulR n (powR n f a) (powR n f b) = mulR n (powR n f b) (powR n f a) := by
  rw [← pow_add h, ← pow_add h, Nat.add_comm]
theorem pow_left {n : Nat} {f : Nat → Nat} (h : IsRow n f) (k : Nat) : powR n f (k + 1) = mulR n f (powR n f k) := by
  have := pow_comm h k 1
  rw [pow_one h] at this
  exact this

/-- the place that place i comes to -/
def orb (n : Nat) (f : Nat → Nat) (i k : Nat) : Nat := powR n f k i - 49
theorem orb_lt {n : Nat} {f : Nat → Nat} (h : IsRow n f) {i : Nat} (hi : i < n) (k : Nat) : orb n f i k < n := by
  have := (isRow_pow h k).lo i hi
  have := (isRow_pow h k).hi i hi
  unfold orb; omega
theorem orb_succ {n : Nat} {f : Nat → Nat} (h : IsRow n f) {i : Nat} (hi : i < n) (k : Nat) : orb n f i (k + 1) = f (orb n f i k) - 49 := by
  unfold orb
  rw [pow_left h, mulR_at _ _ hi]
theorem orb_zero {n : Nat} (f : Nat → Nat) {i : Nat} (hi : i < n) : orb n f i 0 = i := by simp [orb, powR, rdf, hi]
theorem orb_back {n : Nat} {f : Nat → Nat} (h : IsRow n f) {i : Nat} (hi : i < n) : ∀ a b, orb n f i a = orb n f i (a + b) → orb n f i b = i
  | 0, b, e => by rw [orb_zero f hi] at e; rw [Nat.zero_add] at e; exact e.symm
  | a + 1, b, e => by
    rw [show a + 1 + b = (a + b) + 1 by omega, orb_succ h hi, orb_succ h hi] at e
    have l1 := orb_lt h hi a
    have l2 := orb_lt h hi (a + b)
    have := h.inj _ _ l1 l2 (by have := h.lo _ l1; have := h.lo _ l2; omega)
    exact orb_back h hi a b this
/-- two of n + 1 numbers below n are the same -/
theorem pigeon_same (n : Nat) (x : Nat → Nat) (hx : ∀ k, k ≤ n → x k < n) : ∃ a b, a < b ∧ b ≤ n ∧ x a = x b := by
  by_cases hinj : ∀ i j, i < n → j < n → x i = x j → i = j
  · obtain ⟨i, hi, e⟩ := pigeon n x (fun i hi => hx i (by omega)) hinj (x n) (hx n (Nat.le_refl _))
    exact ⟨i, n, hi, Nat.le_refl _, e⟩
  · simp only [Classical.not_forall] at hinj
    obtain ⟨i, j, hi, hj, e, hne⟩ := hinj
    by_cases hlt : i < j
    · exact ⟨i, j, hlt, by omega, e⟩
    · exact ⟨j, i, by omega, by omega, e.symm⟩
theorem orb_returns {n : Nat} {f : Nat → Nat} (h : IsRow n f) {i : Nat} (hi : i < n) : ∃ m, 1 ≤ m ∧ m ≤ n ∧ orb n f i m = i := by
  obtain ⟨a, b, hab, hb, e⟩ := pigeon_same n (orb n f i) (fun k _ => orb_lt h hi k)
  refine ⟨b - a, by omega, by omega, orb_back h hi a (b - a) ?_⟩
  rw [show a + (b - a) = b by omega]; exact e
theorem orb_add {n : Nat} {f : Nat → Nat} (h : IsRow n f) {i : Nat} (hi : i < n) (a b : Nat) : orb n f i (a + b) = orb n f (orb n f i b) a := by
  show powR n f (a + b) i - 49 = powR n f a (powR n f b i - 49) - 49
  rw [pow_add h, mulR_at _ _ hi]
theorem orb_times {n : Nat} {f : Nat → Nat} (h : IsRow n f) {i : Nat} (hi : i < n) {m : Nat} (hm : orb n f i m = i) : ∀ q, orb n f i (m * q) = i
  | 0 => orb_zero f hi
  | q + 1 => by rw [Nat.mul_succ, orb_add h hi, hm]; exact orb_times h hi hm q
theorem pow_840 {n : Nat} {f : Nat → Nat} (h : IsRow n f) : powR n f 840 = rdf n := by
  refine row_ext (isRow_pow h 840) (isRow_rdf h.three h.eight) (fun i hi => ?_)
  obtain ⟨m, h1, h2, h3⟩ := orb_returns h hi
  have h8 := h.eight
  have e : orb n f i 840 = i := by
    have hm : m = 1 ∨ m = 2 ∨ m = 3 ∨ m = 4 ∨ m = 5 ∨ m = 6 ∨ m = 7 ∨ m = 8 := by omega
    rcases hm with rfl | rfl | rfl | rfl | rfl | rfl | rfl | rfl
    · exact orb_times h hi h3 840
    · exact orb_times h hi h3 420
    · exact orb_times h hi h3 280
    · exact orb_times h hi h3 210
    · exact orb_times h hi h3 168
    · exact orb_times h hi h3 140
    · exact orb_times h hi h3 120
    · exact orb_times h hi h3 105
  have := (isRow_pow h 840).lo i hi
  unfold orb at e
  simp only [rdf, hi, if_true]; omega

theorem least_of {p : Nat → Prop} (h : ∃ n, p n) : ∃ n, p n ∧ ∀ m, m < n → ¬ p m := by
  obtain ⟨n, hn⟩ := h
  induction n using Nat.strongRecOn with
  | _ n ih =>
    by_cases hm : ∃ m, m < n ∧ p m
    · obtain ⟨m, hlt, hp⟩ := hm
      exact ih m hlt hp
    · exact ⟨n, hn, fun m hlt hp => hm ⟨m, hlt, hp⟩⟩
/-- k is the order of f -/
structure IsOrd (n : Nat) (f : Nat → Nat) (k : Nat) : Prop where
  pos : 1 ≤ k
  le : k ≤ 840
  back : powR n f k = rdf n
  least : ∀ j, 1 ≤ j → j < k → powR n f j ≠ rdf n
theorem ord_exists {n : Nat} {f : Nat → Nat} (h : IsRow n f) : ∃ k, IsOrd n f k := by
  obtain ⟨k, ⟨h1, h2⟩, h3⟩ := least_of (p := fun k => 1 ≤ k ∧ powR n f k = rdf n) ⟨840, by omega, pow_840 h⟩
  refine ⟨k, h1, ?_, h2, fun j hj hjk e => h3 j hjk ⟨hj, e⟩⟩
  by_cases hk : k ≤ 840
  · exact hk
  · exact absurd ⟨by omega, pow_840 h⟩ (h3 840 (by omega))
theorem ord_unique {n : Nat} {f : Nat → Nat} {a b : Nat} (ha : IsOrd n f a) (hb : IsOrd n f b) : a = b := by
  by_cases h1 : a < b
  · exact absurd ha.back (hb.least a ha.pos h1)
  · by_cases h2 : b < a
    · exact absurd hb.back (ha.least b hb.pos h2)
    · omega
theorem pow_mul_ord {n : Nat} {f : Nat → Nat} (h : IsRow n f) {m : Nat} (hm : powR n f m = rdf n) : ∀ q, powR n f (m * q) = rdf n
  | 0 => rfl
  | q + 1 => by rw [Nat.mul_succ, pow_add h, pow_mul_ord h hm q, hm]; exact mul_rounds (isRow_rdf h.three h.eight)
theorem pow_mod {n : Nat} {f : Nat → Nat} (h : IsRow n f) {m : Nat} (hm : powR n f m = rdf n) (k : Nat) : powR n f (k % m) = powR n f k := by
  have e : k = m * (k / m) + k % m := (Nat.div_add_mod k m).symm
  rw [show powR n f k = powR n f (m * (k / m) + k % m) from by rw [← e], pow_add h, pow_mul_ord h hm, rounds_mul (isRow_pow h _)]
theorem pow_inv {n : Nat} {f : Nat → Nat} (h : IsRow n f) : ∀ k, mulR n (powR n (invF n f) k) (powR n f k) = rdf n
  | 0 => mul_rounds (isRow_rdf h.three h.eight)
  | k + 1 => by
    have hi := isRow_inv h
    show mulR n (mulR n (powR n (invF n f) k) (invF n f)) (powR n f (k + 1)) = _
    rw [pow_left h, mulR_assoc (isRow_pow hi k) hi (isRow_mul h (isRow_pow h k)), ← mulR_assoc hi h (isRow_pow h k), inv_mul h, rounds_mul (isRow_pow h k)]
    exact pow_inv h k
/-- a power of the turned row is a power of the row -/
theorem pow_neg {n : Nat} {f : Nat → Nat} (h : IsRow n f) {m : Nat} (hm : powR n f m = rdf n) (k j : Nat) (hj : ∃ q, j + k = m * q) : powR n (invF n f) k = powR n f j := by
  obtain ⟨q, hq⟩ := hj
  have hi := isRow_inv h
  have e1 : mulR n (powR n f j) (powR n f k) = rdf n := by rw [← pow_add h, hq, pow_mul_ord h hm]
  have e2 := pow_inv h k
  have e3 : mulR n (powR n (invF n f) k) (mulR n (powR n f k) (powR n f j)) = powR n (invF n f) k := by
    rw [pow_comm h k j, e1, mul_rounds (isRow_pow hi k)]
  rw [← mulR_assoc (isRow_pow hi k) (isRow_pow h k) (isRow_pow h j), e2, rounds_mul (isRow_pow h j)] at e3
  exact e3.symm
end Go.Proofs.Ytnildepdpkbekaa
