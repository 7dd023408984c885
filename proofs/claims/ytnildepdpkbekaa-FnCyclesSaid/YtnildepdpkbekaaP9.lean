/- Plain facts: sign by cycles, places moved and places that stay. No program here. -/
import Derived.Test.YtnildepdpkbekaaP8
namespace Go.Proofs.Ytnildepdpkbekaa

/-- rounds with the places a and b exchanged -/
def trF (n a b i : Nat) : Nat := if i < n then (if i = a then 49 + b else if i = b then 49 + a else 49 + i) else 0
theorem trF_at {n a b i : Nat} (hi : i < n) : trF n a b i = if i = a then 49 + b else if i = b then 49 + a else 49 + i := by simp only [trF, hi, if_true]
theorem isRow_tr {n a b : Nat} (h3 : 3 ≤ n) (h8 : n ≤ 8) (ha : a < n) (hb : b < n) : IsRow n (trF n a b) := by
  refine isRow_mk h3 h8 (fun i hi => ?_) (fun i hi => ?_) (fun i j hi hj e => ?_) (fun i hi => by simp only [trF, show ¬ i < n by omega, if_false])
  · rw [trF_at hi]; split
    · omega
    · split <;> omega
  · rw [trF_at hi]; split
    · omega
    · split <;> omega
  · rw [trF_at hi, trF_at hj] at e
    split at e <;> split at e <;> (try split at e) <;> (try split at e) <;> omega
set_option maxRecDepth 100000 in
theorem tr_odd_all : ∀ n, n < 9 → ∀ b, b < n → ∀ a, a < b → invB (trF n a b) n % 2 = 1 ∧ invB (trF n b a) n % 2 = 1 := by decide
theorem tr_odd {n a b : Nat} (h8 : n ≤ 8) (ha : a < n) (hb : b < n) (hab : a ≠ b) : invB (trF n a b) n % 2 = 1 := by
  by_cases h : a < b
  · exact (tr_odd_all n (by omega) b hb a h).1
  · exact (tr_odd_all n (by omega) a ha b (by omega)).2
/-- the digits at places a and b exchanged -/
def swp (n : Nat) (f : Nat → Nat) (a b : Nat) : Nat → Nat := mulR n f (trF n a b)
theorem isRow_swp {n : Nat} {f : Nat → Nat} (h : IsRow n f) {a b : Nat} (ha : a < n) (hb : b < n) : IsRow n (swp n f a b) := isRow_mul h (isRow_tr h.three h.eight ha hb)
theorem swp_at {n : Nat} (f : Nat → Nat) {a b i : Nat} (hi : i < n) : swp n f a b i = if i = a then f b else if i = b then f a else f i := by
  unfold swp
  rw [mulR_at _ _ hi, trF_at hi]
  split
  · rw [show 49 + b - 49 = b by omega]
  · split
    · rw [show 49 + a - 49 = a by omega]
    · rw [show 49 + i - 49 = i by omega]
theorem swp_odd {n : Nat} {f : Nat → Nat} (h : IsRow n f) {a b : Nat} (ha : a < n) (hb : b < n) (hab : a ≠ b) : (invB (swp n f a b) n + 1) % 2 = invB f n % 2 := by
  have h1 := invB_mul h (isRow_tr h.three h.eight ha hb)
  have h2 := tr_odd h.eight ha hb hab
  unfold swp; omega

/-- within one period the places are all different -/
theorem orb_inj {n : Nat} {f : Nat → Nat} (h : IsRow n f) {i m : Nat} (hi : i < n) (hm : IsPer n f i m) {a b : Nat} (hab : a < b) (hb : b < m) : orb n f i a ≠ orb n f i b := fun e =>
  hm.least (b - a) (by omega) (by omega) (orb_back h hi a (b - a) (by rw [show a + (b - a) = b by omega]; exact e))

/-- after k exchanges k places of the cycle from i on stand still -/
structure Und (n : Nat) (f g : Nat → Nat) (i k : Nat) (h : Nat → Nat) : Prop where
  row : IsRow n h
  sign : (invB h n + k) % 2 = invB g n % 2
  head : h i = 49 + orb n f i (k + 1)
  done : ∀ j, 1 ≤ j → j ≤ k → h (orb n f i j) = 49 + orb n f i j
  rest : ∀ x, x < n → x ≠ i → (∀ j, 1 ≤ j → j ≤ k → x ≠ orb n f i j) → h x = g x
theorem und_all {n : Nat} {f g : Nat → Nat} (hf : IsRow n f) (hg : IsRow n g) {i m : Nat} (hi : i < n) (hm : IsPer n f i m) (hs : ∀ j, g (orb n f i j) = f (orb n f i j)) :
    ∀ k, k + 1 ≤ m → ∃ h, Und n f g i k h
  | 0, _ => ⟨g, hg, rfl, by
      have := hs 0
      rw [orb_zero f hi] at this
      have e := orb_succ hf hi 0
      rw [orb_zero f hi] at e
      have := hf.lo i hi
      omega, fun j h1 h2 => by omega, fun x _ _ _ => rfl⟩
  | k + 1, hk => by
    obtain ⟨h, u⟩ := und_all hf hg hi hm hs k (by omega)
    have ho : orb n f i (k + 1) < n := orb_lt hf hi _
    have hne : orb n f i (k + 1) ≠ i := hm.least (k + 1) (by omega) (by omega)
    have hdiff : ∀ j, 1 ≤ j → j ≤ k → orb n f i j ≠ orb n f i (k + 1) := fun j h1 h2 => orb_inj hf hi hm (by omega) (by omega)
    refine ⟨swp n h i (orb n f i (k + 1)), isRow_swp u.row hi ho, ?_, ?_, ?_, ?_⟩
    · have h1 := swp_odd u.row hi ho (fun e => hne e.symm)
      have h2 := u.sign
      omega
    · rw [swp_at _ hi, if_pos rfl, u.rest _ ho hne (fun j h1 h2 e => hdiff j h1 h2 e.symm), hs, orb_succ hf hi (k + 1)]
      have := hf.lo _ ho
      omega
    · intro j h1 h2
      rw [swp_at _ (orb_lt hf hi j)]
      have hji : orb n f i j ≠ i := hm.least j h1 (by omega)
      rw [if_neg hji]
      by_cases e : j = k + 1
      · subst e; rw [if_pos rfl, u.head]
      · rw [if_neg (hdiff j h1 (by omega)), u.done j h1 (by omega)]
    · intro x hx hxi hxj
      rw [swp_at _ hx, if_neg hxi, if_neg (hxj (k + 1) (by omega) (Nat.le_refl _)), u.rest x hx hxi (fun j h1 h2 => hxj j h1 (by omega))]

/-- a place is in the cycle from i on if it is on its way, however far -/
theorem orb_mod {n : Nat} {f : Nat → Nat} (h : IsRow n f) {i m : Nat} (hi : i < n) (hm : IsPer n f i m) (j : Nat) : orb n f i j = orb n f i (j % m) := by
  have e : j = j % m + m * (j / m) := (Nat.mod_add_div j m).symm
  have h1 := orb_add h hi (j % m) (m * (j / m))
  rw [orb_times h hi hm.back] at h1
  rw [← h1, ← e]
theorem mem_cyc {n : Nat} {f : Nat → Nat} (h : IsRow n f) {i : Nat} (hi : i < n) {x : Int} : x ∈ cyc n f i ↔ ∃ j, x = ((orb n f i j + 1 : Nat) : Int) := by
  have hp := perN_spec h hi
  unfold cyc
  rw [mem_cycTo]
  constructor
  · rintro ⟨j, _, e⟩; exact ⟨j, e⟩
  · rintro ⟨j, e⟩
    exact ⟨j % perN n f i, Nat.mod_lt _ hp.pos, by rw [e, orb_mod h hi hp j]⟩
theorem mem_cyc_flip {n : Nat} {f : Nat → Nat} (h : IsRow n f) {i : Nat} (hi : i < n) {j s : Nat} (hs : s < n) (hm : ((orb n f i j + 1 : Nat) : Int) ∈ cyc n f s) : ((i : Int) + 1) ∈ cyc n f s := by
  obtain ⟨a, ea⟩ := (mem_cyc h hs).1 hm
  have hp := perN_spec h hi
  have e1 : orb n f i j = orb n f s a := by omega
  -- go on to a whole number of rounds
  have e2 : orb n f i (perN n f i * (j + 1) - j + j) = i := by
    rw [Nat.sub_add_cancel (Nat.le_trans (Nat.le_succ j) (Nat.le_mul_of_pos_left _ hp.pos))]
    exact orb_times h hi hp.back _
  rw [orb_add h hi, e1, ← orb_add h hs] at e2
  exact (mem_cyc h hs).2 ⟨_, by rw [e2]; simp⟩
theorem cycs_mem {n : Nat} {f : Nat → Nat} (h : IsRow n f) {k : Nat} (hk : k ≤ n) {x : Int} : x ∈ (cycs n f k).flatten → ∃ s, s < n ∧ x ∈ cyc n f s ∧ cyc n f s ∈ cycs n f k := by
  intro hx
  obtain ⟨c, hc, hxc⟩ := List.mem_flatten.1 hx
  obtain ⟨s, hs, e⟩ := cycs_all h k hk c hc
  subst e
  exact ⟨s, hs, hxc, hc⟩
theorem cycs_flip {n : Nat} {f : Nat → Nat} (h : IsRow n f) {k : Nat} (hk : k ≤ n) {i j : Nat} (hi : i < n) (hx : ((orb n f i j + 1 : Nat) : Int) ∈ (cycs n f k).flatten) : ((i : Int) + 1) ∈ (cycs n f k).flatten := by
  obtain ⟨s, hs, h1, h2⟩ := cycs_mem h hk hx
  exact List.mem_flatten.2 ⟨_, h2, mem_cyc_flip h hi hs h1⟩
theorem cycs_cov {n : Nat} {f : Nat → Nat} (h : IsRow n f) : ∀ k, k ≤ n → ∀ x, x < k → ((x : Int) + 1) ∈ (cycs n f k).flatten ∨ f x = 49 + x
  | 0, _, x, hx => by omega
  | k + 1, hk, x, hx => by
    by_cases hd : ((k : Int) + 1) ∈ (cycs n f k).flatten ∨ f k = 49 + k
    · rw [cycs_skip hd]
      by_cases e : x = k
      · subst e; exact hd
      · exact cycs_cov h k (by omega) x (by omega)
    · rw [cycs_add hd]
      by_cases e : x = k
      · subst e
        refine Or.inl (List.mem_flatten.2 ⟨cyc n f x, by simp, (mem_cyc h (by omega)).2 ⟨0, ?_⟩⟩)
        rw [orb_zero f (by omega)]; simp
      · rcases cycs_cov h k (by omega) x (by omega) with q | q
        · refine Or.inl ?_
          rw [List.flatten_append]
          exact List.mem_append_left _ q
        · exact Or.inr q
/-- how many exchanges the cycles take -/
def swapsOf : List (List Int) → Nat
  | [] => 0
  | c :: l => (c.length - 1) + swapsOf l
theorem swapsOf_append : ∀ a b, swapsOf (a ++ b) = swapsOf a + swapsOf b
  | [], b => by simp [swapsOf]
  | c :: a, b => by
    show (c.length - 1) + swapsOf (a ++ b) = (c.length - 1) + swapsOf a + swapsOf b
    rw [swapsOf_append a b]; omega
structure Und2 (n : Nat) (f : Nat → Nat) (k : Nat) (g : Nat → Nat) : Prop where
  row : IsRow n g
  sign : (invB g n + swapsOf (cycs n f k)) % 2 = invB f n % 2
  done : ∀ x, x < n → ((x : Int) + 1) ∈ (cycs n f k).flatten → g x = 49 + x
  rest : ∀ x, x < n → ¬ ((x : Int) + 1) ∈ (cycs n f k).flatten → g x = f x
theorem und2_all {n : Nat} {f : Nat → Nat} (hf : IsRow n f) : ∀ k, k ≤ n → ∃ g, Und2 n f k g
  | 0, _ => ⟨f, hf, rfl, fun x _ h => by simp [cycs] at h, fun x _ _ => rfl⟩
  | k + 1, hk => by
    obtain ⟨g, u⟩ := und2_all hf k (by omega)
    by_cases hd : ((k : Int) + 1) ∈ (cycs n f k).flatten ∨ f k = 49 + k
    · refine ⟨g, ?_⟩
      have := cycs_skip hd
      exact ⟨u.row, by rw [this]; exact u.sign, by rw [this]; exact u.done, by rw [this]; exact u.rest⟩
    · have hkn : k < n := by omega
      have hp := perN_spec hf hkn
      have hnot : ∀ j, ¬ ((orb n f k j + 1 : Nat) : Int) ∈ (cycs n f k).flatten := fun j q => hd (Or.inl (cycs_flip hf (by omega) hkn q))
      obtain ⟨h, v⟩ := und_all hf u.row hkn hp (fun j => u.rest _ (orb_lt hf hkn j) (by have := hnot j; simpa using this)) (perN n f k - 1) (by have := hp.pos; omega)
      have hpos := hp.pos
      have hmem : ∀ x : Int, x ∈ (cycs n f (k + 1)).flatten ↔ x ∈ (cycs n f k).flatten ∨ x ∈ cyc n f k := by
        intro x
        rw [cycs_add hd, List.flatten_append, List.mem_append]
        simp
      have hfix : ∀ j, h (orb n f k j) = 49 + orb n f k j := by
        intro j
        rw [orb_mod hf hkn hp j]
        have hlt := Nat.mod_lt j hp.pos
        by_cases e : j % perN n f k = 0
        · rw [e, orb_zero f hkn, v.head, Nat.sub_add_cancel hpos, hp.back]
        · exact v.done _ (by omega) (by omega)
      refine ⟨h, v.row, ?_, ?_, ?_⟩
      · rw [cycs_add hd, swapsOf_append]
        have e : swapsOf [cyc n f k] = perN n f k - 1 := by simp [swapsOf, cyc, cycTo_len]
        have h1 := v.sign
        have h2 := u.sign
        omega
      · intro x hx hm
        by_cases q : ((x : Int) + 1) ∈ cyc n f k
        · obtain ⟨j, ej⟩ := (mem_cyc hf hkn).1 q
          have : x = orb n f k j := by omega
          rw [this]; exact hfix j
        · have hm' := ((hmem _).1 hm).resolve_right q
          rw [v.rest x hx (fun e => q ((mem_cyc hf hkn).2 ⟨0, by rw [orb_zero f hkn, e]; simp⟩)) (fun j _ _ e => q ((mem_cyc hf hkn).2 ⟨j, by rw [e]; simp⟩))]
          exact u.done x hx hm'
      · intro x hx hm
        have q1 : ¬ ((x : Int) + 1) ∈ (cycs n f k).flatten := fun q => hm ((hmem _).2 (Or.inl q))
        have q : ¬ ((x : Int) + 1) ∈ cyc n f k := fun q => hm ((hmem _).2 (Or.inr q))
        rw [v.rest x hx (fun e => q ((mem_cyc hf hkn).2 ⟨0, by rw [orb_zero f hkn, e]; simp⟩)) (fun j _ _ e => q ((mem_cyc hf hkn).2 ⟨j, by rw [e]; simp⟩))]
        exact u.rest x hx q1
set_option maxRecDepth 100000 in
theorem rd_inv0 : ∀ n, n < 9 → invB (rdf n) n = 0 := by decide
/-- the sign is that of the exchanges of the cycles -/
theorem sign_cycs {n : Nat} {f : Nat → Nat} (hf : IsRow n f) : evenB (invB f n) = evenB (swapsOf (cycs n f n)) := by
  obtain ⟨g, u⟩ := und2_all hf n (Nat.le_refl _)
  have e : g = rdf n := row_ext u.row (isRow_rdf hf.three hf.eight) fun x hx => by
    have e2 : rdf n x = 49 + x := by simp only [rdf, hx, if_true]
    rw [e2]
    by_cases q : ((x : Int) + 1) ∈ (cycs n f n).flatten
    · exact u.done x hx q
    · rw [u.rest x hx q]
      exact (cycs_cov hf n (Nat.le_refl _) x hx).resolve_left q
  have h1 := u.sign
  rw [e, rd_inv0 n (by have := hf.eight; omega)] at h1
  unfold evenB
  rw [← h1, Nat.zero_add]
end Go.Proofs.Ytnildepdpkbekaa
