/- Plain facts: the change that makes a row, and mirrored changes. No program here. -/
import Derived.Test.YtpnagaokmfaaiaaQ3
namespace Go.Proofs.Ytpnagaokmfaaiaa

/-- the places that a row keeps, from place i (counted from 0) on, if its other bells swap in pairs -/
def ctx (n : Nat) (f : Nat → Nat) : Nat → Nat → Option (List Nat)
  | 0, _ => some []
  | k + 1, i => if i < n then (if f i = 49 + i then (ctx n f k (i + 1)).map ((49 + i) :: ·) else if i + 1 < n ∧ f i = 50 + i ∧ f (i + 1) = 49 + i then ctx n f k (i + 2) else none) else some []
theorem ctx_end (n : Nat) (f : Nat → Nat) (k i : Nat) (hi : ¬ i < n) : ctx n f k i = some [] := by
  cases k <;> simp [ctx, hi]
/-- the change that makes a row, as letters -/
def chText (n : Nat) (f : Nat → Nat) : Option (List Nat) :=
  if to8 f = to8 (rdf n) then none else match ctx n f n 0 with
    | none => none
    | some [] => some [45]
    | some (b :: t) => some (b :: t)
theorem ctx_spec (n : Nat) (f : Nat → Nat) : ∀ (k i : Nat) (t : List Nat), n ≤ i + k → i ≤ n → ctx n f k i = some t →
    (∀ b ∈ t, 49 + i ≤ b) ∧ (∀ last, last ≤ i → (i - last) % 2 = 0 → scanB n last t = true) ∧ ∀ j, i + j < n → (rowS n k i t).getD j 0 = f (i + j)
  | 0, i, t, h1, h2, h => by
    simp [ctx] at h
    subst h
    exact ⟨by simp, fun last hl hm => by have : i = n := by omega
                                         subst this; simp [scanB, hm], fun j hj => by omega⟩
  | k + 1, i, t, h1, h2, h => by
    unfold ctx at h
    by_cases hi : i < n
    · rw [if_pos hi] at h
      by_cases hp : f i = 49 + i
      · rw [if_pos hp, Option.map_eq_some_iff] at h
        obtain ⟨t', ht', rfl⟩ := h
        obtain ⟨a1, a2, a3⟩ := ctx_spec n f k (i + 1) t' (by omega) (by omega) ht'
        refine ⟨fun b hb => ?_, fun last hl hm => ?_, fun j hj => ?_⟩
        · rcases List.mem_cons.1 hb with rfl | hb
          · exact Nat.le_refl _
          · have := a1 b hb; omega
        · have := a2 (i + 1) (Nat.le_refl _) (by omega)
          simp only [scanB, Bool.and_eq_true, decide_eq_true_eq, beq_iff_eq]
          rw [show 49 + i - 48 = i + 1 by omega]
          exact ⟨⟨⟨by omega, by omega⟩, by omega⟩, this⟩
        · have hn : ¬ n ≤ i := by omega
          unfold rowS
          rw [if_neg hn]
          simp only [if_true]
          cases j with
          | zero => simp [hp]
          | succ j => have := a3 j (by omega); rw [show i + (j + 1) = i + 1 + j by omega]; simpa using this
      · rw [if_neg hp] at h
        by_cases hs : i + 1 < n ∧ f i = 50 + i ∧ f (i + 1) = 49 + i
        · rw [if_pos hs] at h
          obtain ⟨a1, a2, a3⟩ := ctx_spec n f k (i + 2) t (by omega) (by omega) h
          refine ⟨fun b hb => by have := a1 b hb; omega, fun last hl hm => a2 last (by omega) (by omega), fun j hj => ?_⟩
          have hn : ¬ n ≤ i := by omega
          have hrow : rowS n (k + 1) i t = (50 + i) :: (49 + i) :: rowS n k (i + 2) t := by
            unfold rowS
            rw [if_neg hn]
            cases t with
            | nil => cases k <;> rfl
            | cons b t' =>
              have := a1 b (by simp)
              have hb : ¬ b = 49 + i := by omega
              simp only [if_neg hb]
              cases k <;> rfl
          rw [hrow]
          match j, hj with
          | 0, _ => simp [hs.2.1]
          | 1, _ => simp [hs.2.2]
          | j + 2, hj => have := a3 j (by omega); rw [show i + (j + 2) = i + 2 + j by omega]; simpa using this
        · rw [if_neg hs] at h; cases h
    · rw [if_neg hi] at h
      cases h
      have : i = n := by omega
      subst this
      exact ⟨by simp, fun last hl hm => by simp [scanB, hm], fun j hj => by omega⟩
theorem to8_row {n : Nat} {f g : Nat → Nat} (hf : IsRow n f) (hg : IsRow n g) (h : to8 f = to8 g) : f = g :=
  row_ext hf hg fun i hi => to8_at h i (by have := hf.eight; omega)
theorem tails_rows (n : Nat) (h3 : 3 ≤ n) (h8 : n ≤ 8) : ∀ t ∈ tails n 8 0, t.length ≤ n - 2 ∨ ∀ j, j < n → (rowS n n 0 t).getD j 0 = rdf n j := by
  have : ∀ n, n < 9 → 3 ≤ n → ∀ t ∈ tails n 8 0, (decide (t.length ≤ n - 2) || (List.range n).all fun j => decide ((rowS n n 0 t).getD j 0 = rdf n j)) = true := by decide +kernel
  intro t ht
  have := this n (by omega) h3 t ht
  simpa using this
/-- the program's road from a row to a change is right -/
theorem chText_some {n : Nat} {f : Nat → Nat} (hf : IsRow n f) {l : List Nat} (h : chText n f = some l) : goodL n l = true ∧ cf n l = f := by
  have h3 := hf.three
  have h8 := hf.eight
  unfold chText at h
  by_cases hr : to8 f = to8 (rdf n)
  · rw [if_pos hr] at h; cases h
  · rw [if_neg hr] at h
    cases hc : ctx n f n 0 with
    | none => rw [hc] at h; cases h
    | some t =>
      rw [hc] at h
      obtain ⟨a1, a2, a3⟩ := ctx_spec n f n 0 t (by omega) (by omega) hc
      have hscan := a2 0 (Nat.le_refl _) rfl
      have hlen := scan_len n t 0 hscan (by omega)
      have hmem := mem_tails n t 8 0 (by omega) hscan
      have hsmall : t.length ≤ n - 2 := by
        rcases tails_rows n h3 h8 t hmem with q | q
        · exact q
        · refine absurd ?_ hr
          have : f = rdf n := row_ext hf (isRow_rdf h3 h8) fun i hi => by
            rw [← q i hi]; have := a3 i (by omega); simpa using this.symm
          rw [this]
      have key : ∀ l, goodL n l = true → (if l = [45] then [] else l) = t → cf n l = f := fun l hl e =>
        row_ext (isRow_cf hl) hf fun i hi => by
          unfold cf cl
          rw [e]
          have := a3 i (by omega); simpa using this
      cases t with
      | nil =>
        simp at h
        subst h
        have hg : goodL n [45] = true := by
          simp [scanB] at hscan
          simp [goodL, h3, h8, hscan]; omega
        exact ⟨hg, key _ hg (by simp)⟩
      | cons b t' =>
        simp at h
        subst h
        have hb : ¬ (b :: t') = [45] := fun e => by
          have := a1 b (by simp)
          injection e; omega
        have hg : goodL n (b :: t') = true := by
          simp only [goodL, h3, h8, decide_true, Bool.true_and, if_neg hb, hscan, Bool.and_true, ne_eq, reduceCtorEq, not_false_eq_true]
          simpa using hsmall
        exact ⟨hg, key _ hg (if_neg hb)⟩
def backOk (n : Nat) (l : List Nat) : Bool := chText n (cf n l) == some l
theorem chText_back {n : Nat} {l : List Nat} (h : goodL n l = true) : chText n (cf n l) = some l := by
  have : ∀ n, n < 9 → 3 ≤ n → ∀ l ∈ chs n, backOk n l = true := by decide +kernel
  have h3 := goodL_three h
  have := this n (by have := goodL_eight h; omega) h3 l (mem_chs h)
  simpa [backOk] using this

/-- the text of some places -/
def ofPlaces (ps : List Nat) : List Nat := if ps = [] then [45] else ps.map (48 + ·)
/-- mirrored places, in order -/
def mirP (n : Nat) (l : List Nat) : List Nat := ((placesOf n l).map (n + 1 - ·)).reverse
def mirL (n : Nat) (l : List Nat) : List Nat := ofPlaces (mirP n l)
/-- mirrored digits -/
def mirF (n : Nat) (f : Nat → Nat) (i : Nat) : Nat := if i < n then 49 + n - (f (n - 1 - i) - 48) else 0
def mirOk (n : Nat) (l : List Nat) : Bool :=
  (chText n (mirF n (cf n l)) == some (mirL n l)) && goodL n (mirL n l) && (mirL n (mirL n l) == l) && decide ((placesOf n l).length ≤ 8) && (placesOf n l).all (fun p => decide (1 ≤ p ∧ p ≤ n)) && decide ((placesOf n l).Pairwise (· < ·))
theorem mirrors (n : Nat) (h3 : 3 ≤ n) (h8 : n ≤ 8) : ∀ l ∈ chs n, mirOk n l = true := by
  have : ∀ n, n < 9 → 3 ≤ n → ∀ l ∈ chs n, mirOk n l = true := by decide +kernel
  exact this n (by omega) h3
end Go.Proofs.Ytpnagaokmfaaiaa
