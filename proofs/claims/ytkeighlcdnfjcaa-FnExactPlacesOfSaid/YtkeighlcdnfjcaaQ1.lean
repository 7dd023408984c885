/- Plain facts on changes: which texts are changes, all of them in order, the rows that they make. No program here. -/
import Derived.Test.YtkeighlcdnfjcaaP2
namespace Go.Proofs.Ytkeighlcdnfjcaa

/-- the letters of a text -/
def lets (s : ByteArray) : List Nat := (List.range s.size).map (dg s)
theorem lets_len (s : ByteArray) : (lets s).length = s.size := by simp [lets]
theorem lets_drop (s : ByteArray) (i : Nat) (hi : i < s.size) : (lets s).drop i = dg s i :: (lets s).drop (i + 1) := by
  rw [List.drop_eq_getElem_cons (by rw [lets_len]; exact hi)]
  simp [lets]
theorem lets_all (s : ByteArray) : (lets s).drop s.size = [] := List.drop_eq_nil_of_le (by rw [lets_len]; exact Nat.le_refl _)
/-- the text of some letters -/
def txt (l : List Nat) : ByteArray := ⟨(l.map UInt8.ofNat).toArray⟩
theorem txt_size (l : List Nat) : (txt l).size = l.length := by simp [txt, ByteArray.size]
theorem txt_lets (s : ByteArray) : txt (lets s) = s := by
  apply bytes_ext
  · rw [txt_size, lets_len]
  · intro k h1 h2
    have : (txt (lets s))[k] = (lets s |>.map UInt8.ofNat)[k]'(by simpa [lets_len] using h2) := rfl
    rw [this]
    simp [lets, dg, h2]
theorem dg_txt (l : List Nat) (hl : ∀ b ∈ l, b < 256) (k : Nat) (hk : k < l.length) : dg (txt l) k = l[k] := by
  have h : k < (txt l).size := by rw [txt_size]; exact hk
  have : (txt l)[k] = (l.map UInt8.ofNat)[k]'(by simpa using hk) := rfl
  have hb := hl _ (List.getElem_mem hk)
  simp only [dg, h, dif_pos, this, List.getElem_map]
  simp [UInt8.toNat_ofNat']; omega
theorem lets_txt (l : List Nat) (hl : ∀ b ∈ l, b < 256) : lets (txt l) = l := by
  apply List.ext_getElem
  · rw [lets_len, txt_size]
  · intro k h1 h2
    simp only [lets, List.getElem_map, List.getElem_range]
    exact dg_txt l hl k h2

/-- the scan of the rest of a change, behind the place 'last' -/
def scanB (n : Nat) : Nat → List Nat → Bool
  | last, [] => (n - last) % 2 == 0
  | last, b :: t => decide (48 + last + 1 ≤ b) && decide (b ≤ 48 + n) && ((b - 48 - last) % 2 == 1) && scanB n (b - 48) t
/-- whether these letters are a change -/
def goodL (n : Nat) (l : List Nat) : Bool :=
  decide (3 ≤ n) && decide (n ≤ 8) && decide (l ≠ []) && decide (l.length ≤ n - 2) && (if l = [45] then n % 2 == 0 else scanB n 0 l)

/-- all rests behind the place 'last', in order -/
def tails (n : Nat) : Nat → Nat → List (List Nat)
  | 0, last => if (n - last) % 2 = 0 then [[]] else []
  | k + 1, last => (if (n - last) % 2 = 0 then [[]] else []) ++ (List.range n).flatMap fun j => if last < j + 1 ∧ (j + 1 - last) % 2 = 1 then (tails n k (j + 1)).map (fun t => (49 + j) :: t) else []
theorem mem_tails (n : Nat) : ∀ (l : List Nat) (k last : Nat), l.length ≤ k → scanB n last l = true → l ∈ tails n k last
  | [], 0, last, _, h => by simp [scanB] at h; simp [tails, h]
  | [], k + 1, last, _, h => by simp [scanB] at h; simp [tails, h]
  | b :: t, 0, last, hk, _ => by simp at hk
  | b :: t, k + 1, last, hk, h => by
    simp only [scanB, Bool.and_eq_true, decide_eq_true_eq, beq_iff_eq] at h
    obtain ⟨⟨⟨h1, h2⟩, h3⟩, h4⟩ := h
    simp only [tails, List.mem_append, List.mem_flatMap, List.mem_range]
    refine .inr ⟨b - 49, by omega, ?_⟩
    have e : b - 49 + 1 = b - 48 := by omega
    rw [e, if_pos ⟨by omega, h3⟩, List.mem_map]
    exact ⟨t, mem_tails n t k (b - 48) (by simpa using hk) h4, by congr 1; omega⟩
/-- all changes of a stage, in order -/
def chs (n : Nat) : List (List Nat) := (if n % 2 = 0 then [[45]] else []) ++ (tails n 8 0).filter fun l => decide (l ≠ []) && decide (l.length ≤ n - 2)
theorem stages {P : Nat → Prop} (n : Nat) (h3 : 3 ≤ n) (h8 : n ≤ 8) (a3 : P 3) (a4 : P 4) (a5 : P 5) (a6 : P 6) (a7 : P 7) (a8 : P 8) : P n := by
  have : n = 3 ∨ n = 4 ∨ n = 5 ∨ n = 6 ∨ n = 7 ∨ n = 8 := by omega
  rcases this with rfl | rfl | rfl | rfl | rfl | rfl <;> assumption
theorem goodL_three {n : Nat} {l : List Nat} (h : goodL n l = true) : 3 ≤ n := by simp [goodL] at h; omega
theorem goodL_eight {n : Nat} {l : List Nat} (h : goodL n l = true) : n ≤ 8 := by simp [goodL] at h; omega
theorem mem_chs {n : Nat} {l : List Nat} (h : goodL n l = true) : l ∈ chs n := by
  simp only [goodL, Bool.and_eq_true, decide_eq_true_eq] at h
  obtain ⟨⟨⟨⟨h3, h8⟩, hne⟩, hlen⟩, h⟩ := h
  simp only [chs, List.mem_append, List.mem_filter, Bool.and_eq_true, decide_eq_true_eq]
  by_cases e : l = [45]
  · subst e
    simp at h
    simp [h]
  · rw [if_neg e] at h
    exact .inr ⟨mem_tails n l 8 0 (by omega) h, hne, hlen⟩

/-- the row that the rest of a change makes of the places from i on (k: rounds left) -/
def rowS (n : Nat) : Nat → Nat → List Nat → List Nat
  | 0, _, _ => []
  | k + 1, i, l => if n ≤ i then [] else match l with
    | b :: t => if b = 49 + i then (49 + i) :: rowS n k (i + 1) t else (50 + i) :: (49 + i) :: rowS n k (i + 2) (b :: t)
    | [] => (50 + i) :: (49 + i) :: rowS n k (i + 2) []
/-- the row of a change -/
def cl (n : Nat) (l : List Nat) : List Nat := rowS n n 0 (if l = [45] then [] else l)
def cf (n : Nat) (l : List Nat) (i : Nat) : Nat := (cl n l).getD i 0
/-- pairs swapped from place a (counted from 0) up to e -/
def swF (d : Nat → Nat) (a e i : Nat) : Nat := if a ≤ i ∧ i < e then (if (i - a) % 2 = 0 then d (i + 1) else d (i - 1)) else d i
/-- the program's road along the letters: the row, if they are a change -/
def walkC (n : Nat) : Nat → (Nat → Nat) → List Nat → Option (Nat → Nat)
  | last, d, [] => if (n - last) % 2 = 0 then some (swF d last n) else none
  | last, d, b :: t => if 48 + last + 1 ≤ b ∧ b ≤ 48 + n then (if (b - 48 - last) % 2 = 1 then walkC n (b - 48) (swF d last (b - 49)) t else none) else none
theorem walkC_none (n : Nat) : ∀ (l : List Nat) (last : Nat) (d : Nat → Nat), scanB n last l = false → walkC n last d l = none
  | [], last, d, h => by simp [scanB] at h; simp [walkC, h]
  | b :: t, last, d, h => by
    unfold walkC
    by_cases h1 : 48 + last + 1 ≤ b ∧ b ≤ 48 + n
    · rw [if_pos h1]
      by_cases h2 : (b - 48 - last) % 2 = 1
      · rw [if_pos h2]
        exact walkC_none n t _ _ (by simpa [scanB, h1, h2] using h)
      · rw [if_neg h2]
    · rw [if_neg h1]
theorem walkC_some (n : Nat) : ∀ (l : List Nat) (last : Nat) (d : Nat → Nat), scanB n last l = true → ∃ e, walkC n last d l = some e
  | [], last, d, h => by simp [scanB] at h; exact ⟨swF d last n, by simp [walkC, h]⟩
  | b :: t, last, d, h => by
    simp only [scanB, Bool.and_eq_true, decide_eq_true_eq, beq_iff_eq] at h
    obtain ⟨⟨⟨h1, h2⟩, h3⟩, h4⟩ := h
    unfold walkC
    rw [if_pos ⟨h1, h2⟩, if_pos h3]
    exact walkC_some n t _ _ h4
/-- the first eight -/
def to8 (f : Nat → Nat) : List Nat := (List.range 8).map f
/-- what the program's road gives, all told: none where the letters are no change, else the change's row -/
def walkOk (n : Nat) (l : List Nat) : Bool :=
  match walkC n 0 (rdf n) (if l = [45] then [] else l) with
  | none => false
  | some e => to8 e == to8 (cf n l)
def tailOk (n : Nat) (l : List Nat) : Bool :=
  decide (l = []) || decide (l.length ≤ n - 2) || (match walkC n 0 (rdf n) l with | none => false | some e => to8 e == to8 (rdf n))
theorem walks_ok (n : Nat) (h3 : 3 ≤ n) (h8 : n ≤ 8) : ∀ l ∈ chs n, walkOk n l = true := by
  revert h3 h8
  have : ∀ n, n < 9 → 3 ≤ n → ∀ l ∈ chs n, walkOk n l = true := by decide +kernel
  exact fun h3 h8 => this n (by omega) h3
theorem tails_ok (n : Nat) (h3 : 3 ≤ n) (h8 : n ≤ 8) : ∀ l ∈ tails n 8 0, tailOk n l = true := by
  have : ∀ n, n < 9 → 3 ≤ n → ∀ l ∈ tails n 8 0, tailOk n l = true := by decide +kernel
  exact this n (by omega) h3
theorem scan_len (n : Nat) : ∀ (l : List Nat) (last : Nat), scanB n last l = true → last ≤ n → l.length ≤ n - last
  | [], _, _, _ => by simp
  | b :: t, last, h, hl => by
    simp only [scanB, Bool.and_eq_true, decide_eq_true_eq, beq_iff_eq] at h
    obtain ⟨⟨⟨h1, h2⟩, h3⟩, h4⟩ := h
    have := scan_len n t _ h4 (by omega)
    simp only [List.length_cons]
    omega
/-- the program's whole test -/
theorem walk_good (n : Nat) (h3 : 3 ≤ n) (h8 : n ≤ 8) (l : List Nat) (h : goodL n l = true) : ∃ e, walkC n 0 (rdf n) (if l = [45] then [] else l) = some e ∧ to8 e = to8 (cf n l) := by
  have := walks_ok n h3 h8 l (mem_chs h)
  unfold walkOk at this
  split at this
  · cases this
  · rename_i e he
    exact ⟨e, he, by simpa using this⟩
theorem walk_bad (n : Nat) (h3 : 3 ≤ n) (h8 : n ≤ 8) (l : List Nat) (hne : l ≠ []) (h : goodL n l = false) : walkC n 0 (rdf n) (if l = [45] then [] else l) = none ∨ ∃ e, walkC n 0 (rdf n) (if l = [45] then [] else l) = some e ∧ to8 e = to8 (rdf n) := by
  by_cases e : l = [45]
  · subst e
    simp [goodL, h3, h8] at h
    left
    rw [if_pos rfl]
    have hodd : n % 2 = 1 := by
      rcases Nat.lt_or_ge (n - 2) 1 with h1 | h1
      · omega
      · have := h (by omega); omega
    simp [walkC, hodd]
  · rw [if_neg e]
    by_cases hs : scanB n 0 l = true
    · right
      have hl := scan_len n l 0 hs (by omega)
      have ht := tails_ok n h3 h8 l (mem_tails n l 8 0 (by omega) hs)
      have hbig : ¬ l.length ≤ n - 2 := fun hle => by simp [goodL, h3, h8, hne, hle, e, hs] at h
      simp only [tailOk, hne, hbig, decide_false, Bool.false_or] at ht
      split at ht
      · cases ht
      · rename_i e he
        exact ⟨e, he, by simpa using ht⟩
    · exact .inl (walkC_none n l 0 _ (by simpa using hs))
theorem to8_at {f g : Nat → Nat} (h : to8 f = to8 g) (i : Nat) (hi : i < 8) : f i = g i := by
  have := congrArg (fun l => l.getD i 0) h
  simpa [to8, List.getD_eq_getElem?_getD, hi] using this
theorem chs_small (n : Nat) (h3 : 3 ≤ n) (h8 : n ≤ 8) : ∀ l ∈ chs n, goodL n l = true ∧ (∀ b ∈ l, b < 58) ∧ (cl n l).length = n ∧ ∃ i, i < n ∧ cf n l i ≠ rdf n i := by
  have : ∀ n, n < 9 → 3 ≤ n → ∀ l ∈ chs n, goodL n l = true ∧ (∀ b ∈ l, b < 58) ∧ (cl n l).length = n ∧ (List.range n).any (fun i => cf n l i != rdf n i) = true := by decide +kernel
  intro l hl
  obtain ⟨a, b, c, d⟩ := this n (by omega) h3 l hl
  refine ⟨a, b, c, ?_⟩
  simpa using d
def rowOk (n : Nat) (l : List Nat) : Bool := (List.range n).all fun i => decide (49 ≤ cf n l i) && decide (cf n l i ≤ 48 + n) && (List.range n).all fun j => decide (i = j) || decide (cf n l i ≠ cf n l j)
theorem isRow_cf {n : Nat} {l : List Nat} (h : goodL n l = true) : IsRow n (cf n l) := by
  have h3 := goodL_three h
  have h8 := goodL_eight h
  have hk : ∀ n, n < 9 → 3 ≤ n → ∀ l ∈ chs n, rowOk n l = true := by decide +kernel
  have := hk n (by omega) h3 l (mem_chs h)
  simp only [rowOk, List.all_eq_true, List.mem_range, Bool.and_eq_true, Bool.or_eq_true, decide_eq_true_eq] at this
  refine isRow_mk h3 h8 (fun i hi => (this i hi).1.1) (fun i hi => (this i hi).1.2) (fun i j hi hj e => ?_) (fun i hi => ?_)
  · rcases (this i hi).2 j hj with h | h
    · exact h
    · exact absurd e h
  · have := (chs_small n h3 h8 l (mem_chs h)).2.2.1
    simp [cf, List.getD_eq_getElem?_getD, this, hi]
end Go.Proofs.Ytkeighlcdnfjcaa
