/- Leads: rows, heads, orders of turned leads, bells that keep their places. -/
import Derived.Test.YtpfnamiacagocaaT4
namespace Go.Proofs.Ytpfnamiacagocaa
open Go.RowKit
set_option linter.unusedSimpArgs false
set_option linter.unusedVariables false

/-- the rows that these changes make of a row, the last one left out -/
def leadF (n : Nat) : List (Nat → Nat) → (Nat → Nat) → List (Nat → Nat)
  | [], _ => []
  | c :: cs, f => f :: leadF n cs (mulR n f c)
/-- the row that they make in the end -/
def endF (n : Nat) : List (Nat → Nat) → (Nat → Nat) → (Nat → Nat)
  | [], f => f
  | c :: cs, f => endF n cs (mulR n f c)
theorem leadF_len (n : Nat) : ∀ (cs : List (Nat → Nat)) (f : Nat → Nat), (leadF n cs f).length = cs.length
  | [], _ => rfl
  | c :: cs, f => by simp [leadF, leadF_len n cs]
def Rows (n : Nat) (cs : List (Nat → Nat)) : Prop := ∀ c ∈ cs, IsRow n c
theorem Rows.tail {n : Nat} {c : Nat → Nat} {cs : List (Nat → Nat)} (h : Rows n (c :: cs)) : Rows n cs := fun x hx => h x (List.mem_cons_of_mem _ hx)
theorem Rows.head {n : Nat} {c : Nat → Nat} {cs : List (Nat → Nat)} (h : Rows n (c :: cs)) : IsRow n c := h c List.mem_cons_self
theorem Rows.app {n : Nat} {a b : List (Nat → Nat)} (h : Rows n a) (k : Rows n b) : Rows n (a ++ b) := fun x hx => by
  rcases List.mem_append.1 hx with q | q
  · exact h x q
  · exact k x q
theorem Rows.take {n : Nat} {a : List (Nat → Nat)} (h : Rows n a) (k : Nat) : Rows n (a.take k) := fun x hx => h x (List.mem_of_mem_take hx)
theorem Rows.drop {n : Nat} {a : List (Nat → Nat)} (h : Rows n a) (k : Nat) : Rows n (a.drop k) := fun x hx => h x (List.mem_of_mem_drop hx)
theorem isRow_end {n : Nat} : ∀ {cs : List (Nat → Nat)} {f : Nat → Nat}, Rows n cs → IsRow n f → IsRow n (endF n cs f)
  | [], f, _, hf => hf
  | c :: cs, f, h, hf => isRow_end (cs := cs) h.tail (isRow_mul hf h.head)
theorem rows_lead {n : Nat} : ∀ {cs : List (Nat → Nat)} {f : Nat → Nat}, Rows n cs → IsRow n f → Rows n (leadF n cs f)
  | [], f, _, hf => fun x hx => by simp [leadF] at hx
  | c :: cs, f, h, hf => fun x hx => by
    rcases List.mem_cons.1 hx with rfl | q
    · exact hf
    · exact rows_lead (cs := cs) h.tail (isRow_mul hf h.head) x q
theorem endF_app (n : Nat) : ∀ (a b : List (Nat → Nat)) (f : Nat → Nat), endF n (a ++ b) f = endF n b (endF n a f)
  | [], b, f => rfl
  | c :: a, b, f => endF_app n a b (mulR n f c)
theorem endF_mul {n : Nat} : ∀ {cs : List (Nat → Nat)} {f g : Nat → Nat}, Rows n cs → IsRow n f → IsRow n g → endF n cs (mulR n f g) = mulR n f (endF n cs g)
  | [], f, g, _, _, _ => rfl
  | c :: cs, f, g, h, hf, hg => by
    show endF n cs (mulR n (mulR n f g) c) = mulR n f (endF n cs (mulR n g c))
    rw [mulR_assoc hf hg h.head]
    exact endF_mul h.tail hf (isRow_mul hg h.head)
/-- what the changes make of rounds -/
def headF (n : Nat) (cs : List (Nat → Nat)) : Nat → Nat := endF n cs (rdf n)
theorem isRow_head {n : Nat} {cs : List (Nat → Nat)} (h3 : 3 ≤ n) (h8 : n ≤ 8) (h : Rows n cs) : IsRow n (headF n cs) := isRow_end h (isRow_rdf h3 h8)
theorem endF_head {n : Nat} {cs : List (Nat → Nat)} {f : Nat → Nat} (h : Rows n cs) (hf : IsRow n f) : endF n cs f = mulR n f (headF n cs) := by
  have := endF_mul h hf (isRow_rdf hf.three hf.eight)
  rw [mul_rounds hf] at this
  exact this
theorem headF_app {n : Nat} {a b : List (Nat → Nat)} (h3 : 3 ≤ n) (h8 : n ≤ 8) (ha : Rows n a) (hb : Rows n b) : headF n (a ++ b) = mulR n (headF n a) (headF n b) := by
  unfold headF
  rw [endF_app]
  exact endF_head hb (isRow_head h3 h8 ha)
theorem leadF_at {n : Nat} : ∀ (cs : List (Nat → Nat)) (f : Nat → Nat) (k : Nat), k < cs.length → (leadF n cs f)[k]? = some (endF n (cs.take k) f)
  | [], f, k, h => by simp at h
  | c :: cs, f, 0, h => rfl
  | c :: cs, f, k + 1, h => by
    show (leadF n cs (mulR n f c))[k]? = _
    rw [leadF_at cs (mulR n f c) k (by simpa using h)]
    rfl
/-- products in the two orders have one order -/
theorem pow_swap {n : Nat} {f g : Nat → Nat} (hf : IsRow n f) (hg : IsRow n g) : ∀ k, mulR n (powR n (mulR n f g) k) f = mulR n f (powR n (mulR n g f) k)
  | 0 => by
    show mulR n (rdf n) f = mulR n f (rdf n)
    rw [mul_rounds hf, rounds_mul hf]
  | k + 1 => by
    show mulR n (mulR n (powR n (mulR n f g) k) (mulR n f g)) f = mulR n f (mulR n (powR n (mulR n g f) k) (mulR n g f))
    have h1 := isRow_pow (isRow_mul hf hg) k
    have h2 := isRow_pow (isRow_mul hg hf) k
    rw [mulR_assoc h1 (isRow_mul hf hg) hf, mulR_assoc hf hg hf, ← mulR_assoc h1 hf (isRow_mul hg hf), pow_swap hf hg k, mulR_assoc hf h2 (isRow_mul hg hf)]
theorem mul_cancel {n : Nat} {f g h : Nat → Nat} (hf : IsRow n f) (hg : IsRow n g) (hh : IsRow n h) (e : mulR n f g = mulR n f h) : g = h := by
  have := congrArg (mulR n (invF n f)) e
  rwa [← mulR_assoc (isRow_inv hf) hf hg, ← mulR_assoc (isRow_inv hf) hf hh, inv_mul hf, rounds_mul hg, rounds_mul hh] at this
theorem pow_back {n : Nat} {f g : Nat → Nat} (hf : IsRow n f) (hg : IsRow n g) (k : Nat) (h : powR n (mulR n f g) k = rdf n) : powR n (mulR n g f) k = rdf n := by
  have e := pow_swap hf hg k
  rw [h, rounds_mul hf] at e
  refine (mul_cancel hf (isRow_rdf hf.three hf.eight) (isRow_pow (isRow_mul hg hf) k) ?_).symm
  rw [mul_rounds hf]
  exact e
theorem ord_swap {n : Nat} {f g : Nat → Nat} (hf : IsRow n f) (hg : IsRow n g) {m : Nat} (h : IsOrd n (mulR n f g) m) : IsOrd n (mulR n g f) m :=
  ⟨h.pos, h.le, pow_back hf hg m h.back, fun j h1 h2 e => h.least j h1 h2 (pow_back hg hf j e)⟩

/-- bells in their own places -/
def home (n : Nat) (f : Nat → Nat) : List Nat := ((List.range n).filter fun i => f i == 49 + i).map (· + 1)
theorem home_len (n : Nat) (f : Nat → Nat) : (home n f).length ≤ n := by
  unfold home
  rw [List.length_map]
  refine Nat.le_trans (List.length_filter_le _ _) ?_
  simp
theorem mem_home {n : Nat} {f : Nat → Nat} {b : Nat} : b ∈ home n f ↔ 1 ≤ b ∧ b ≤ n ∧ f (b - 1) = 48 + b := by
  unfold home
  rw [List.mem_map]
  constructor
  · rintro ⟨i, hi, rfl⟩
    rw [List.mem_filter, List.mem_range, beq_iff_eq] at hi
    refine ⟨by omega, by omega, ?_⟩
    rw [Nat.add_sub_cancel, hi.2]
    omega
  · rintro ⟨h1, h2, h3⟩
    refine ⟨b - 1, ?_, by omega⟩
    rw [List.mem_filter, List.mem_range, beq_iff_eq]
    exact ⟨by omega, by omega⟩
/-- places that every change keeps -/
def keptL (n : Nat) (cs : List (Nat → Nat)) : List Nat := ((List.range n).filter fun i => cs.all fun c => c i == 49 + i).map (· + 1)
theorem keptL_one (n : Nat) (c : Nat → Nat) : keptL n [c] = home n c := by simp [keptL, home]
theorem keptL_snoc (n : Nat) (cs : List (Nat → Nat)) (c : Nat → Nat) : keptL n (cs ++ [c]) = (keptL n cs).filter fun b => c (b - 1) == 48 + b := by
  unfold keptL
  rw [List.filter_map, List.filter_filter]
  congr 1
  refine List.filter_congr fun i hi => ?_
  rw [List.all_append, Bool.and_comm]
  have e : 48 + (i + 1) = 49 + i := by omega
  simp [e]
theorem keptL_len (n : Nat) (cs : List (Nat → Nat)) : (keptL n cs).length ≤ n := by
  unfold keptL
  rw [List.length_map]
  refine Nat.le_trans (List.length_filter_le _ _) ?_
  simp
/-- bells that stand in their own places in these rows -/
def stillL (n : Nat) (rs : List (Nat → Nat)) : List Nat := ((List.range n).filter fun i => rs.all fun c => c i == 49 + i).map (· + 1)
theorem keep_at {n : Nat} {i : Nat} (hi : i < n) : ∀ {cs : List (Nat → Nat)} {f : Nat → Nat}, Rows n cs → IsRow n f → f i = 49 + i →
    (((leadF n cs f ++ [endF n cs f]).all fun c => c i == 49 + i) = (cs.all fun c => c i == 49 + i))
  | [], f, _, hf, h => by simp [leadF, endF, h]
  | c :: cs, f, h, hf, hfi => by
    show ((f :: (leadF n cs (mulR n f c) ++ [endF n cs (mulR n f c)])).all fun c => c i == 49 + i) = _
    rw [List.all_cons, List.all_cons, beq_iff_eq.2 hfi, Bool.true_and]
    by_cases hc : c i = 49 + i
    · rw [beq_iff_eq.2 hc, Bool.true_and]
      refine keep_at hi h.tail (isRow_mul hf h.head) ?_
      rw [mulR_at f c hi, hc]
      simpa using hfi
    · rw [beq_eq_false_iff_ne.2 hc, Bool.false_and]
      have hne : mulR n f c i ≠ 49 + i := by
        rw [mulR_at f c hi]
        intro e
        have h1 := h.head.lo i hi
        have h2 := h.head.hi i hi
        have := hf.inj (c i - 49) i (by omega) hi (by rw [e, hfi])
        omega
      have hmem : mulR n f c ∈ leadF n cs (mulR n f c) ++ [endF n cs (mulR n f c)] := by
        cases cs with
        | nil => simp [leadF, endF]
        | cons d ds => simp [leadF]
      refine List.all_eq_false.2 ⟨_, hmem, ?_⟩
      simp [hne]
theorem still_kept {n : Nat} (h3 : 3 ≤ n) (h8 : n ≤ 8) {cs : List (Nat → Nat)} (h : Rows n cs) : stillL n (leadF n cs (rdf n) ++ [headF n cs]) = keptL n cs := by
  unfold stillL keptL
  congr 1
  refine List.filter_congr fun i hi => ?_
  rw [List.mem_range] at hi
  exact keep_at hi h (isRow_rdf h3 h8) (by simp [rdf, hi])
/-- a bell that every change keeps is at home in the head -/
theorem kept_home {n : Nat} (h3 : 3 ≤ n) (h8 : n ≤ 8) {cs : List (Nat → Nat)} (h : Rows n cs) : ∀ b ∈ keptL n cs, b ∈ home n (headF n cs) := by
  intro b hb
  rw [← still_kept h3 h8 h] at hb
  unfold stillL at hb
  obtain ⟨i, hi, rfl⟩ := List.mem_map.1 hb
  rw [List.mem_filter, List.mem_range, List.all_append, Bool.and_eq_true] at hi
  rw [mem_home]
  refine ⟨by omega, by omega, ?_⟩
  have := hi.2.2
  simp at this
  rw [Nat.add_sub_cancel, this]
  omega

/-- the rows of changes -/
def chR (n : Int) (L : List (List Nat)) : List (Nat → Nat) := L.map fun l => chF n (txt l)
theorem chR_len (n : Int) (L : List (List Nat)) : (chR n L).length = L.length := by simp [chR]
theorem chF_row {n : Nat} {s : ByteArray} (h : goodC n s = true) : IsRow n (chF n s) := by
  rw [goodC_in] at h
  rw [chF_yes h]
  exact isRow_cf h
theorem goodAll_rows {n : Nat} {L : List (List Nat)} (h : goodAll n L = true) : Rows n (chR n L) := by
  intro c hc
  obtain ⟨l, hl, rfl⟩ := List.mem_map.1 hc
  exact chF_row (goodAll_mem h l hl)
theorem goodAll_range {n : Int} {L : List (List Nat)} (h : goodAll n L = true) : 3 ≤ n ∧ n ≤ 8 := by
  obtain ⟨l, hl⟩ : ∃ l, l ∈ L := by
    have := (goodAll_len h).1
    cases L with
    | nil => simp at this
    | cons x t => exact ⟨x, List.mem_cons_self⟩
  exact goodC_range (goodAll_mem h l hl)
/-- rows as letters -/
def rowL (n : Nat) (f : Nat → Nat) : List Nat := (List.range n).map f
theorem txt_rowL (n : Nat) (f : Nat → Nat) : txt (rowL n f) = strOf n f := by
  unfold txt rowL strOf
  rw [List.map_map]
  rfl
def rowsL (n : Nat) (fs : List (Nat → Nat)) : List (List Nat) := fs.map (rowL n)
theorem rowsL_len (n : Nat) (fs : List (Nat → Nat)) : (rowsL n fs).length = fs.length := by simp [rowsL]
/-- a course: the rows of so many leads, each from where the last one came to -/
def courseF (n : Nat) (cs : List (Nat → Nat)) : Nat → (Nat → Nat) → List (Nat → Nat)
  | 0, _ => []
  | k + 1, f => leadF n cs f ++ courseF n cs k (endF n cs f)
theorem courseF_len (n : Nat) (cs : List (Nat → Nat)) : ∀ (k : Nat) (f : Nat → Nat), (courseF n cs k f).length = k * cs.length
  | 0, f => by simp [courseF]
  | k + 1, f => by
    simp only [courseF, List.length_append, leadF_len, courseF_len n cs k]
    rw [Nat.succ_mul]
    omega
end Go.Proofs.Ytpfnamiacagocaa
