/- The order of rows by their letters; a list of rows sorted. -/
import Derived.Test.YtnoepobbecobbaaSB
namespace Go.Proofs.Ytnoepobbecobbaa
open Go.RowKit

/-- letters as a number -/
def numL : List Nat → Nat
  | [] => 0
  | b :: t => b * 256 ^ t.length + numL t
theorem numL_lt : ∀ (l : List Nat), (∀ b ∈ l, b < 256) → numL l < 256 ^ l.length
  | [], _ => by simp [numL]
  | b :: t, h => by
    have h1 := numL_lt t (fun x hx => h x (by simp [hx]))
    have h2 : b ≤ 255 := by have := h b (by simp); omega
    have h3 : b * 256 ^ t.length ≤ 255 * 256 ^ t.length := Nat.mul_le_mul_right _ h2
    simp only [numL, List.length_cons, Nat.pow_succ]
    omega
theorem lexL_num : ∀ (l r : List Nat), l.length = r.length → (∀ b ∈ l, b < 256) → (∀ b ∈ r, b < 256) → lexL l r = decide (numL l < numL r)
  | [], [], _, _, _ => by simp [lexL, numL]
  | [], _ :: _, h, _, _ => by simp at h
  | _ :: _, [], h, _, _ => by simp at h
  | a :: l, b :: r, h, hl, hr => by
    have hlen : l.length = r.length := by simpa using h
    have ih := lexL_num l r hlen (fun x hx => hl x (by simp [hx])) (fun x hx => hr x (by simp [hx]))
    have h1 := numL_lt l (fun x hx => hl x (by simp [hx]))
    have h2 := numL_lt r (fun x hx => hr x (by simp [hx]))
    unfold lexL numL
    rw [ih, hlen]
    rw [hlen] at h1
    generalize 256 ^ r.length = p at *
    by_cases hab : a < b
    · have h3 : (a + 1) * p ≤ b * p := Nat.mul_le_mul_right _ hab
      rw [Nat.add_mul, Nat.one_mul] at h3
      have h4 : a * p + numL l < b * p + numL r := by omega
      rw [decide_eq_true hab, decide_eq_true h4, Bool.true_or]
    · rw [decide_eq_false hab, Bool.false_or]
      by_cases he : a = b
      · subst he
        simp
      · have h3 : (b + 1) * p ≤ a * p := Nat.mul_le_mul_right _ (by omega)
        rw [Nat.add_mul, Nat.one_mul] at h3
        have h4 : ¬ a * p + numL l < b * p + numL r := by omega
        rw [beq_eq_false_iff_ne.2 he, Bool.false_and, decide_eq_false h4]
theorem numL_inj : ∀ (l r : List Nat), l.length = r.length → (∀ b ∈ l, b < 256) → (∀ b ∈ r, b < 256) → numL l = numL r → l = r
  | [], [], _, _, _, _ => rfl
  | [], _ :: _, h, _, _, _ => by simp at h
  | _ :: _, [], h, _, _, _ => by simp at h
  | a :: l, b :: r, h, hl, hr, e => by
    have hlen : l.length = r.length := by simpa using h
    have h1 := numL_lt l (fun x hx => hl x (by simp [hx]))
    have h2 := numL_lt r (fun x hx => hr x (by simp [hx]))
    unfold numL at e
    rw [hlen] at e h1
    have hq : a = b ∧ numL l = numL r := by
      generalize 256 ^ r.length = p at *
      rcases Nat.lt_trichotomy a b with hab | hab | hab
      · have h3 : (a + 1) * p ≤ b * p := Nat.mul_le_mul_right _ hab
        rw [Nat.add_mul, Nat.one_mul] at h3
        omega
      · subst hab; exact ⟨rfl, by omega⟩
      · have h3 : (b + 1) * p ≤ a * p := Nat.mul_le_mul_right _ hab
        rw [Nat.add_mul, Nat.one_mul] at h3
        omega
    rw [hq.1, numL_inj l r hlen (fun x hx => hl x (by simp [hx])) (fun x hx => hr x (by simp [hx])) hq.2]

/-- a row as a number that grows in bytewise order -/
def rowKey (n : Nat) (f : Nat → Nat) : Nat := numL (rowL n f)
def ltF (n : Nat) (f g : Nat → Nat) : Bool := decide (rowKey n f < rowKey n g)
def leF (n : Nat) (f g : Nat → Nat) : Bool := decide (rowKey n f ≤ rowKey n g)
theorem rowL_len (n : Nat) (f : Nat → Nat) : (rowL n f).length = n := by simp [rowL]
theorem rowL_small {n : Nat} {f : Nat → Nat} (h : IsRow n f) : ∀ b ∈ rowL n f, b < 256 := fun b hb => by
  obtain ⟨i, _, rfl⟩ := List.mem_map.1 hb
  exact h.byte i
theorem rowKey_inj {n : Nat} {f g : Nat → Nat} (hf : IsRow n f) (hg : IsRow n g) (e : rowKey n f = rowKey n g) : f = g := by
  have := numL_inj _ _ (by rw [rowL_len, rowL_len]) (rowL_small hf) (rowL_small hg) e
  refine row_ext hf hg fun i hi => ?_
  have h1 := congrArg (fun l => l.getD i 0) this
  simpa [rowL, List.getD_eq_getElem?_getD, hi] using h1
theorem lets_row {n : Nat} {f : Nat → Nat} (h : IsRow n f) : lets (strOf n f) = rowL n f := by rw [← txt_rowL, lets_txt _ (rowL_small h)]
theorem less_rows {n : Nat} {f g : Nat → Nat} (hf : IsRow n f) (hg : IsRow n g) : Op.bytesLess (strOf n f).toList (strOf n g).toList = ltF n f g := by
  rw [less_lets, lets_row hf, lets_row hg, lexL_num _ _ (by rw [rowL_len, rowL_len]) (rowL_small hf) (rowL_small hg)]
  rfl
theorem lt_le (n : Nat) (f g : Nat → Nat) : ltF n g f = !leF n f g := by
  unfold ltF leF
  rw [Bool.eq_iff_iff]
  simp

/-- in order, each as often as it was -/
def Ord (n : Nat) (fs : List (Nat → Nat)) : Prop := fs.Pairwise fun f g => rowKey n f ≤ rowKey n g
def sortF (n : Nat) (fs : List (Nat → Nat)) : List (Nat → Nat) := fs.mergeSort (leF n)
theorem leF_trans (n : Nat) : ∀ f g h : Nat → Nat, leF n f g = true → leF n g h = true → leF n f h = true := fun f g h h1 h2 => by
  simp only [leF, decide_eq_true_eq] at *
  omega
theorem leF_total (n : Nat) : ∀ f g : Nat → Nat, (leF n f g || leF n g f) = true := fun f g => by
  simp only [leF, Bool.or_eq_true, decide_eq_true_eq]
  omega
theorem ord_of {n : Nat} {fs : List (Nat → Nat)} (h : fs.Pairwise fun f g => leF n f g = true) : Ord n fs := h.imp (fun {a b} h => by simpa [leF] using h)
theorem sortF_ord (n : Nat) (fs : List (Nat → Nat)) : Ord n (sortF n fs) := ord_of (List.pairwise_mergeSort (leF_trans n) (leF_total n) fs)
theorem sortF_perm (n : Nat) (fs : List (Nat → Nat)) : (sortF n fs).Perm fs := List.mergeSort_perm fs _
theorem sortF_len (n : Nat) (fs : List (Nat → Nat)) : (sortF n fs).length = fs.length := (sortF_perm n fs).length_eq
theorem Rows.perm {n : Nat} {fs gs : List (Nat → Nat)} (h : Rows n fs) (p : gs.Perm fs) : Rows n gs := fun x hx => h x (p.mem_iff.1 hx)
theorem rows_sort {n : Nat} {fs : List (Nat → Nat)} (h : Rows n fs) : Rows n (sortF n fs) := h.perm (sortF_perm n fs)
/-- there is one such list -/
theorem ord_unique_list {n : Nat} : ∀ {fs gs : List (Nat → Nat)}, Rows n fs → fs.Perm gs → Ord n fs → Ord n gs → fs = gs
  | [], gs, _, p, _, _ => (List.perm_nil.1 p.symm).symm
  | f :: fs, gs, hr, p, hf, hg => by
    cases gs with
    | nil => exact absurd (List.perm_nil.1 p) (by simp)
    | cons g gs =>
      obtain ⟨f1, f2⟩ := List.pairwise_cons.1 hf
      obtain ⟨g1, g2⟩ := List.pairwise_cons.1 hg
      have hfg : rowKey n f ≤ rowKey n g := by
        rcases List.mem_cons.1 (p.mem_iff.2 (List.mem_cons_self (a := g) (l := gs))) with e | e
        · rw [e]; exact Nat.le_refl _
        · exact f1 g e
      have hgf : rowKey n g ≤ rowKey n f := by
        rcases List.mem_cons.1 (p.mem_iff.1 (List.mem_cons_self (a := f) (l := fs))) with e | e
        · rw [e]; exact Nat.le_refl _
        · exact g1 f e
      have hgr : IsRow n g := hr g (p.mem_iff.2 List.mem_cons_self)
      have e : f = g := rowKey_inj (hr f List.mem_cons_self) hgr (by omega)
      subst e
      rw [ord_unique_list hr.tail ((List.perm_cons f).1 p) f2 g2]
theorem sortF_unique {n : Nat} {fs gs : List (Nat → Nat)} (hr : Rows n fs) (p : gs.Perm fs) (h : Ord n gs) : gs = sortF n fs :=
  ord_unique_list (hr.perm p) (p.trans (sortF_perm n fs).symm) h (sortF_ord n fs)
theorem sortF_congr {n : Nat} {fs gs : List (Nat → Nat)} (hr : Rows n fs) (p : gs.Perm fs) : sortF n gs = sortF n fs :=
  sortF_unique hr ((sortF_perm n gs).trans p) (sortF_ord n gs)
theorem ord_pair {n : Nat} {fs : List (Nat → Nat)} (h : Ord n fs) : fs.Pairwise fun f g => leF n f g = true := h.imp (fun {a b} h => by simpa [leF] using h)
/-- two halves, sorted and merged -/
theorem sortF_merge {n : Nat} {fs : List (Nat → Nat)} (hr : Rows n fs) (k : Nat) : List.merge (sortF n (fs.take k)) (sortF n (fs.drop k)) (leF n) = sortF n fs := by
  refine sortF_unique hr ?_ (ord_of (List.pairwise_merge (leF_trans n) (leF_total n) _ _ (ord_pair (sortF_ord n _)) (ord_pair (sortF_ord n _))))
  refine (List.merge_perm_append (le := leF n)).trans ?_
  have := (sortF_perm n (fs.take k)).append (sortF_perm n (fs.drop k))
  rwa [List.take_append_drop] at this
theorem sortF_short {n : Nat} {fs : List (Nat → Nat)} (hr : Rows n fs) (h : fs.length < 2) : sortF n fs = fs := by
  refine (sortF_unique hr (List.Perm.refl _) ?_).symm
  match fs, h with
  | [], _ => exact List.Pairwise.nil
  | [f], _ => exact List.pairwise_singleton _ _
end Go.Proofs.Ytnoepobbecobbaa
