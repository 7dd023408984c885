/- The places of rows differ; which rows are seen, by their places. -/
import Derived.Test.YtnoepobbecobbaaSQ
import Derived.Test.YtnoepobbecobbaaSH
import Derived.Test.YtnoepobbecobbaaSC
import Derived.Deep.OwnRows
namespace Go.Proofs.Ytnoepobbecobbaa
open Go.RowKit
set_option linter.unusedSimpArgs false
set_option linter.unusedVariables false

theorem cntLt_split (f : Nat → Nat) (v : Nat) (lo : Nat) : ∀ len, cntLt f v 0 (lo + len) = cntLt f v 0 lo + cntLt f v lo len
  | 0 => by simp [cntLt]
  | len + 1 => by
    have ih := cntLt_split f v lo len
    rw [← Nat.add_assoc]
    show cntLt f v 0 (lo + len) + (if f (0 + (lo + len)) < v then 1 else 0) = _ + (cntLt f v lo len + if f (lo + len) < v then 1 else 0)
    rw [ih, Nat.zero_add]
    omega
theorem cntLt_mono (f : Nat → Nat) {v u : Nat} (h : v ≤ u) (lo : Nat) : ∀ len, cntLt f v lo len ≤ cntLt f u lo len
  | 0 => Nat.le_refl _
  | len + 1 => by
    have ih := cntLt_mono f h lo len
    show cntLt f v lo len + _ ≤ cntLt f u lo len + _
    split <;> split <;> omega
theorem cntLt_same {f g : Nat → Nat} (v lo : Nat) : ∀ len, (∀ i, lo ≤ i → i < lo + len → f i = g i) → cntLt f v lo len = cntLt g v lo len
  | 0, _ => rfl
  | len + 1, h => by
    show cntLt f v lo len + _ = cntLt g v lo len + _
    rw [cntLt_same v lo len fun i h1 h2 => h i h1 (by omega), h (lo + len) (by omega) (by omega)]
theorem cntLt_sum (f : Nat → Nat) (v : Nat) : ∀ n, cntLt f v 0 n = sumN (fun i => if f i < v then 1 else 0) n
  | 0 => rfl
  | n + 1 => by
    show cntLt f v 0 n + (if f (0 + n) < v then 1 else 0) = sumN _ n + _
    rw [cntLt_sum f v n, Nat.zero_add]
theorem cntLt_row {n : Nat} {f : Nat → Nat} (hf : IsRow n f) (v : Nat) : cntLt f v 0 n = sumN (fun i => if 49 + i < v then 1 else 0) n := by
  rw [cntLt_sum, ← sumN_perm (fun i => if 49 + i < v then 1 else 0) n (fun i => f i - 49) (fun i hi => by have := hf.lo i hi; have := hf.hi i hi; omega)
    (fun i j hi hj e => by
      have h1 := hf.lo i hi
      have h2 := hf.lo j hj
      have e : f i = f j := by omega
      exact hf.inj i j hi hj e)]
  refine sumN_congr n fun i hi => ?_
  have := hf.lo i hi
  rw [show 49 + (f i - 49) = f i by omega]
theorem less_step {n : Nat} {f g : Nat → Nat} (hf : IsRow n f) (hg : IsRow n g) {i : Nat} (hi : i < n) (hp : ∀ j, j < i → f j = g j) (h : f i < g i) : lessAt f n i < lessAt g n i := by
  have e1 : n = i + 1 + (n - (i + 1)) := by omega
  have hs := fun (h : Nat → Nat) v => cntLt_split h v (i + 1) (n - (i + 1))
  rw [← e1] at hs
  have hs2 := fun (h : Nat → Nat) v => cntLt_split h v i 1
  have hone : ∀ (h : Nat → Nat) v, cntLt h v i 1 = if h i < v then 1 else 0 := fun h v => by simp [cntLt]
  have h1 := hs f (f i)
  have h2 := hs g (g i)
  have h3 := hs f (g i)
  rw [hs2, hone] at h1 h2 h3
  have h4 : cntLt g (g i) 0 n = cntLt f (g i) 0 n := by rw [cntLt_row hf, cntLt_row hg]
  have h5 : cntLt g (g i) 0 i = cntLt f (g i) 0 i := cntLt_same _ _ _ fun j _ hj => (hp j (by omega)).symm
  have h6 := cntLt_mono f (Nat.le_of_lt h) (i + 1) (n - (i + 1))
  rw [if_neg (Nat.lt_irrefl _)] at h1 h2
  rw [if_pos h] at h3
  unfold lessAt
  omega
theorem less_inj {n : Nat} {f g : Nat → Nat} (hf : IsRow n f) (hg : IsRow n g) (h : ∀ i, i < n → lessAt f n i = lessAt g n i) : f = g := by
  have hall : ∀ i, i < n → f i = g i := by
    intro i
    induction i using Nat.strongRecOn with
    | ind i ih =>
      intro hi
      rcases Nat.lt_trichotomy (f i) (g i) with hlt | he | hlt
      · have := less_step hf hg hi (fun j hj => ih j hj (by omega)) hlt
        rw [h i hi] at this
        omega
      · exact he
      · have := less_step hg hf hi (fun j hj => (ih j hj (by omega)).symm) hlt
        rw [h i hi] at this
        omega
  funext i
  by_cases hi : i < n
  · exact hall i hi
  · rw [hf.zero i (by omega), hg.zero i (by omega)]
theorem place_less {n : Nat} {f g : Nat → Nat} : ∀ k, k ≤ n → placeB f n k = placeB g n k → ∀ i, i < k → lessAt f n i = lessAt g n i
  | 0, _, _, i, hi => by omega
  | k + 1, hk, e, i, hi => by
    have e : placeB f n k * (n - k) + lessAt f n k = placeB g n k * (n - k) + lessAt g n k := e
    have h1 : lessAt f n k < n - k := by have := cntLt_le f (f k) (k + 1) (n - (k + 1)); unfold lessAt; omega
    have h2 : lessAt g n k < n - k := by have := cntLt_le g (g k) (k + 1) (n - (k + 1)); unfold lessAt; omega
    have e2 : lessAt f n k = lessAt g n k := by
      have := congrArg (· % (n - k)) e
      simpa [Nat.add_mod, Nat.mod_eq_of_lt h1, Nat.mod_eq_of_lt h2] using this
    have e1 : placeB f n k = placeB g n k := Nat.eq_of_mul_eq_mul_right (show 0 < n - k by omega) (by omega)
    by_cases hik : i = k
    · rw [hik]; exact e2
    · exact place_less k (by omega) e1 i (by omega)
/-- a row's place -/
def plR (n : Nat) (f : Nat → Nat) : Nat := placeB f n n
theorem plR_inj {n : Nat} {f g : Nat → Nat} (hf : IsRow n f) (hg : IsRow n g) (e : plR n f = plR n g) : f = g := less_inj hf hg (place_less n (Nat.le_refl _) e)
theorem place_lt (f : Nat → Nat) (n : Nat) : ∀ k, k ≤ n → placeB f n k < factTo n k
  | 0, _ => by simp [placeB, factTo]
  | k + 1, hk => by
    have ih := place_lt f n k (by omega)
    have h1 : lessAt f n k < n - k := by have := cntLt_le f (f k) (k + 1) (n - (k + 1)); unfold lessAt; omega
    show placeB f n k * (n - k) + lessAt f n k < factTo n k * (n - k)
    have h2 : (placeB f n k + 1) * (n - k) ≤ factTo n k * (n - k) := Nat.mul_le_mul_right _ ih
    rw [Nat.succ_mul] at h2
    omega
theorem plR_lt (n : Nat) (f : Nat → Nat) : plR n f < fact n := by
  have h1 := place_lt f n n (Nat.le_refl _)
  have h2 := factTo_mul n n (Nat.le_refl _)
  have h3 : factTo n n = fact n := by simpa [fact] using h2
  unfold plR
  omega

/-- which rows of a stage are seen -/
def SeenAt (W : World) (g n : Nat) (S : List (Nat → Nat)) : Prop := ∃ cs, RowAt W g 4 cs ∧ cs.size = fact n ∧ ∀ f, IsRow n f → cs[plR n f]? = some (.bool (inB f S))
theorem SeenAt.lt {W : World} {g n : Nat} {S : List (Nat → Nat)} (h : SeenAt W g n S) : g < W.heap.size := by obtain ⟨cs, h, _⟩ := h; exact h.lt
theorem SeenAt.kept {W W' : World} {g n : Nat} {S : List (Nat → Nat)} (h : SeenAt W g n S) (hb : Below W.heap.size W W') : SeenAt W' g n S := by
  obtain ⟨cs, h1, h2⟩ := h
  exact ⟨cs, h1.kept hb, h2⟩
theorem SeenAt.keptBut {W W' : World} {g n : Nat} {S : List (Nat → Nat)} {v : Value} (h : SeenAt W g n S) (hk : KeptBut W W' v) (hne : v.ownBlock ≠ some g) : SeenAt W' g n S := by
  obtain ⟨cs, h1, h2⟩ := h
  exact ⟨cs, hk.row h1 hne, h2⟩
theorem SeenAt.cell {W : World} {g n : Nat} {S : List (Nat → Nat)} (h : SeenAt W g n S) {f : Nat → Nat} (hf : IsRow n f) : W.cell? ⟨g, plR n f, none⟩ = some (.bool (inB f S)) ∧ W.frozen? ⟨g, plR n f, none⟩ = false := by
  obtain ⟨cs, h1, _, h2⟩ := h
  exact ⟨h1.cell _ (h2 f hf), h1.free _⟩
theorem SeenAt.set {W : World} {g n : Nat} {S : List (Nat → Nat)} (h : SeenAt W g n S) {f : Nat → Nat} (hf : IsRow n f) : SeenAt (W.setCell ⟨g, plR n f, none⟩ (.bool true)) g n (withF S f) := by
  obtain ⟨cs, h1, h2, h3⟩ := h
  refine ⟨_, h1.set _ _, by simpa using h2, fun x hx => ?_⟩
  have hlt : plR n f < cs.size := by rw [h2]; exact plR_lt n f
  rw [Array.getElem?_setIfInBounds]
  by_cases e : plR n f = plR n x
  · have := plR_inj hf hx e
    subst this
    have hin : inB f (withF S f) = true := inB_iff.2 (mem_with.2 (.inr rfl))
    simp [hlt, hin]
  · rw [if_neg e, h3 x hx]
    have : inB x (withF S f) = inB x S := by
      unfold inB
      congr 1
      exact propext (mem_with.trans ⟨fun h => h.elim id fun h => absurd (by rw [h]) e, .inl⟩)
    rw [this]
theorem infoBool : (Try.prog.info? 4).map (fun i => (i.zero, i.size, i.bytes)) = some (some (.bool false), 1, 1) := by kernel_rfl
theorem SeenAt.made (w : World) {n : Nat} : SeenAt (w.alloc (.cells (madeCells #[.bool false] (fact n)) 4)) w.heap.size n [] := by
  refine ⟨_, RowAt.new _ _ _, by simp [madeCells], fun f hf => ?_⟩
  have hin : inB f [] = false := inB_no.2 (by simp)
  rw [hin, Array.getElem?_eq_getElem (by simpa [madeCells] using plR_lt n f)]
  simp [madeCells, Nat.mod_one]
end Go.Proofs.Ytnoepobbecobbaa
