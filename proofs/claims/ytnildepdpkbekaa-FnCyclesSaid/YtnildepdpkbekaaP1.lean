/- Plain facts on rows of digits: no program here. -/
import Derived.Below
namespace Go.Proofs.Ytnildepdpkbekaa

/-- s is the text of the n digits f -/
def IsStr (n : Nat) (f : Nat → Nat) (s : ByteArray) : Prop := s.size = n ∧ ∀ k (h : k < s.size), s[k].toNat = f k

/-- the digit at place i of a text, 0 behind its end -/
def dg (s : ByteArray) (i : Nat) : Nat := if h : i < s.size then s[i].toNat else 0

theorem isStr_dg (s : ByteArray) : IsStr s.size (dg s) s := ⟨rfl, fun k h => by simp [dg, h]⟩

/-- the first i digits are what a row may begin with -/
def OkTo (n : Nat) (f : Nat → Nat) (i : Nat) : Prop := ∀ k, k < i → 49 ≤ f k ∧ f k ≤ 48 + n ∧ ∀ j, j < k → f j ≠ f k
theorem okTo_succ {n : Nat} {f : Nat → Nat} {i : Nat} (h : OkTo n f i) (h1 : 49 ≤ f i) (h2 : f i ≤ 48 + n) (h3 : ∀ j, j < i → f j ≠ f i) : OkTo n f (i + 1) := by
  intro k hk
  by_cases e : k = i
  · subst e; exact ⟨h1, h2, h3⟩
  · exact h k (by omega)

/-- a row on n bells -/
structure IsRow (n : Nat) (f : Nat → Nat) : Prop where
  three : 3 ≤ n
  eight : n ≤ 8
  ok : OkTo n f n
  zero : ∀ i, n ≤ i → f i = 0

open Classical in
/-- whether a text is a row -/
noncomputable def goodB (s : ByteArray) : Bool := decide (IsRow s.size (dg s))
theorem goodB_yes {s : ByteArray} (h : IsRow s.size (dg s)) : goodB s = true := by simp [goodB, h]
theorem goodB_no {s : ByteArray} (h : ¬ IsRow s.size (dg s)) : goodB s = false := by simp [goodB, h]
theorem isRow_of {s : ByteArray} (h3 : 3 ≤ s.size) (h8 : s.size ≤ 8) (h : OkTo s.size (dg s) s.size) : IsRow s.size (dg s) :=
  ⟨h3, h8, h, fun i hi => by simp [dg]; omega⟩
theorem dg_at (s : ByteArray) : ∀ k (h : k < s.size), s[k].toNat = dg s k := fun k h => by simp [dg, h]
theorem dg_lt (s : ByteArray) (k : Nat) : dg s k < 256 := by
  unfold dg; split
  · exact UInt8.toNat_lt _
  · omega

/-- the text of n digits -/
def strOf (n : Nat) (f : Nat → Nat) : ByteArray := ⟨((List.range n).map fun i => UInt8.ofNat (f i)).toArray⟩
theorem strOf_size (n : Nat) (f : Nat → Nat) : (strOf n f).size = n := by simp [strOf, ByteArray.size]
theorem strOf_get (n : Nat) (f : Nat → Nat) (hf : ∀ i, i < n → f i < 256) (k : Nat) (h : k < (strOf n f).size) : (strOf n f)[k].toNat = f k := by
  have hk : k < n := by simpa [strOf_size] using h
  have : (strOf n f)[k] = UInt8.ofNat (f k) := by
    show (strOf n f).data[k]'_ = _
    simp [strOf]
  rw [this]
  have := hf k hk
  simp; omega
theorem isStr_strOf (n : Nat) (f : Nat → Nat) (hf : ∀ i, i < n → f i < 256) : IsStr n f (strOf n f) := ⟨strOf_size n f, strOf_get n f hf⟩
theorem bytes_ext {a b : ByteArray} (h : a.size = b.size) (h2 : ∀ k (h1 : k < a.size) (h2 : k < b.size), a[k] = b[k]) : a = b := by
  cases a with | mk x => cases b with | mk y =>
  congr 1
  exact Array.ext h h2
theorem strOf_of_isStr {n : Nat} {f : Nat → Nat} {s : ByteArray} (h : IsStr n f s) : s = strOf n f := by
  obtain ⟨h1, h2⟩ := h
  subst h1
  refine bytes_ext (by rw [strOf_size]) ?_
  intro k ha hb
  have := h2 k ha
  have e : (strOf s.size f)[k] = UInt8.ofNat (f k) := by
    show (strOf s.size f).data[k]'_ = _
    simp [strOf]
  rw [e, ← this]; simp
theorem strOf_congr {n : Nat} {f g : Nat → Nat} (h : ∀ i, i < n → f i = g i) : strOf n f = strOf n g := by
  unfold strOf
  congr 2
  apply List.map_congr_left
  intro i hi
  rw [List.mem_range] at hi
  rw [h i hi]
theorem strOf_snoc (k : Nat) (f : Nat → Nat) (b : ByteArray) (h : b = ⟨#[UInt8.ofNat (f k)]⟩) : strOf k f ++ b = strOf (k + 1) f := by
  subst h
  unfold strOf
  apply bytes_ext
  · simp [ByteArray.size, List.range_succ]
  · intro i h1 h2
    have : (((⟨((List.range k).map fun i => UInt8.ofNat (f i)).toArray⟩ : ByteArray) ++ (⟨#[UInt8.ofNat (f k)]⟩ : ByteArray)).data) = (((List.range (k+1)).map fun i => UInt8.ofNat (f i)).toArray) := by
      simp [List.range_succ]
    show (_ : ByteArray).data[i]'_ = (_ : ByteArray).data[i]'_
    simp [List.range_succ]
theorem extract_one (s : ByteArray) (k : Nat) (h : k < s.size) : s.extract k (k + 1) = ⟨#[s[k]]⟩ := by
  apply bytes_ext
  · rw [ByteArray.size_extract]
    show _ = 1
    omega
  · intro i h1 h2
    have : i < 1 := h2
    obtain rfl : i = 0 := by omega
    rw [ByteArray.getElem_extract]
    rfl

/-- the row of products: g selects places of f -/
def mulF (f g : Nat → Nat) (i : Nat) : Nat := f (g i - 49)
end Go.Proofs.Ytnildepdpkbekaa
