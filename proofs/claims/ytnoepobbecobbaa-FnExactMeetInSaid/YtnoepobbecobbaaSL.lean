/- sortDigits: a slice of rows of its own is sorted. -/
import Derived.Test.YtnoepobbecobbaaSK
namespace Go.Proofs.Ytnoepobbecobbaa
open Go.RowKit
open Go.Sort (SWO grow alloc_eq_grow grow_grow HoldsK flatK putRowK size_flatK get_flatK putCells putRow)
set_option linter.unusedSimpArgs false
set_option linter.unusedVariables false

set_option maxRecDepth 100000 in
theorem slice_all8 (b : Nat) : ∀ W, (Instr.sliceAt 80 (.pointer (some ⟨b, 0, none⟩)) none none none).run Try.prog W = .ok (.slice (some ⟨b, 0, none⟩) 8 8) W := by
  intro W
  have hA : Try.prog.arrayLen 80 = 8 := by kernel_rfl
  rw [run_sliceAt_array_all W _ _ Try.underlying80]
  have hs : (sizeOf (Try.prog.elem 80)).run Try.prog W = .ok 1 W := by kernel_rfl
  rw [hs, hA]
  simp [Result.andThen, slicedAt, Addr.add]

/-- a row with its proof -/
structure RowN (n : Nat) where
  f : Nat → Nat
  row : IsRow n f
def mkRows {n : Nat} : ∀ (fs : List (Nat → Nat)), Rows n fs → List (RowN n)
  | [], _ => []
  | f :: t, h => ⟨f, h.head⟩ :: mkRows t h.tail
theorem mkRows_map {n : Nat} : ∀ (fs : List (Nat → Nat)) (h : Rows n fs), (mkRows fs h).map (·.f) = fs
  | [], _ => rfl
  | f :: t, h => by simp [mkRows, mkRows_map t h.tail]
theorem RowN.ext' {n : Nat} {x y : RowN n} (h : x.f = y.f) : x = y := by cases x; cases y; simp at h; subst h; rfl
def cfN (n : Nat) (x y : RowN n) : Int := cmp8 x.f y.f
theorem ltN {n : Nat} (x y : RowN n) : Go.Proofs.ltOf (cfN n) x y = ltF n x.f y.f := by
  unfold Go.Proofs.ltOf cfN cmp8 ltF
  have h1 := key8_lt x.row y.row
  have h2 := key8_lt y.row x.row
  by_cases h : key8 x.f < key8 y.f
  · rw [if_pos h, decide_eq_true (h1.1 h)]; rfl
  · rw [if_neg h, decide_eq_false (fun e => h (h1.2 e))]
    by_cases h' : key8 y.f < key8 x.f
    · rw [if_pos h']; rfl
    · rw [if_neg h']; rfl
theorem swoN (n : Nat) : SWO (Go.Proofs.ltOf (cfN n)) where
  irrefl x := by rw [ltN]; simp [ltF]
  trans x y z h1 h2 := by rw [ltN] at *; simp [ltF] at *; omega
  ntrans x y z h1 h2 := by rw [ltN] at *; simp [ltF] at *; omega
theorem totN (n : Nat) (x y : RowN n) (h1 : Go.Proofs.ltOf (cfN n) x y = false) (h2 : Go.Proofs.ltOf (cfN n) y x = false) : x = y := by
  rw [ltN] at h1 h2
  simp [ltF] at h1 h2
  exact RowN.ext' (rowKey_inj x.row y.row (by omega))
theorem sorted_rows {n : Nat} (xs : List (RowN n)) : (xs.mergeSort fun x y => !(Go.Proofs.ltOf (cfN n)) y x).map (·.f) = sortF n (xs.map (·.f)) := by
  have hr : Rows n (xs.map (·.f)) := fun f hf => by
    obtain ⟨x, _, rfl⟩ := List.mem_map.1 hf
    exact x.row
  refine sortF_unique hr ((List.mergeSort_perm xs _).map _) ?_
  have hp := List.pairwise_mergeSort (le := fun x y : RowN n => !(Go.Proofs.ltOf (cfN n)) y x) (fun a b c h1 h2 => by
    simp only [ltN, ltF] at *
    simp at *
    omega) (fun a b => by
    simp only [ltN, ltF]
    simp
    omega) xs
  refine List.pairwise_map.2 (hp.imp ?_)
  intro a b h
  simp only [ltN, ltF] at h
  simpa using h

theorem flat_get {fs : List (Nat → Nat)} {t : Nat} (h : t < fs.length * 8) : (flat fs)[t]? = (cells8 (fs[t / 8]'(by omega)))[t % 8]? := by
  have h8 : t % 8 < 8 := Nat.mod_lt _ (by omega)
  have hi : t / 8 < fs.length := by omega
  obtain ⟨u, hu⟩ : ∃ u, (cells8 fs[t / 8])[t % 8]? = some u := ⟨_, List.getElem?_eq_getElem (show t % 8 < (cells8 fs[t / 8]).length from h8)⟩
  have := flat_at fs (t / 8) hi (t % 8) u hu
  rw [show t / 8 * 8 + t % 8 = t by omega] at this
  rw [this, hu]
def encN {n : Nat} (x : RowN n) : List Value := cells8 x.f
theorem flat_flatK {n : Nat} [Inhabited (RowN n)] (xs : List (RowN n)) : (flatK encN 8 xs.toArray).toList = flat (xs.map (·.f)) := by
  apply List.ext_getElem?
  intro t
  by_cases ht : t < xs.length * 8
  · rw [flat_get (by simpa using ht)]
    have hg := get_flatK (encN (n := n)) 8 xs.toArray t (by simpa using ht)
    have hsz : t < (flatK (encN (n := n)) 8 xs.toArray).size := by rw [size_flatK]; simpa using ht
    have h8 : t % 8 < 8 := Nat.mod_lt _ (by omega)
    have hi : t / 8 < xs.length := by omega
    rw [Array.getElem?_toList, Array.getElem?_eq_getElem hsz, ← getElem!_pos _ t hsz, hg]
    have e1 : xs.toArray[t / 8]! = xs[t / 8] := by simp [hi]
    rw [e1]
    have e2 : t % 8 < (encN xs[t / 8]).length := h8
    rw [getElem!_pos (encN xs[t / 8]) (t % 8) e2]
    simp [encN, cells8_len, h8]
  · rw [List.getElem?_eq_none (by simp; omega), List.getElem?_eq_none (by rw [flat_len]; simp; omega)]

end Go.Proofs.Ytnoepobbecobbaa
