/- OrbitsOf, the model. -/
import Derived.Test.YtnoepobbecobbaaOD
import Derived.Test.YtnoepobbecobbaaSU
import Derived.Deep.OwnRows
import Derived.BigQuiet
namespace Go.Proofs.Ytnoepobbecobbaa
open Go.RowKit
set_option linter.unusedSimpArgs false
set_option linter.unusedVariables false

theorem listB_at2 {n : Nat} {L : List (List Nat)} : (listB L && !(decide (0 < L.length) && !decide (firstN L = n))) = rowsB n L := by
  cases L with
  | nil => simp [listB, rowsB]
  | cons x t =>
    have h1 : listB (x :: t) = rowsB x.length (x :: t) := rfl
    have h2 : firstN (x :: t) = x.length := rfl
    rw [h1, h2]
    by_cases hx : x.length = n
    · simp [hx]
    · rw [decide_eq_false hx]
      have : rowsB n (x :: t) = false := by
        have : rowB n x = false := by simp [rowB]; intro _; omega
        simp [rowsB, this]
      rw [this]; simp
theorem l1At_act {n : Nat} {f : Nat → Nat} (hf : IsRow n f) {t : Nat} (ht : t < n) (w : World) : Calls Try.prog 125 #[.string (strOf n f), .int .i64 ((t : Int) + 1)] w fun e w' => e = .returned (.int .i64 ((act f (t + 1) : Nat) : Int)) ∧ w' = w := by
  have h48 := hf.lo t ht
  have := l1At_any n f (strOf n f) (isStr_row hf) ((t : Int) + 1) (by omega) (by omega) hf.eight (by rw [show ((t : Int) + 1).toNat - 1 = t from by omega]; omega) w
  refine this.mono ?_
  rintro e w' ⟨rfl, rfl⟩
  refine ⟨?_, rfl⟩
  congr 2
  rw [show ((t : Int) + 1).toNat - 1 = t from by omega]
  unfold act
  rw [Nat.add_sub_cancel]
  omega
/-- a slice of n + 1 numbers -/
def PartAt (W : World) (g n : Nat) (part : Nat → Nat) : Prop := ∃ cs, RowAt W g 3 cs ∧ cs.size = n + 1 ∧ ∀ p, p ≤ n → cs[p]? = some (.int .i64 ((part p : Nat) : Int))
theorem PartAt.congr {W : World} {g n : Nat} {p q : Nat → Nat} (h : PartAt W g n p) (e : ∀ x, x ≤ n → p x = q x) : PartAt W g n q := by
  obtain ⟨cs, h1, h2, h3⟩ := h
  exact ⟨cs, h1, h2, fun x hx => by rw [h3 x hx, e x hx]⟩
theorem PartAt.cell {W : World} {g n : Nat} {part : Nat → Nat} (h : PartAt W g n part) {p : Nat} (hp : p ≤ n) : W.cell? ⟨g, p, none⟩ = some (.int .i64 ((part p : Nat) : Int)) ∧ W.frozen? ⟨g, p, none⟩ = false := by
  obtain ⟨cs, h1, h2, h3⟩ := h
  exact ⟨h1.cell p (h3 p hp), h1.free p⟩
theorem PartAt.set {W : World} {g n : Nat} {part : Nat → Nat} (h : PartAt W g n part) {p : Nat} (hp : p ≤ n) (v : Nat) : PartAt (W.setCell ⟨g, p, none⟩ (.int .i64 ((v : Nat) : Int))) g n (fun x => if x = p then v else part x) := by
  obtain ⟨cs, h1, h2, h3⟩ := h
  refine ⟨_, h1.set _ _, by simpa using h2, fun x hx => ?_⟩
  rw [Array.getElem?_setIfInBounds]
  by_cases e : p = x
  · subst e
    simp [show p < cs.size by omega]
  · have hxp : ¬ x = p := fun q => e q.symm
    rw [if_neg e, h3 x hx]
    simp [hxp]
theorem PartAt.kept {W W' : World} {g n : Nat} {part : Nat → Nat} (h : PartAt W g n part) (hb : Below W.heap.size W W') : PartAt W' g n part := by
  obtain ⟨cs, h1, h2⟩ := h
  exact ⟨cs, h1.kept hb, h2⟩
theorem PartAt.under {W W' : World} {B g n : Nat} {part : Nat → Nat} (h : PartAt W g n part) (hb : Below B W W') (hg : g < B) : PartAt W' g n part := by
  obtain ⟨cs, h1, h2⟩ := h
  exact ⟨cs, h1.keep hb hg, h2⟩
theorem PartAt.drewN {W : World} {g n : Nat} {part : Nat → Nat} (h : PartAt W g n part) (k : Nat) : PartAt (W.drewN k) g n part := h
theorem PartAt.made (w : World) (n np : Nat) (h : np = n + 1) : PartAt (w.alloc (.cells (madeCells #[.int .i64 0] np) 3)) w.heap.size n (fun _ => 0) := by
  subst h
  refine ⟨_, RowAt.new _ _ _, by simp [madeCells], fun p hp => ?_⟩
  rw [Array.getElem?_eq_getElem (by simp [madeCells]; omega)]
  simp [madeCells, Nat.mod_one]
/-- the numbers with a label -/
def selL (lab : Nat → Nat) (k t : Nat) : List Nat := ((List.range t).map (· + 1)).filter fun p => decide (lab p = k)
theorem selL_succ (lab : Nat → Nat) (k t : Nat) : selL lab k (t + 1) = if lab (t + 1) = k then selL lab k t ++ [t + 1] else selL lab k t := by
  unfold selL
  rw [List.range_succ, List.map_append, List.filter_append]
  by_cases h : lab (t + 1) = k <;> simp [h]
theorem selL_len (lab : Nat → Nat) (k t : Nat) : (selL lab k t).length ≤ t := by
  have := List.length_filter_le (fun p => decide (lab p = k)) ((List.range t).map (· + 1))
  unfold selL
  simpa using this
theorem selL_yes {n : Nat} {fs : List (Nat → Nat)} (hr : Rows n fs) {k : Nat} (h1 : 1 ≤ k) (h2 : k ≤ n) (h : leastIn n fs k) : selL (labs n fs n) k n = incL n (orbF n fs k) := by
  unfold selL incL
  refine List.filter_congr fun p hp => ?_
  obtain ⟨i, hi, rfl⟩ := List.mem_map.1 hp
  have := List.mem_range.1 hi
  rw [decide_eq_decide, lab_iff hr ⟨h1, h2⟩ ⟨by omega, by omega⟩]
  exact ⟨fun h => h.2, fun h' => ⟨h, h'⟩⟩
theorem selL_no {n : Nat} {fs : List (Nat → Nat)} (hr : Rows n fs) {k : Nat} (h1 : 1 ≤ k) (h2 : k ≤ n) (h : ¬ leastIn n fs k) : selL (labs n fs n) k n = [] := by
  unfold selL
  rw [List.filter_eq_nil_iff]
  intro p hp
  obtain ⟨i, hi, rfl⟩ := List.mem_map.1 hp
  have := List.mem_range.1 hi
  rw [decide_eq_true_eq, lab_iff hr ⟨h1, h2⟩ ⟨by omega, by omega⟩]
  exact fun h' => h h'.1

end Go.Proofs.Ytnoepobbecobbaa
