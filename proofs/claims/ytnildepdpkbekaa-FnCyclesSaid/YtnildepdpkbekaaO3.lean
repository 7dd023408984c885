/- Lists of lists of numbers, each in a block of its own: compared, marked, held. -/
import Derived.Test.YtnildepdpkbekaaO2
namespace Go.Proofs.Ytnildepdpkbekaa
open Go.RowKit
set_option linter.unusedSimpArgs false

def nilV : Value := .slice none 0 0
/-- v is a slice of n slices that read as F; the inner slices are vs; no two lie in one block; all blocks lie from B on -/
structure Lists (B : Nat) (W : World) (v : Value) (vs : List Value) (n : Nat) (F : Nat → List Int) : Prop where
  outer : Own W 37 v vs
  len : vs.length = n
  inner : ∀ i, i < n → Own W 3 (vs.getD i nilV) (ints (F i))
  apart : ∀ i j g, i < j → j < n → (vs.getD i nilV).ownBlock = some g → (vs.getD j nilV).ownBlock ≠ some g
  base : ∀ g, v.ownBlock = some g → B ≤ g
  ibase : ∀ i g, i < n → (vs.getD i nilV).ownBlock = some g → B ≤ g
theorem Lists.kept {B : Nat} {W W' : World} {v : Value} {vs : List Value} {n : Nat} {F : Nat → List Int} (h : Lists B W v vs n F) (hb : Below W.heap.size W W') : Lists B W' v vs n F :=
  ⟨h.outer.kept hb, h.len, fun i hi => (h.inner i hi).kept hb, h.apart, h.base, h.ibase⟩
/-- where the blocks below C alone are known to stay, and all of ours lie below C -/
theorem Lists.keptTo {B C : Nat} {W W' : World} {v : Value} {vs : List Value} {n : Nat} {F : Nat → List Int} (h : Lists B W v vs n F) (hC : W.heap.size ≤ C) (hb : Below C W W') : Lists B W' v vs n F :=
  h.kept (hb.mono hC)
theorem Lists.congr {B : Nat} {W : World} {v : Value} {vs : List Value} {n : Nat} {F G : Nat → List Int} (h : Lists B W v vs n F) (e : ∀ i, i < n → F i = G i) : Lists B W v vs n G :=
  ⟨h.outer, h.len, fun i hi => by rw [← e i hi]; exact h.inner i hi, h.apart, h.base, h.ibase⟩
theorem Lists.nil (B : Nat) (W : World) (F : Nat → List Int) : Lists B W nilV [] 0 F :=
  ⟨Own.nil W _, rfl, fun i hi => absurd hi (by omega), fun i j g _ hj => absurd hj (by omega), fun g hg => by simp [nilV, Value.ownBlock] at hg, fun i g hi => absurd hi (by omega)⟩
theorem Lists.at {B : Nat} {W : World} {v : Value} {vs : List Value} {n : Nat} {F : Nat → List Int} (h : Lists B W v vs n F) (i : Nat) (hi : i < n) : vs[i]? = some (vs.getD i nilV) := by
  have := h.len
  rw [List.getD_eq_getElem?_getD, List.getElem?_eq_getElem (by omega)]; rfl
theorem Lists.view {B : Nat} {W : World} {v : Value} {vs : List Value} {n : Nat} {F : Nat → List Int} (h : Lists B W v vs n F) : ∃ a cap, v = .slice a n cap ∧ (0 < n → ∃ g, a = some ⟨g, 0, none⟩) := by
  have := h.outer.view
  rw [h.len] at this
  exact this
/-- one inner slice turned, all else as it was -/
theorem Lists.turn {B : Nat} {W W' : World} {v : Value} {vs : List Value} {n : Nat} {F G : Nat → List Int} (h : Lists B W v vs n F) (k : Nat) (hk : k < n) (hg : W.grownBy W' (vs.getD k nilV).ownBlock)
    (hnew : Own W' 3 (vs.getD k nilV) (ints (G k))) (hold : ∀ i, i < n → i ≠ k → G i = F i) : Lists B W' v vs n G := by
  refine ⟨h.outer.grown hg fun g hv e => ?_, h.len, fun i hi => ?_, h.apart, h.base, h.ibase⟩
  · exact (h.outer.apart (h.inner k hk) (by decide) g hv) e.symm
  · by_cases e : i = k
    · subst e; exact hnew
    · rw [hold i hi e]
      refine (h.inner i hi).grown hg fun g hv q => ?_
      by_cases hlt : i < k
      · exact h.apart i k g hlt hk hv q.symm
      · exact h.apart k i g (by omega) hi q.symm hv

/-- how many numbers stand ahead of list i -/
def offL (L : Nat → Nat) : Nat → Nat
  | 0 => 0
  | i + 1 => offL L i + L i
theorem offL_mono (L : Nat → Nat) : ∀ {i j : Nat}, i ≤ j → offL L i ≤ offL L j
  | i, j, h => by
    induction h with
    | refl => exact Nat.le_refl _
    | step _ ih => exact Nat.le_trans ih (Nat.le_add_right _ _)
def markF (F : Nat → List Int) (k : Int) (j : Nat) (i : Nat) : List Int := if i < j then marks (k + (offL (fun i => (F i).length) i : Nat)) (F i).length else F i

end Go.Proofs.Ytnildepdpkbekaa
