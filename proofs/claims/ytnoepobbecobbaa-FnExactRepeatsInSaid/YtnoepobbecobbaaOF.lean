/- The law OrbitsOf. -/
import Derived.Test.YtnoepobbecobbaaOE
namespace Go.Proofs.Ytnoepobbecobbaa
open Go.RowKit
set_option linter.unusedSimpArgs false
set_option linter.unusedVariables false

def LtL6 (v : Value) (vs : List Value) (n B : Nat) : Prop := (∀ g, v.ownBlock = some g → g < B) ∧ ∀ i g, i < n → (vs.getD i nilV).ownBlock = some g → g < B
theorem LtL6.mono {v : Value} {vs : List Value} {n B B' : Nat} (h : LtL6 v vs n B) (hB : B ≤ B') : LtL6 v vs n B' := ⟨fun g hg => Nat.lt_of_lt_of_le (h.1 g hg) hB, fun i g hi hg => Nat.lt_of_lt_of_le (h.2 i g hi hg) hB⟩
theorem Lists.below6 {B : Nat} {W : World} {v : Value} {vs : List Value} {n : Nat} {F : Nat → List Int} (h : Lists B W v vs n F) : LtL6 v vs n W.heap.size := ⟨fun g hg => h.outer.lt g hg, fun i g hi hg => (h.inner i hi).lt g hg⟩
theorem Lists.under6 {B C : Nat} {W W' : World} {v : Value} {vs : List Value} {n : Nat} {F : Nat → List Int} (h : Lists B W v vs n F) (hl : LtL6 v vs n C) (hb : Below C W W') : Lists B W' v vs n F :=
  ⟨h.outer.under hl.1 hb, h.len, fun i hi => (h.inner i hi).under (fun g hg => hl.2 i g hi hg) hb, h.apart, h.base, h.ibase⟩
theorem Lists.besides6 {B : Nat} {W W' : World} {v u : Value} {vs : List Value} {n : Nat} {F : Nat → List Int} (h : Lists B W v vs n F) (hk : KeptBut W W' u) (hu : ∀ g, u.ownBlock = some g → g < B) : Lists B W' v vs n F :=
  ⟨h.outer.besides hk (fun g hg e => by have := h.base g hg; have := hu g e; omega), h.len, fun i hi => (h.inner i hi).besides hk (fun g hg e => by have := h.ibase i g hi hg; have := hu g e; omega), h.apart, h.base, h.ibase⟩
theorem Lists.drewN6 {B : Nat} {W : World} {v : Value} {vs : List Value} {n : Nat} {F : Nat → List Int} (h : Lists B W v vs n F) (d : Nat) : Lists B (W.drewN d) v vs n F := h.kept (below_drewN (Below.refl _ _) _)
theorem Lists.marked6 {B : Nat} {W : World} {v : Value} {vs : List Value} {n : Nat} {F : Nat → List Int} {k : Int} (h : Lists B W v vs n (markF F k n)) : Lists B W v vs n (fun i => marks (k + (offL (fun i => (F i).length) i : Nat)) (F i).length) :=
  h.congr fun i hi => by unfold markF; rw [if_pos hi]
theorem offL_bound6 {L : Nat → Nat} {n c : Nat} (h : ∀ i, i < n → L i ≤ c) : offL L n ≤ n * c := by
  induction n with
  | zero => simp [offL]
  | succ n ih =>
    have h1 := ih (fun i hi => h i (by omega))
    have h2 := h n (by omega)
    simp only [offL]
    rw [Nat.add_mul]
    omega
theorem incL_len (n : Nat) (l : List Nat) : (incL n l).length ≤ n := by
  have := List.length_filter_le (fun x => decide (x ∈ l)) ((List.range n).map (· + 1))
  unfold incL
  simpa using this
theorem orbs_in (n : Nat) (fs : List (Nat → Nat)) : ∀ k, ∀ l ∈ orbsTo n fs k, l.length ≤ n
  | 0, l, h => by simp [orbsTo] at h
  | k + 1, l, h => by
    by_cases hl : leastIn n fs (k + 1)
    · rw [orbsTo_yes hl] at h
      rcases List.mem_append.1 h with h | h
      · exact orbs_in n fs k l h
      · simp at h; rw [h]; exact incL_len _ _
    · rw [orbsTo_no hl] at h
      exact orbs_in n fs k l h
end Go.Proofs.Ytnoepobbecobbaa
