/- Lists of lists: one put in its place, one more behind the others. -/
import Derived.Test.YtpfnamiacagocaaK2
namespace Go.Proofs.Ytpfnamiacagocaa
open Go.RowKit
set_option linter.unusedSimpArgs false
set_option linter.unusedVariables false

theorem grownBy_put (W : World) (b o : Nat) (v : Value) : W.grownBy (W.setCell ⟨b, o, none⟩ v) (some b) :=
  ⟨rfl, rfl, rfl, by simp, fun k _ hne => Below.heap_setCell W _ v k (fun e => hne (by simp [e]))⟩
/-- one inner slice, made behind all the others, put in its place -/
theorem Lists.put {B C g n cap : Nat} {W : World} {vs : List Value} {F : Nat → List Int} {cv : Value} {c : List Int} {k : Nat} (h : Lists B W (.slice (some ⟨g, 0, none⟩) n cap) vs n F) (hk : k < n)
    (hcv : New C W 3 cv (ints c)) (hBC : B ≤ C) (hlt : ∀ i g, i < n → (vs.getD i nilV).ownBlock = some g → g < C) :
    Lists B (W.setCell ⟨g, k, none⟩ cv) (.slice (some ⟨g, 0, none⟩) n cap) (vs.set k cv) n (fun i => if i = k then c else F i) := by
  have hlen := h.len
  have hat : ∀ i, (vs.set k cv).getD i nilV = if i = k then cv else vs.getD i nilV := fun i => by
    rw [List.getD_eq_getElem?_getD, List.getD_eq_getElem?_getD, List.getElem?_set]
    by_cases e : k = i
    · rw [if_pos e, if_pos e.symm, if_pos (by omega)]; rfl
    · rw [if_neg e, if_neg (fun q => e q.symm)]
  have hg := grownBy_put W g k cv
  have hgo : (Value.slice (some ⟨g, 0, none⟩) n cap).ownBlock = some g := rfl
  refine ⟨h.outer.set k cv, by simp [hlen], fun i hi => ?_, fun i j b hij hj hb => ?_, h.base, fun i b hi hb => ?_⟩
  · rw [hat i]
    by_cases e : i = k
    · rw [if_pos e, if_pos e]
      exact hcv.own.grown hg fun b hb q => (hcv.own.apart h.outer (by decide) b hb) (by rw [hgo]; exact q.symm)
    · rw [if_neg e, if_neg e]
      exact (h.inner i hi).grown hg fun b hb q => ((h.inner i hi).apart h.outer (by decide) b hb) (by rw [hgo]; exact q.symm)
  · rw [hat i] at hb
    rw [hat j]
    by_cases e1 : i = k
    · rw [if_pos e1] at hb
      rw [if_neg (by omega)]
      intro q
      have := hlt j b hj q
      have := hcv.base b hb
      omega
    · rw [if_neg e1] at hb
      by_cases e2 : j = k
      · rw [if_pos e2]
        intro q
        have := hlt i b (by omega) hb
        have := hcv.base b q
        omega
      · rw [if_neg e2]
        exact h.apart i j b hij hj hb
  · rw [hat i] at hb
    by_cases e : i = k
    · rw [if_pos e] at hb
      exact Nat.le_trans hBC (hcv.base b hb)
    · rw [if_neg e] at hb
      exact h.ibase i b hi hb
theorem Lists.snoc {B : Nat} {W W' : World} {v v' cv : Value} {vs : List Value} {n : Nat} {F : Nat → List Int} {c : List Int} (h : Lists B W v vs n F) (hcv : Own W 3 cv (ints c)) (hB : B ≤ W.heap.size)
    (hcb : ∀ g, cv.ownBlock = some g → B ≤ g) (hsep : ∀ i g, i < n → (vs.getD i nilV).ownBlock = some g → cv.ownBlock ≠ some g)
    (hO : Own W' 39 v' (vs ++ [cv])) (hg : W.grownBy W' v.ownBlock) (hf : FreshOr W v v') : Lists B W' v' (vs ++ [cv]) (n + 1) (fun i => if i = n then c else F i) := by
  have hlen := h.len
  have hold : ∀ i, i < n → (vs ++ [cv]).getD i nilV = vs.getD i nilV := fun i hi => by
    rw [List.getD_eq_getElem?_getD, List.getD_eq_getElem?_getD, List.getElem?_append_left (by omega)]
  have hnew : (vs ++ [cv]).getD n nilV = cv := by
    rw [List.getD_eq_getElem?_getD, List.getElem?_append_right (by omega)]; simp [hlen]
  refine ⟨hO, by simp [hlen], fun i hi => ?_, fun i j g hij hj hgi => ?_, fun g hgv => ?_, fun i g hi hgi => ?_⟩
  · by_cases e : i = n
    · subst e; rw [hnew, if_pos rfl]; exact hcv.grown hg fun g hgc q => (hcv.apart h.outer (by decide) g hgc) q.symm
    · rw [hold i (by omega), if_neg e]
      exact (h.inner i (by omega)).grown hg fun g hgc q => ((h.inner i (by omega)).apart h.outer (by decide) g hgc) q.symm
  · rw [hold i (by omega)] at hgi
    by_cases e : j = n
    · subst e; rw [hnew]; exact hsep i g hij hgi
    · rw [hold j (by omega)]; exact h.apart i j g hij (by omega) hgi
  · rcases hf g hgv with q | q
    · exact h.base g q
    · omega
  · by_cases e : i = n
    · subst e; rw [hnew] at hgi; exact hcb g hgi
    · rw [hold i (by omega)] at hgi; exact h.ibase i g (by omega) hgi

/-- lists of numbers of its own, and a flag -/
def ListsR (n : Nat) (F : Nat → List Int) (b : Bool) (w : World) (e : Ending) (w' : World) : Prop :=
  ∃ v vs, e = .returned (.tuple #[v, .bool b]) ∧ Lists w.heap.size w' v vs n F ∧ Below w.heap.size w w'
theorem Lists.low {B B' : Nat} {W : World} {v : Value} {vs : List Value} {n : Nat} {F : Nat → List Int} (h : Lists B W v vs n F) (hB : B' ≤ B) : Lists B' W v vs n F :=
  ⟨h.outer, h.len, h.inner, h.apart, fun g hg => Nat.le_trans hB (h.base g hg), fun i g hi hg => Nat.le_trans hB (h.ibase i g hi hg)⟩
theorem Lists.none_yet {B : Nat} {W : World} {n g : Nat} (h : New B W 39 (.slice (some ⟨g, 0, none⟩) n n) (List.replicate n nilV)) (F : Nat → List Int) :
    Lists B W (.slice (some ⟨g, 0, none⟩) n n) (List.replicate n nilV) n (fun i => if i < 0 then F i else []) := by
  have hat : ∀ i, i < n → (List.replicate n nilV).getD i nilV = nilV := fun i hi => by simp [List.getD_eq_getElem?_getD, hi]
  refine ⟨h.own, by simp, fun i hi => ?_, fun i j g hij hj hg => ?_, h.base, fun i g hi hg => ?_⟩
  · rw [hat i hi, if_neg (by omega)]
    exact Own.nil _ _
  · rw [hat i (by omega)] at hg
    simp [nilV, Value.ownBlock] at hg
  · rw [hat i hi] at hg
    simp [nilV, Value.ownBlock] at hg
end Go.Proofs.Ytpfnamiacagocaa
