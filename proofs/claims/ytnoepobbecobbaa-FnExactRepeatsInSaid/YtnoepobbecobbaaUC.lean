/- How often each row of a stage occurs, purely. -/
import Derived.Test.YtnoepobbecobbaaUA
import Derived.Test.YtnoepobbecobbaaLAC
namespace Go.Proofs.Ytnoepobbecobbaa
open Go.RowKit
set_option linter.unusedSimpArgs false
set_option linter.unusedVariables false

/-- how many rows lie at a place -/
def cntF (n : Nat) (fs : List (Nat → Nat)) (p : Nat) : Nat := fs.countP fun f => plR n f == p
def cnts (n : Nat) (fs : List (Nat → Nat)) : List Int := (List.range (fact n)).map fun p => ((cntF n fs p : Nat) : Int)
theorem cnts_len (n : Nat) (fs : List (Nat → Nat)) : (cnts n fs).length = fact n := by simp [cnts]
theorem cnts_at (n : Nat) (fs : List (Nat → Nat)) (p : Nat) (h : p < (cnts n fs).length) : (cnts n fs)[p] = ((cntF n fs p : Nat) : Int) := by simp [cnts]
theorem cnt_nil (n p : Nat) : cntF n [] p = 0 := rfl
theorem cnts_nil (n : Nat) : cnts n [] = List.replicate (fact n) 0 := by
  unfold cnts
  simp only [cnt_nil]
  exact List.map_const'  .. |>.trans (by simp)
theorem cnt_snoc (n : Nat) (fs : List (Nat → Nat)) (f : Nat → Nat) (p : Nat) : cntF n (fs ++ [f]) p = cntF n fs p + (if plR n f = p then 1 else 0) := by
  unfold cntF
  rw [List.countP_append, List.countP_singleton]
  by_cases h : plR n f = p <;> simp [h]
theorem cnts_set (n : Nat) (fs : List (Nat → Nat)) (f : Nat → Nat) : (cnts n fs).set (plR n f) (((cntF n fs (plR n f) : Nat) : Int) + 1) = cnts n (fs ++ [f]) := by
  refine List.ext_getElem (by rw [List.length_set, cnts_len, cnts_len]) fun i h1 h2 => ?_
  rw [List.getElem_set, cnts_at n (fs ++ [f]) i h2, cnt_snoc]
  by_cases e : plR n f = i
  · subst e; simp
  · rw [if_neg e, if_neg e, cnts_at]
    simp
theorem cnt_le (n : Nat) (fs : List (Nat → Nat)) (p : Nat) : cntF n fs p ≤ fs.length := List.countP_le_length
/-- a list whose counts are asked -/
noncomputable def smB (L : List (List Nat)) : Bool := (listB L && decide (0 < L.length)) && decide (firstN L ≤ 6)
def levB (xs : List Int) : Bool := xs.all fun x => x == xs.getD 0 0
/-- the rows that do not occur -/
def missF (n : Nat) (fs : List (Nat → Nat)) (k : Nat) : List (Nat → Nat) := ((List.range k).filter fun p => cntF n fs p == 0).map (rankF n)
theorem missF_succ (n : Nat) (fs : List (Nat → Nat)) (k : Nat) : missF n fs (k + 1) = if cntF n fs k = 0 then missF n fs k ++ [rankF n k] else missF n fs k := by
  unfold missF
  rw [List.range_succ, List.filter_append, List.map_append]
  by_cases h : cntF n fs k = 0 <;> simp [h]
theorem missF_len (n : Nat) (fs : List (Nat → Nat)) (k : Nat) : (missF n fs k).length ≤ k := by
  unfold missF
  rw [List.length_map]
  have := List.length_filter_le (fun p => cntF n fs p == 0) (List.range k)
  simpa using this
end Go.Proofs.Ytnoepobbecobbaa
