/- Place notation on letters: abbreviated changes, blocks, texts of lists, halves. -/
import Derived.Test.YtdflpkkcjbdpfaaDoorK3
namespace Go.Proofs.YtdflpkkcjbdpfaaDoor

def isD (b : Nat) : Bool := decide (48 ≤ b) && decide (b ≤ 57)
def isX (b : Nat) : Bool := decide (b = 45) || decide (b = 120)
/-- how many digits the letters begin with -/
def spanD : List Nat → Nat
  | [] => 0
  | b :: t => if isD b then spanD t + 1 else 0
/-- how long the change is with which the letters begin -/
def spanW : List Nat → Nat
  | [] => 0
  | b :: t => if isX b then 1 else spanD (b :: t)
theorem spanD_le : ∀ l, spanD l ≤ l.length
  | [] => Nat.le_refl _
  | b :: t => by
    have := spanD_le t
    unfold spanD
    split
    · simp only [List.length_cons]; omega
    · exact Nat.zero_le _
theorem spanW_le (l : List Nat) : spanW l ≤ l.length := by
  cases l with
  | nil => exact Nat.le_refl _
  | cons b t =>
    have h := spanD_le (b :: t)
    show (if isX b then 1 else spanD (b :: t)) ≤ (b :: t).length
    split
    · simp only [List.length_cons]; omega
    · exact h
def dashed (l : List Nat) : List Nat := if l = [120] then [45] else l
/-- the change that is meant; none: [] -/
def tidyL (n : Nat) (l : List Nat) : List Nat :=
  if goodL n (dashed l) then dashed l else if goodL n (dashed l ++ [48 + n]) then dashed l ++ [48 + n] else if goodL n (49 :: dashed l) then 49 :: dashed l else if goodL n (49 :: (dashed l ++ [48 + n])) then 49 :: (dashed l ++ [48 + n]) else []
theorem goodL_ne {n : Nat} {l : List Nat} (h : goodL n l = true) : l ≠ [] := by
  intro e; subst e; simp [goodL] at h
theorem goodL_small {n : Nat} {l : List Nat} (h : goodL n l = true) : ∀ b ∈ l, b < 58 := (chs_small n (goodL_three h) (goodL_eight h) l (mem_chs h)).2.1
theorem tidyL_good (n : Nat) (l : List Nat) (h : tidyL n l ≠ []) : goodL n (tidyL n l) = true := by
  unfold tidyL at h ⊢
  split
  · assumption
  · split
    · assumption
    · split
      · assumption
      · split
        · assumption
        · simp_all
theorem tidyL_self {n : Nat} {l : List Nat} (h : goodL n l = true) (hx : l ≠ [120]) : tidyL n l = l := by
  unfold tidyL dashed
  rw [if_neg hx, if_pos h]
/-- the change that begins at p; none: [] -/
def wordP (n : Nat) (L : List Nat) (p : Nat) : List Nat := if spanW (L.drop p) = 0 then [] else tidyL n ((L.drop p).take (spanW (L.drop p)))
theorem wordP_good (n : Nat) (L : List Nat) (p : Nat) (h : wordP n L p ≠ []) : goodL n (wordP n L p) = true := by
  unfold wordP at h ⊢
  split
  · simp_all
  · rename_i h0
    rw [if_neg h0] at h
    exact tidyL_good n _ h

abbrev Blk := Except Nat (List (List Nat) × Nat)
def Blk.cat (acc : List (List Nat)) : Blk → Blk
  | .error e => .error e
  | .ok (cs, p) => .ok (acc ++ cs, p)
theorem Blk.cat_cat (a b : List (List Nat)) (r : Blk) : Blk.cat a (Blk.cat b r) = Blk.cat (a ++ b) r := by
  cases r with
  | error e => rfl
  | ok x => obtain ⟨cs, p⟩ := x; simp [Blk.cat]
/-- where the next change begins -/
def nextP (L : List Nat) (p : Nat) : Nat := if L.getD p 0 = 46 then p + 1 else p
/-- the further changes of a block, behind one that ends at p -/
def moreP (n : Nat) (L : List Nat) : Nat → Nat → Blk
  | 0, p => .ok ([], p)
  | f + 1, p => if L.length ≤ p ∨ L.getD p 0 = 44 then .ok ([], p) else
      if wordP n L (nextP L p) = [] then .error (nextP L p) else Blk.cat [wordP n L (nextP L p)] (moreP n L f (nextP L p + spanW (L.drop (nextP L p))))
/-- the block that begins at p -/
def blockP (n : Nat) (L : List Nat) (p : Nat) : Blk :=
  if wordP n L p = [] then .error p else Blk.cat [wordP n L p] (moreP n L L.length (p + spanW (L.drop p)))
abbrev Blks := Except Nat (List (List (List Nat)))
def Blks.cat (acc : List (List (List Nat))) : Blks → Blks
  | .error e => .error e
  | .ok cs => .ok (acc ++ cs)
theorem Blks.cat_cat (a b : List (List (List Nat))) (r : Blks) : Blks.cat a (Blks.cat b r) = Blks.cat (a ++ b) r := by
  cases r <;> simp [Blks.cat]
/-- the further blocks, behind one that ends at p -/
def moreB (n : Nat) (L : List Nat) : Nat → Nat → Blks
  | 0, _ => .ok []
  | f + 1, p => if L.length ≤ p ∨ L.getD p 0 ≠ 44 then .ok [] else
      match blockP n L (p + 1) with
      | .error e => .error e
      | .ok (cs, p') => Blks.cat [cs] (moreB n L f p')
def blocksP (n : Nat) (L : List Nat) : Blks :=
  match blockP n L 0 with
  | .error e => .error e
  | .ok (cs, p') => Blks.cat [cs] (moreB n L L.length p')

theorem moreP_end (n : Nat) (L : List Nat) : ∀ (f p : Nat) (cs : List (List Nat)) (p' : Nat), L.length < p + f → moreP n L f p = .ok (cs, p') → p ≤ p' ∧ (p ≤ L.length → p' ≤ L.length) ∧ (L.length ≤ p' ∨ L.getD p' 0 = 44)
  | 0, p, cs, p', hf, h => by
    simp only [moreP, Except.ok.injEq, Prod.mk.injEq] at h
    omega
  | f + 1, p, cs, p', hf, h => by
    unfold moreP at h
    split at h
    · rename_i hc
      simp only [Except.ok.injEq, Prod.mk.injEq] at h
      obtain ⟨_, rfl⟩ := h
      exact ⟨Nat.le_refl _, fun h => h, hc⟩
    · rename_i hc
      have hpl : p < L.length := by omega
      split at h
      · cases h
      · rename_i hw
        have hs : spanW (L.drop (nextP L p)) ≠ 0 := by
          intro h0
          exact hw (by unfold wordP; rw [if_pos h0])
        have hsl := spanW_le (L.drop (nextP L p))
        rw [List.length_drop] at hsl
        have hnp : p ≤ nextP L p ∧ nextP L p ≤ p + 1 := by unfold nextP; split <;> omega
        cases hm : moreP n L f (nextP L p + spanW (L.drop (nextP L p))) with
        | error e => rw [hm] at h; cases h
        | ok x =>
          obtain ⟨cs2, p2⟩ := x
          rw [hm] at h
          simp only [Blk.cat, Except.ok.injEq, Prod.mk.injEq] at h
          obtain ⟨_, rfl⟩ := h
          obtain ⟨a, b, c⟩ := moreP_end n L f _ _ _ (by omega) hm
          exact ⟨by omega, fun _ => b (by omega), c⟩
theorem blockP_end (n : Nat) (L : List Nat) (p : Nat) (cs : List (List Nat)) (p' : Nat) (h : blockP n L p = .ok (cs, p')) : p < p' ∧ p' ≤ L.length ∧ (L.length ≤ p' ∨ L.getD p' 0 = 44) ∧ cs ≠ [] := by
  unfold blockP at h
  split at h
  · cases h
  · rename_i hw
    have hs : spanW (L.drop p) ≠ 0 := by
      intro h0
      exact hw (by unfold wordP; rw [if_pos h0])
    have hsl := spanW_le (L.drop p)
    rw [List.length_drop] at hsl
    cases hm : moreP n L L.length (p + spanW (L.drop p)) with
    | error e => rw [hm] at h; cases h
    | ok x =>
      obtain ⟨cs2, p2⟩ := x
      rw [hm] at h
      simp only [Blk.cat, Except.ok.injEq, Prod.mk.injEq] at h
      obtain ⟨rfl, rfl⟩ := h
      obtain ⟨a, b, c⟩ := moreP_end n L _ _ _ _ (by omega) hm
      exact ⟨by omega, b (by omega), c, by simp⟩
/-- a digit never stands behind the digits of a change -/
theorem spanD_next : ∀ (l : List Nat), spanD l < l.length → isD (l.getD (spanD l) 0) = false
  | [], h => by simp at h
  | b :: t, h => by
    by_cases hb : isD b = true
    · have e : spanD (b :: t) = spanD t + 1 := by simp [spanD, hb]
      rw [e] at h ⊢
      simp only [List.length_cons] at h
      have := spanD_next t (by omega)
      simpa using this
    · have e : spanD (b :: t) = 0 := by simp [spanD, hb]
      rw [e]
      simpa using hb
end Go.Proofs.YtdflpkkcjbdpfaaDoor
