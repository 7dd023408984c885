/- Plain facts on signs: inversions of a product, mod 2. No program here. -/
import Derived.Test.YtnildepdpkbekaaP5
namespace Go.Proofs.Ytnildepdpkbekaa

def sumN (F : Nat → Nat) : Nat → Nat
  | 0 => 0
  | n + 1 => sumN F n + F n
theorem sumN_congr {F G : Nat → Nat} : ∀ n, (∀ i, i < n → F i = G i) → sumN F n = sumN G n
  | 0, _ => rfl
  | n + 1, h => by
    show sumN F n + F n = sumN G n + G n
    rw [sumN_congr n (fun i hi => h i (by omega)), h n (by omega)]
theorem sumN_add (F G : Nat → Nat) : ∀ n, sumN (fun i => F i + G i) n = sumN F n + sumN G n
  | 0 => rfl
  | n + 1 => by
    show sumN (fun i => F i + G i) n + (F n + G n) = (sumN F n + F n) + (sumN G n + G n)
    rw [sumN_add F G n]; omega
theorem sumN_put (F : Nat → Nat) (x i0 : Nat) : ∀ n, i0 < n → sumN (fun i => if i = i0 then x else F i) n + F i0 = sumN F n + x
  | 0, h => by omega
  | n + 1, h => by
    show sumN (fun i => if i = i0 then x else F i) n + (if n = i0 then x else F n) + F i0 = sumN F n + F n + x
    by_cases e : n = i0
    · subst e
      rw [if_pos rfl, sumN_congr n (F := fun i => if i = n then x else F i) (G := F) (fun i hi => by simp; omega)]
      omega
    · have ih := sumN_put F x i0 n (by omega)
      rw [if_neg e]; omega
/-- a sum in another order -/
theorem sumN_perm (G : Nat → Nat) : ∀ (n : Nat) (g : Nat → Nat), (∀ i, i < n → g i < n) → (∀ i j, i < n → j < n → g i = g j → i = j) → sumN (fun i => G (g i)) n = sumN G n
  | 0, _, _, _ => rfl
  | n + 1, g, hb, hi => by
    obtain ⟨i0, h0, e0⟩ := pigeon (n + 1) g hb hi n (by omega)
    by_cases hn : i0 = n
    · subst hn
      show sumN (fun i => G (g i)) i0 + G (g i0) = sumN G i0 + G i0
      rw [e0, sumN_perm G i0 g (fun i hin => by
        have h1 := hb i (by omega)
        by_cases q : g i = i0
        · have := hi i i0 (by omega) (by omega) (by omega); omega
        · omega) (fun i j a b c => hi i j (by omega) (by omega) c)]
    · have ih := sumN_perm G n (fun i => if i = i0 then g n else g i) (fun i hin => by
          have h1 := hb i (by omega)
          have h2 := hb n (by omega)
          try dsimp only
          split
          · rename_i e
            by_cases q : g n = n
            · have := hi n i0 (by omega) h0 (by omega); omega
            · omega
          · rename_i e
            by_cases q : g i = n
            · have := hi i i0 (by omega) h0 (by omega); omega
            · omega) (fun i j hin hjn e => by
          try dsimp only at e
          split at e <;> split at e
          · omega
          · have := hi n j (by omega) (by omega) e; omega
          · have := hi i n (by omega) (by omega) e; omega
          · exact hi i j (by omega) (by omega) e)
      have hput := sumN_put (fun i => G (g i)) (G (g n)) i0 n (by omega)
      have hsame : sumN (fun i => G (if i = i0 then g n else g i)) n = sumN (fun i => if i = i0 then G (g n) else G (g i)) n :=
        sumN_congr n fun i _ => by split <;> rfl
      show sumN (fun i => G (g i)) n + G (g n) = sumN G n + G n
      rw [← ih, hsame, ← hput, e0]

/-- the sum over all pairs i < j below n -/
def sumT (F : Nat → Nat → Nat) (n : Nat) : Nat := sumN (fun j => sumN (fun i => F i j) j) n
theorem sumT_succ (F : Nat → Nat → Nat) (n : Nat) : sumT F (n + 1) = sumT F n + sumN (fun i => F i n) n := rfl
theorem sumT_all (F : Nat → Nat → Nat) (hs : ∀ i j, F i j = F j i) (hd : ∀ i, F i i = 0) : ∀ n, sumN (fun i => sumN (fun j => F i j) n) n = 2 * sumT F n
  | 0 => rfl
  | n + 1 => by
    have ih := sumT_all F hs hd n
    show sumN (fun i => sumN (fun j => F i j) n + F i n) n + (sumN (fun j => F n j) n + F n n) = _
    rw [sumN_add, ih, hd n, sumT_succ, sumN_congr n (F := fun j => F n j) (G := fun i => F i n) (fun i _ => hs n i)]
    omega
theorem sumT_perm (F : Nat → Nat → Nat) (hs : ∀ i j, F i j = F j i) (hd : ∀ i, F i i = 0) (n : Nat) (g : Nat → Nat) (hb : ∀ i, i < n → g i < n) (hi : ∀ i j, i < n → j < n → g i = g j → i = j) :
    sumT (fun i j => F (g i) (g j)) n = sumT F n := by
  have h1 := sumT_all F hs hd n
  have h2 := sumT_all (fun i j => F (g i) (g j)) (fun i j => hs _ _) (fun i => hd _) n
  have h3 : sumN (fun i => sumN (fun j => F (g i) (g j)) n) n = sumN (fun i => sumN (fun j => F i j) n) n := by
    rw [sumN_congr n (G := fun i => sumN (fun j => F (g i) j) n) (fun i _ => sumN_perm (fun j => F (g i) j) n g hb hi)]
    exact sumN_perm (fun a => sumN (fun j => F a j) n) n g hb hi
  omega
theorem sumN_mod {F G : Nat → Nat} : ∀ n, (∀ i, i < n → F i % 2 = G i % 2) → sumN F n % 2 = sumN G n % 2
  | 0, _ => rfl
  | n + 1, h => by
    show (sumN F n + F n) % 2 = (sumN G n + G n) % 2
    have := sumN_mod n (fun i hi => h i (by omega))
    have := h n (by omega)
    omega
theorem sumT_mod {F G : Nat → Nat → Nat} (n : Nat) (h : ∀ i j, i < j → j < n → F i j % 2 = G i j % 2) : sumT F n % 2 = sumT G n % 2 :=
  sumN_mod n fun j hj => sumN_mod j fun i hi => h i j hi hj
theorem sumT_add (F G : Nat → Nat → Nat) (n : Nat) : sumT (fun i j => F i j + G i j) n = sumT F n + sumT G n := by
  unfold sumT
  rw [← sumN_add]
  exact sumN_congr n fun j _ => sumN_add _ _ j

def invP (f : Nat → Nat) (i j : Nat) : Nat := if f j < f i then 1 else 0
theorem cntGt_sum (f : Nat → Nat) (v : Nat) : ∀ n, cntGt f v n = sumN (fun i => if v < f i then 1 else 0) n
  | 0 => rfl
  | n + 1 => by
    show cntGt f v n + _ = sumN _ n + _
    rw [cntGt_sum f v n]
theorem invB_sum (f : Nat → Nat) : ∀ n, invB f n = sumT (invP f) n
  | 0 => rfl
  | n + 1 => by
    show invB f n + cntGt f (f n) n = sumT (invP f) n + _
    rw [invB_sum f n, cntGt_sum]; rfl
def symP (f : Nat → Nat) (a b : Nat) : Nat := if a < b then invP f a b else if b < a then invP f b a else 0
theorem invB_mul {n : Nat} {f g : Nat → Nat} (hf : IsRow n f) (hg : IsRow n g) : invB (mulR n f g) n % 2 = (invB f n + invB g n) % 2 := by
  have hsym : sumT (symP f) n = sumT (invP f) n := by
    unfold sumT
    exact sumN_congr n fun j _ => sumN_congr j fun i hi => by simp [symP, hi]
  have hperm := sumT_perm (symP f) (fun i j => by unfold symP; split <;> split <;> first | rfl | omega) (fun i => by simp [symP]) n (fun i => g i - 49)
    (fun i hi => by have := hg.lo i hi; have := hg.hi i hi; omega) (fun i j hi hj e => hg.inj i j hi hj (by have := hg.lo i hi; have := hg.lo j hj; omega))
  rw [invB_sum, invB_sum, invB_sum, ← hsym, ← hperm, ← sumT_add]
  refine sumT_mod n fun i j hij hj => ?_
  have hi : i < n := by omega
  have l1 := hg.lo i hi
  have l2 := hg.lo j hj
  have u1 := hg.hi i hi
  have u2 := hg.hi j hj
  have hne : g i ≠ g j := fun e => by have := hg.inj i j hi hj e; omega
  have hfne : f (g i - 49) ≠ f (g j - 49) := fun e => by have := hf.inj _ _ (by omega) (by omega) e; omega
  unfold symP invP
  rw [mulR_at _ _ hi, mulR_at _ _ hj]
  by_cases h1 : g i < g j
  · rw [if_pos (show g i - 49 < g j - 49 by omega), if_neg (show ¬ g j < g i by omega), Nat.add_zero]
  · rw [if_neg (show ¬ g i - 49 < g j - 49 by omega), if_pos (show g j - 49 < g i - 49 by omega), if_pos (show g j < g i by omega)]
    by_cases h2 : f (g j - 49) < f (g i - 49)
    · rw [if_pos h2, if_neg (by omega)]
    · rw [if_neg h2, if_pos (by omega)]
theorem even_mul {n : Nat} {f g : Nat → Nat} (hf : IsRow n f) (hg : IsRow n g) : evenB (invB (mulR n f g) n) = (evenB (invB f n) == evenB (invB g n)) := by
  have := invB_mul hf hg
  unfold evenB
  have h1 : invB f n % 2 = 0 ∨ invB f n % 2 = 1 := by omega
  have h2 : invB g n % 2 = 0 ∨ invB g n % 2 = 1 := by omega
  rcases h1 with h1 | h1 <;> rcases h2 with h2 | h2 <;> simp [this, h1, h2, Nat.add_mod]
end Go.Proofs.Ytnildepdpkbekaa
