/- Plain facts: the model's road to a change's row, its places and its swaps, the program's places and swaps. No program here. -/
import Derived.Test.YtkeighlcdnfjcaaQ2
namespace Go.Proofs.Ytkeighlcdnfjcaa

/-- the model's row of a change, from place p on (k: rounds left) -/
def mR (n : Nat) (l : List Nat) : Nat → Nat → (Nat → Nat) → (Nat → Nat)
  | 0, _, h => h
  | k + 1, p, h => if p < n then (if l.contains (48 + p) then mR n l k (p + 1) h else mR n l k (p + 2) (setF (setF h (p - 1) (49 + p)) p (48 + p))) else h
theorem mR_end (n : Nat) (l : List Nat) (k p : Nat) (h : Nat → Nat) (hp : ¬ p < n) : mR n l k p h = h := by
  cases k <;> simp [mR, hp]
/-- the model's places from p on -/
def mP (n : Nat) (l : List Nat) : Nat → Nat → List Nat
  | 0, _ => []
  | k + 1, p => if p ≤ n then (if l.contains (48 + p) then p :: mP n l k (p + 1) else mP n l k (p + 1)) else []
theorem mP_end (n : Nat) (l : List Nat) (k p : Nat) (hp : ¬ p ≤ n) : mP n l k p = [] := by
  cases k <;> simp [mP, hp]
/-- the model's swaps from p on -/
def mS (n : Nat) (l : List Nat) : Nat → Nat → List Nat
  | 0, _ => []
  | k + 1, p => if p < n then (if l.contains (48 + p) then mS n l k (p + 1) else p :: mS n l k (p + 2)) else []
theorem mS_end (n : Nat) (l : List Nat) (k p : Nat) (hp : ¬ p < n) : mS n l k p = [] := by
  cases k <;> simp [mS, hp]
/-- the program's places: from the digits -/
def iP (n : Nat) (f : Nat → Nat) : Nat → Nat → List Nat
  | 0, _ => []
  | k + 1, i => if i < n then (if f i = 49 + i then (i + 1) :: iP n f k (i + 1) else iP n f k (i + 1)) else []
theorem iP_end (n : Nat) (f : Nat → Nat) (k i : Nat) (hi : ¬ i < n) : iP n f k i = [] := by
  cases k <;> simp [iP, hi]
/-- the program's swaps: from the digits -/
def iS (n : Nat) (f : Nat → Nat) : Nat → Nat → List Nat
  | 0, _ => []
  | k + 1, i => if i < n - 1 then (if f (i + 1) < f i then (i + 1) :: iS n f k (i + 1) else iS n f k (i + 1)) else []
theorem iS_end (n : Nat) (f : Nat → Nat) (k i : Nat) (hi : ¬ i < n - 1) : iS n f k i = [] := by
  cases k <;> simp [iS, hi]
def placesOf (n : Nat) (l : List Nat) : List Nat := mP n l n 1
def swapsOf (n : Nat) (l : List Nat) : List Nat := mS n l n 1
theorem chs_roads (n : Nat) (h3 : 3 ≤ n) (h8 : n ≤ 8) : ∀ l ∈ chs n, to8 (mR n l n 1 (rdf n)) = to8 (cf n l) ∧ iP n (cf n l) n 0 = placesOf n l ∧ iS n (cf n l) n 0 = swapsOf n l ∧ (placesOf n l).length ≤ 8 ∧ (swapsOf n l).length ≤ 8 := by
  have : ∀ n, n < 9 → 3 ≤ n → ∀ l ∈ chs n, to8 (mR n l n 1 (rdf n)) = to8 (cf n l) ∧ iP n (cf n l) n 0 = placesOf n l ∧ iS n (cf n l) n 0 = swapsOf n l ∧ (placesOf n l).length ≤ 8 ∧ (swapsOf n l).length ≤ 8 := by decide +kernel
  exact this n (by omega) h3
end Go.Proofs.Ytkeighlcdnfjcaa
