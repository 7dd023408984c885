/- Plain facts on ranks of rows: no program here. -/
import Derived.Test.YtnildepdpkbekaaP4
namespace Go.Proofs.Ytnildepdpkbekaa

def fact : Nat → Nat
  | 0 => 1
  | k + 1 => fact k * (k + 1)
theorem fact_pos : ∀ k, 1 ≤ fact k
  | 0 => Nat.le_refl _
  | k + 1 => Nat.mul_le_mul (fact_pos k) (show 1 ≤ k + 1 by omega)
theorem fact_mono : ∀ {a b : Nat}, a ≤ b → fact a ≤ fact b
  | a, b, h => by
    induction h with
    | refl => exact Nat.le_refl _
    | step _ ih => exact Nat.le_trans ih (by show _ ≤ fact _ * _; exact Nat.le_mul_of_pos_right _ (by omega))
theorem fact_le {k : Nat} (h : k ≤ 8) : fact k ≤ 40320 := fact_mono h

/-- place i of h taken out, what is behind it moved up -/
def dropF (h : Nat → Nat) (p : Nat) (i : Nat) : Nat := if i < p then h i else h (i + 1)
/-- the m digits of the row of rank k out of the digits h -/
def rowD : Nat → Nat → (Nat → Nat) → Nat → Nat
  | 0, _, _ => fun _ => 0
  | m + 1, k, h => fun i => if i = 0 then h (k / fact m) else rowD m (k % fact m) (dropF h (k / fact m)) (i - 1)
/-- what is left of the digits h, and of the rank k, behind j of m digits -/
def leftK (m k : Nat) : Nat → Nat
  | 0 => k
  | j + 1 => leftK m k j % fact (m - (j + 1))
def leftH (m k : Nat) (h : Nat → Nat) : Nat → Nat → Nat
  | 0 => h
  | j + 1 => dropF (leftH m k h j) (leftK m k j / fact (m - (j + 1)))
def pickAt (m k : Nat) (h : Nat → Nat) (j : Nat) : Nat := leftH m k h j (leftK m k j / fact (m - (j + 1)))
theorem leftK_lt {m k : Nat} (hk : k < fact m) : ∀ j, j ≤ m → leftK m k j < fact (m - j)
  | 0, _ => hk
  | _ + 1, _ => Nat.mod_lt _ (fact_pos _)
theorem pick_lt {m k : Nat} (hk : k < fact m) (j : Nat) (hj : j < m) : leftK m k j / fact (m - (j + 1)) < m - j := by
  have h1 := leftK_lt hk j (by omega)
  rw [show m - j = (m - (j + 1)) + 1 by omega] at h1 ⊢
  exact Nat.div_lt_of_lt_mul (by simpa [fact, Nat.mul_comm] using h1)
theorem leftH_ok {n k : Nat} {h : Nat → Nat} {P : Nat → Prop} (h0 : ∀ t, t < n → P (h t)) : ∀ j, j ≤ n → ∀ t, t < n - j → P (leftH n k h j t)
  | 0, _, t, ht => h0 t ht
  | j + 1, hj, t, ht => by
    have ih := leftH_ok (k := k) h0 j (by omega)
    show P (dropF (leftH n k h j) _ t)
    unfold dropF
    split
    · exact ih t (by omega)
    · exact ih (t + 1) (by omega)
theorem pickAt_ok {n k : Nat} {h : Nat → Nat} {P : Nat → Prop} (hk : k < fact n) (h0 : ∀ t, t < n → P (h t)) (j : Nat) (hj : j < n) : P (pickAt n k h j) :=
  leftH_ok h0 j (by omega) _ (pick_lt hk j hj)
end Go.Proofs.Ytnildepdpkbekaa
