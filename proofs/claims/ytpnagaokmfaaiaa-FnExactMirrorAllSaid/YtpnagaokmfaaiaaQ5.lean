/- Plain facts: all changes, as the program and as the model lists them. No program here. -/
import Derived.Test.YtpnagaokmfaaiaaQ4
namespace Go.Proofs.Ytpnagaokmfaaiaa

/-- the program's loop over the next place -/
def stp (n : Nat) (rec : Nat → List (List Nat)) : Nat → Nat → List (List Nat)
  | 0, _ => []
  | q + 1, p => if p ≤ n then (rec p).map ((48 + p) :: ·) ++ stp n rec q (p + 2) else []
theorem stp_end (n : Nat) (rec : Nat → List (List Nat)) (q p : Nat) (h : ¬ p ≤ n) : stp n rec q p = [] := by
  cases q <;> simp [stp, h]
/-- the program's changes behind the place 'last', where 'len' places are made already -/
def aft (n : Nat) : Nat → Nat → Nat → List (List Nat)
  | 0, _, _ => []
  | k + 1, len, last => (if (n - last) % 2 = 0 ∧ len < n then [[]] else []) ++ stp n (fun p => aft n k (len + 1) p) n (last + 1)
/-- the empty text turned into "-" -/
def fixA : List (List Nat) → List (List Nat)
  | [] :: t => [45] :: t
  | l => l
/-- the model's ways to go on from a place -/
def frm (n : Nat) : Nat → Nat → List (List Nat)
  | 0, _ => [[]]
  | k + 1, p => if n < p then [[]] else (frm n k (p + 1)).map (p :: ·) ++ (if p < n then frm n k (p + 2) else [])
theorem frm_len (n : Nat) : ∀ (k p : Nat), ∀ l ∈ frm n k p, l.length ≤ k
  | 0, p, l, h => by simp [frm] at h; simp [h]
  | k + 1, p, l, h => by
    unfold frm at h
    split at h
    · simp at h; simp [h]
    · rw [List.mem_append] at h
      rcases h with h | h
      · obtain ⟨t, ht, rfl⟩ := List.mem_map.1 h
        have := frm_len n k (p + 1) t ht
        simp only [List.length_cons]; omega
      · split at h
        · have := frm_len n k (p + 2) l h; omega
        · simp at h
theorem frm_small (n : Nat) (hn : n ≤ 8) : ∀ (k p : Nat), ∀ l ∈ frm n k p, ∀ x ∈ l, x ≤ 8
  | 0, p, l, h, x, hx => by simp [frm] at h; subst h; simp at hx
  | k + 1, p, l, h, x, hx => by
    unfold frm at h
    split at h
    · simp at h; subst h; simp at hx
    · rename_i hp
      rw [List.mem_append] at h
      rcases h with h | h
      · obtain ⟨t, ht, rfl⟩ := List.mem_map.1 h
        rcases List.mem_cons.1 hx with rfl | hx
        · omega
        · exact frm_small n hn k (p + 1) t ht x hx
      · split at h
        · exact frm_small n hn k (p + 2) l h x hx
        · simp at h
/-- one text moved to its place among those before it -/
def mv (s : List Nat) : Nat → List (List Nat) → List (List Nat)
  | 0, xs => xs.set 0 s
  | k + 1, xs => if lexL s (xs.getD k []) then mv s k (xs.set (k + 1) (xs.getD k [])) else xs.set (k + 1) s
def ins (xs : List (List Nat)) (s : List Nat) : List (List Nat) := mv s xs.length (xs ++ [s])
theorem mv_len (s : List Nat) : ∀ (k : Nat) (xs : List (List Nat)), (mv s k xs).length = xs.length
  | 0, xs => by simp [mv]
  | k + 1, xs => by
    unfold mv
    split
    · rw [mv_len s k]; simp
    · simp
theorem ins_len (xs : List (List Nat)) (s : List Nat) : (ins xs s).length = xs.length + 1 := by unfold ins; rw [mv_len]; simp
/-- one round of the model's loop -/
def rnd (n : Nat) (acc : List (List Nat)) (l : List Nat) : List (List Nat) := if goodL n (ofPlaces l) then ins acc (ofPlaces l) else acc
theorem alls (n : Nat) (h3 : 3 ≤ n) (h8 : n ≤ 8) : fixA (aft n 9 0 0) = chs n ∧ (frm n 10 1).foldl (rnd n) [] = chs n ∧ (aft n 9 0 0).length ≤ 100 ∧ (frm n 10 1).length ≤ 100 ∧ aft n 9 0 0 ≠ [] := by
  have : ∀ n, n < 9 → 3 ≤ n → (fixA (aft n 9 0 0) = chs n ∧ (frm n 10 1).foldl (rnd n) [] = chs n ∧ (aft n 9 0 0).length ≤ 100 ∧ (frm n 10 1).length ≤ 100 ∧ aft n 9 0 0 ≠ []) := by decide +kernel
  exact this n (by omega) h3
theorem chs_len (n : Nat) (h3 : 3 ≤ n) (h8 : n ≤ 8) : (chs n).length ≤ 100 ∧ 1 ≤ (chs n).length := by
  have : ∀ n, n < 9 → 3 ≤ n → ((chs n).length ≤ 100 ∧ 1 ≤ (chs n).length) := by decide +kernel
  exact this n (by omega) h3
end Go.Proofs.Ytpnagaokmfaaiaa
