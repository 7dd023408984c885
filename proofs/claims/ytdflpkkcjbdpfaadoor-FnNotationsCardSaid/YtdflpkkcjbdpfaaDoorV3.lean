/- ReadNotation in the model. -/
import Derived.Test.YtdflpkkcjbdpfaaDoorV2
namespace Go.Proofs.YtdflpkkcjbdpfaaDoor
open Go.RowKit
set_option linter.unusedSimpArgs false

def fromB (n : Nat) (L : List Nat) (q : Nat) (acc : List (List (List Nat))) (p : Nat) : Blks :=
  match blockP n L p with
  | .error e => .error e
  | .ok (cs, p') => Blks.cat (acc ++ [cs]) (moreB n L q p')
theorem fromB_start (n : Nat) (L : List Nat) : fromB n L L.length [] 0 = blocksP n L := rfl
theorem fromB_bad {n : Nat} {L : List Nat} {q p e : Nat} {acc : List (List (List Nat))} (h : blockP n L p = .error e) : fromB n L q acc p = .error e := by unfold fromB; rw [h]
theorem fromB_last {n : Nat} {L : List Nat} {q p p' : Nat} {acc : List (List (List Nat))} {cs : List (List Nat)} (h : blockP n L p = .ok (cs, p')) (hl : L.length ≤ p') : fromB n L (q + 1) acc p = .ok (acc ++ [cs]) := by
  unfold fromB
  rw [h]
  simp only
  rw [moreB_stop n L q p' (.inl hl)]
  simp [Blks.cat]
theorem fromB_last0 {n : Nat} {L : List Nat} {p p' : Nat} {acc : List (List (List Nat))} {cs : List (List Nat)} (h : blockP n L p = .ok (cs, p')) : fromB n L 0 acc p = .ok (acc ++ [cs]) := by
  unfold fromB
  rw [h]
  simp [moreB, Blks.cat]
theorem fromB_go {n : Nat} {L : List Nat} {q p p' : Nat} {acc : List (List (List Nat))} {cs : List (List Nat)} (h : blockP n L p = .ok (cs, p')) (hl : ¬ L.length ≤ p') (hc : L.getD p' 0 = 44) : fromB n L (q + 1) acc p = fromB n L q (acc ++ [cs]) (p' + 1) := by
  conv => lhs; unfold fromB
  rw [h]
  simp only
  have hst : ¬ (L.length ≤ p' ∨ L.getD p' 0 ≠ 44) := fun h9 => h9.elim hl (fun h8 => h8 hc)
  cases hb : blockP n L (p' + 1) with
  | error e =>
    rw [moreB_bad n L q p' e hst hb, fromB_bad hb]
    rfl
  | ok x =>
    obtain ⟨cs2, p2⟩ := x
    rw [moreB_go n L q p' p2 cs2 hst hb, Blks.cat_cat]
    unfold fromB
    rw [hb]
/-- what a block adds, if there are m blocks -/
def joinF (m : Nat) (b : List (List Nat)) : List (List Nat) := if 1 < m then pal b else b
def accF (bs : List (List (List Nat))) (m j : Nat) : List (List Nat) := (bs.take j).flatMap (joinF m)
theorem accF_step (bs : List (List (List Nat))) (m j : Nat) (hj : j < bs.length) : accF bs m (j + 1) = accF bs m j ++ joinF m bs[j] := by
  unfold accF
  rw [List.take_succ_eq_append_getElem hj, List.flatMap_append]
  simp
theorem accF_all (bs : List (List (List Nat))) (h : 1 ≤ bs.length) : accF bs bs.length bs.length = joinP bs := by
  unfold accF joinP
  rw [List.take_length]
  by_cases h1 : bs.length = 1
  · rw [if_pos h1]
    have e : joinF bs.length = id := by funext b; unfold joinF; rw [if_neg (by omega)]; rfl
    rw [e, List.flatMap_id]
  · rw [if_neg h1]
    congr 1
    funext b
    unfold joinF
    rw [if_pos (by omega)]
theorem joinF_len (m : Nat) (b : List (List Nat)) (h : b.length ≤ 200) : (joinF m b).length ≤ 400 := by
  unfold joinF
  split
  · rw [pal_len]; omega
  · omega
theorem accF_len (bs : List (List (List Nat))) (m : Nat) (h : ∀ b ∈ bs, b.length ≤ 200) : ∀ j, j ≤ bs.length → (accF bs m j).length ≤ 400 * j
  | 0, _ => by simp [accF]
  | j + 1, hj => by
    rw [accF_step bs m j hj, List.length_append]
    have h1 := accF_len bs m h j (by omega)
    have h2 := joinF_len m bs[j] (h _ (List.getElem_mem _))
    omega
end Go.Proofs.YtdflpkkcjbdpfaaDoor
