/- bytes.Compare on two rows; slices.SortFunc on rows: sortDigits. -/
import Derived.Shelf.SlSortCmp.NoneTotal
import Derived.Lib.BytesEntry
import Derived.Lib.Bytealg
import Derived.Laws.Externs
import Derived.Test.YtnoepobbecobbaaSG
namespace Go.Proofs.Ytnoepobbecobbaa
open Go.RowKit
set_option linter.unusedSimpArgs false
set_option linter.unusedVariables false

theorem numL_app : ∀ (l z : List Nat), numL (l ++ z) = numL l * 256 ^ z.length + numL z
  | [], z => by simp [numL]
  | b :: t, z => by
    show b * 256 ^ (t ++ z).length + numL (t ++ z) = (b * 256 ^ t.length + numL t) * 256 ^ z.length + numL z
    rw [numL_app t z, List.length_append, Nat.pow_add, Nat.add_mul, Nat.mul_assoc, Nat.add_assoc]
def byt8 (f : Nat → Nat) : List UInt8 := (to8 f).map UInt8.ofNat
def key8 (f : Nat → Nat) : Nat := numL (to8 f)
theorem to8_split {n : Nat} {f : Nat → Nat} (h : IsRow n f) : to8 f = rowL n f ++ List.replicate (8 - n) 0 := by
  have h8 := h.eight
  apply List.ext_getElem
  · simp [to8, rowL]; omega
  · intro i h1 h2
    have hi : i < 8 := by simpa [to8] using h1
    by_cases hn : i < n
    · simp [to8, rowL, List.getElem_append, hn]
    · simp [to8, rowL, List.getElem_append, hn, h.zero i (by omega)]
theorem key8_lt {n : Nat} {f g : Nat → Nat} (hf : IsRow n f) (hg : IsRow n g) : key8 f < key8 g ↔ rowKey n f < rowKey n g := by
  unfold key8 rowKey
  rw [to8_split hf, to8_split hg, numL_app, numL_app]
  have hp : 0 < 256 ^ (List.replicate (8 - n) 0).length := Nat.pow_pos (by omega)
  generalize 256 ^ (List.replicate (8 - n) 0).length = p at *
  generalize numL (List.replicate (8 - n) 0) = z
  constructor
  · intro h
    exact Nat.lt_of_mul_lt_mul_right (a := p) (by omega)
  · intro h
    have := Nat.mul_lt_mul_of_pos_right h hp
    omega
theorem cmp_num : ∀ (l r : List Nat), l.length = r.length → (∀ b ∈ l, b < 256) → (∀ b ∈ r, b < 256) → Lib.compareBytes (l.map UInt8.ofNat) (r.map UInt8.ofNat) = if numL l < numL r then -1 else if numL r < numL l then 1 else 0
  | [], [], _, _, _ => by simp [Lib.compareBytes, numL]
  | [], _ :: _, h, _, _ => by simp at h
  | _ :: _, [], h, _, _ => by simp at h
  | a :: l, b :: r, h, hl, hr => by
    have hlen : l.length = r.length := by simpa using h
    have ih := cmp_num l r hlen (fun x hx => hl x (by simp [hx])) (fun x hx => hr x (by simp [hx]))
    have h1 := numL_lt l (fun x hx => hl x (by simp [hx]))
    have h2 := numL_lt r (fun x hx => hr x (by simp [hx]))
    have ha := hl a (by simp)
    have hb := hr b (by simp)
    have e1 : (UInt8.ofNat a < UInt8.ofNat b) ↔ (a < b) := by
      rw [UInt8.lt_iff_toNat_lt]; simp [UInt8.toNat_ofNat']; omega
    have e2 : (UInt8.ofNat b < UInt8.ofNat a) ↔ (b < a) := by
      rw [UInt8.lt_iff_toNat_lt]; simp [UInt8.toNat_ofNat']; omega
    simp only [List.map_cons, Lib.compareBytes, e1, e2, ih, numL, hlen]
    rw [hlen] at h1
    generalize 256 ^ r.length = p at *
    rcases Nat.lt_trichotomy a b with hab | hab | hab
    · have h3 : (a + 1) * p ≤ b * p := Nat.mul_le_mul_right _ hab
      rw [Nat.add_mul, Nat.one_mul] at h3
      have h4 : a * p + numL l < b * p + numL r := by omega
      rw [if_pos hab, if_pos h4]
    · subst hab
      rw [if_neg (Nat.lt_irrefl a), if_neg (Nat.lt_irrefl a)]
      simp
    · have h3 : (b + 1) * p ≤ a * p := Nat.mul_le_mul_right _ hab
      rw [Nat.add_mul, Nat.one_mul] at h3
      have h4 : b * p + numL r < a * p + numL l := by omega
      rw [if_neg (by omega), if_pos hab, if_neg (by omega), if_pos h4]
theorem to8_small {f : Nat → Nat} (hf : ∀ i, f i < 256) : ∀ b ∈ to8 f, b < 256 := fun b hb => by
  obtain ⟨i, _, rfl⟩ := List.mem_map.1 hb
  exact hf i
/-- what bytes.Compare says of two rows -/
def cmp8 (f g : Nat → Nat) : Int := if key8 f < key8 g then -1 else if key8 g < key8 f then 1 else 0
theorem cmp8_bytes {f g : Nat → Nat} (hf : ∀ i, f i < 256) (hg : ∀ i, g i < 256) : Lib.compareBytes (byt8 f) (byt8 g) = cmp8 f g := cmp_num _ _ (by simp [to8]) (to8_small hf) (to8_small hg)

set_option maxRecDepth 100000 in
theorem load8 (f : Nat → Nat) (b : Nat) (W : World) (hc : ∀ i, i < 8 → W.cell? ⟨b, i, none⟩ = some (.int .u8 (f i))) (c : Nat) :
    (Extern.Bytes.bytesOf (.slice (some ⟨b, 0, none⟩) 8 c)).run Try.prog W = .ok ⟨(byt8 f).toArray⟩ W := by
  have := Lib.run_loadBytesX (P := Try.prog) W ((to8 f).map fun (x : Nat) => (x : Int)) ⟨b, 0, none⟩ .empty (fun j x hj => by
    have hj8 : j < 8 := by
      have := (List.getElem?_eq_some_iff.1 hj).1
      simpa [to8] using this
    rw [add_at, Nat.zero_add, hc j hj8]
    simp [to8, hj8] at hj
    rw [hj])
  have hl : ((to8 f).map fun (x : Nat) => (x : Int)).length = 8 := by simp [to8]
  rw [hl] at this
  show (Extern.Bytes.loadBytes ⟨b, 0, none⟩ 8 .empty).run Try.prog W = _
  rw [this]
  have he : (ByteArray.empty.data ++ (Lib.bytesOf ((to8 f).map fun (x : Nat) => (x : Int))).toArray) = (byt8 f).toArray := by
    simp [Lib.bytesOf, byt8]
  rw [he]

end Go.Proofs.Ytnoepobbecobbaa
