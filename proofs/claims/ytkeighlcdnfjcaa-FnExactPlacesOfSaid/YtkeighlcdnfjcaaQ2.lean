/- Plain facts on texts as lists of letters. No program here. -/
import Derived.Test.YtkeighlcdnfjcaaQ1
import Derived.Sort.Walk0
namespace Go.Proofs.Ytkeighlcdnfjcaa

theorem data_lets (s : ByteArray) : s.data.toList.map UInt8.toNat = lets s := by
  apply List.ext_getElem
  · simp [lets]
  · intro k h1 h2
    have hk : k < s.size := by simpa using h1
    have e : s.data.toList[k]'(by simpa using hk) = s[k] := rfl
    simp [lets, dg, hk, e]
theorem lets_data (s : ByteArray) : s.data.toList = (lets s).map UInt8.ofNat := by
  rw [← data_lets, List.map_map]
  exact (List.map_id'' (fun b => by simp) _).symm
theorem lets_inj {s t : ByteArray} (h : lets s = lets t) : s = t := by
  rw [← txt_lets s, ← txt_lets t, h]
theorem lets_lt (s : ByteArray) : ∀ b ∈ lets s, b < 256 := by
  intro b hb
  simp only [lets, List.mem_map] at hb
  obtain ⟨k, _, rfl⟩ := hb
  exact dg_lt s k
theorem map_ofNat_inj : ∀ {l r : List Nat}, (∀ b ∈ l, b < 256) → (∀ b ∈ r, b < 256) → l.map UInt8.ofNat = r.map UInt8.ofNat → l = r
  | [], [], _, _, _ => rfl
  | [], _ :: _, _, _, h => by simp at h
  | _ :: _, [], _, _, h => by simp at h
  | a :: l, b :: r, hl, hr, h => by
    simp only [List.map_cons, List.cons.injEq] at h
    have h1 := congrArg UInt8.toNat h.1
    have ha := hl a (by simp)
    have hb := hr b (by simp)
    simp [UInt8.toNat_ofNat'] at h1
    rw [map_ofNat_inj (fun x hx => hl x (by simp [hx])) (fun x hx => hr x (by simp [hx])) h.2]
    congr 1; omega
theorem txt_inj {l r : List Nat} (hl : ∀ b ∈ l, b < 256) (hr : ∀ b ∈ r, b < 256) (h : txt l = txt r) : l = r := by
  rw [← lets_txt l hl, ← lets_txt r hr, h]
theorem empty_lets (s : ByteArray) : s.toList.isEmpty = decide (lets s = []) := by
  rw [Lib.toList_data, lets_data]
  cases lets s <;> simp
theorem beq_lets (s : ByteArray) (l : List Nat) (hl : ∀ b ∈ l, b < 256) : (s.toList == l.map UInt8.ofNat) = decide (lets s = l) := by
  rw [Lib.toList_data, lets_data]
  by_cases h : lets s = l
  · simp [h]
  · rw [decide_eq_false h, beq_eq_false_iff_ne]
    exact fun e => h (map_ofNat_inj (lets_lt s) hl e)
theorem dash_lets (s : ByteArray) : (s.toList == [45]) = decide (lets s = [45]) := beq_lets s [45] (by simp)
theorem same_lets (s t : ByteArray) : (s.toList == t.toList) = decide (lets s = lets t) := by
  rw [Lib.toList_data t, lets_data t]
  exact beq_lets s _ (lets_lt t)
/-- the order of texts, on their letters -/
def lexL : List Nat → List Nat → Bool
  | [], [] => false
  | [], _ :: _ => true
  | _ :: _, [] => false
  | a :: l, b :: r => decide (a < b) || (a == b && lexL l r)
theorem less_map : ∀ (l r : List Nat), (∀ b ∈ l, b < 256) → (∀ b ∈ r, b < 256) → Op.bytesLess (l.map UInt8.ofNat) (r.map UInt8.ofNat) = lexL l r
  | [], [], _, _ => rfl
  | [], _ :: _, _, _ => rfl
  | _ :: _, [], _, _ => rfl
  | a :: l, b :: r, hl, hr => by
    have ha := hl a (by simp)
    have hb := hr b (by simp)
    have ih := less_map l r (fun x hx => hl x (by simp [hx])) (fun x hx => hr x (by simp [hx]))
    simp only [List.map_cons]
    unfold Op.bytesLess lexL
    rw [ih]
    have e1 : (UInt8.ofNat a < UInt8.ofNat b) = (a < b) := by
      rw [UInt8.lt_iff_toNat_lt]; simp [UInt8.toNat_ofNat']; omega
    have e2 : (UInt8.ofNat a == UInt8.ofNat b) = (a == b) := by
      by_cases h : a = b
      · simp [h]
      · rw [beq_eq_false_iff_ne.2 h, beq_eq_false_iff_ne]
        intro e
        have := congrArg UInt8.toNat e
        simp [UInt8.toNat_ofNat'] at this; omega
    simp only [e1, e2]
theorem less_lets (s t : ByteArray) : Op.bytesLess s.toList t.toList = lexL (lets s) (lets t) := by
  rw [Lib.toList_data, Lib.toList_data, lets_data, lets_data]
  exact less_map _ _ (lets_lt s) (lets_lt t)
end Go.Proofs.Ytkeighlcdnfjcaa
