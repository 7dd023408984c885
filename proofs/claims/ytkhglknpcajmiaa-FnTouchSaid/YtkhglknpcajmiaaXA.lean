/- Touches purely: what is valid, kinds of calls, heads, rows, rotations, reversals. -/
import Derived.Test.YtkhglknpcajmiaaQA
namespace Go.Proofs.Ytkhglknpcajmiaa
open Go.RowKit
set_option linter.unusedSimpArgs false
set_option linter.unusedVariables false

/-- is this letter a call -/
def kcB (c : Nat) : Bool := decide (c = 112) || decide (c = 98) || decide (c = 115)
/-- its number -/
def kcN (c : Nat) : Nat := if c = 115 then 2 else if c = 98 then 1 else 0
theorem kcN_lt (c : Nat) : kcN c < 3 := by
  unfold kcN
  split
  · omega
  · split <;> omega
theorem one_eq {a c : Nat} (ha : a < 256) (hc : c < 256) : ((⟨#[UInt8.ofNat a]⟩ : ByteArray) = ⟨#[UInt8.ofNat c]⟩) ↔ a = c := by
  constructor
  · intro h
    have h2 := congrArg lets h
    rw [show (⟨#[UInt8.ofNat a]⟩ : ByteArray) = txt [a] from rfl, show (⟨#[UInt8.ofNat c]⟩ : ByteArray) = txt [c] from rfl, lets_txt _ (by simpa using ha), lets_txt _ (by simpa using hc)] at h2
    simpa using h2
  · intro h
    rw [h]
theorem kB_one (c : Nat) (hc : c < 256) : kB ⟨#[UInt8.ofNat c]⟩ = kcB c := by
  unfold kB kcB
  have e1 := one_eq hc (show 112 < 256 by omega)
  have e2 := one_eq hc (show 98 < 256 by omega)
  have e3 := one_eq hc (show 115 < 256 by omega)
  have f1 : (UInt8.ofNat 112) = 112 := rfl
  have f2 : (UInt8.ofNat 98) = 98 := rfl
  have f3 : (UInt8.ofNat 115) = 115 := rfl
  rw [f1] at e1
  rw [f2] at e2
  rw [f3] at e3
  simp only [e1, e2, e3]
theorem kN_one (c : Nat) (hc : c < 256) : kN ⟨#[UInt8.ofNat c]⟩ = kcN c := by
  unfold kN kcN
  have e2 := one_eq hc (show 98 < 256 by omega)
  have e3 := one_eq hc (show 115 < 256 by omega)
  have f2 : (UInt8.ofNat 98) = 98 := rfl
  have f3 : (UInt8.ofNat 115) = 115 := rfl
  rw [f2] at e2
  rw [f3] at e3
  simp only [e2, e3]
/-- the text of one letter of a text -/
theorem sub_one (t : ByteArray) (k : Nat) (h : k < t.size) : t.extract k (k + 1) = ⟨#[UInt8.ofNat (dg t k)]⟩ := by
  rw [extract_one t k h, ← dg_at t k h]
  simp
/-- is this a valid touch -/
def goodT (t : ByteArray) : Bool := decide (1 ≤ t.size) && decide (t.size ≤ 60) && (lets t).all kcB
theorem goodT_parts {t : ByteArray} (h : goodT t = true) : 1 ≤ t.size ∧ t.size ≤ 60 ∧ ∀ k, k < t.size → kcB (dg t k) = true := by
  unfold goodT at h
  rw [Bool.and_eq_true, Bool.and_eq_true, decide_eq_true_eq, decide_eq_true_eq, List.all_eq_true] at h
  refine ⟨h.1.1, h.1.2, fun k hk => h.2 _ ?_⟩
  unfold lets
  exact List.mem_map.2 ⟨k, List.mem_range.2 hk, rfl⟩
theorem goodT_mk {t : ByteArray} (h1 : 1 ≤ t.size) (h2 : t.size ≤ 60) (h3 : ∀ k, k < t.size → kcB (dg t k) = true) : goodT t = true := by
  unfold goodT
  rw [decide_eq_true h1, decide_eq_true h2, Bool.true_and, Bool.true_and, List.all_eq_true]
  intro c hc
  unfold lets at hc
  obtain ⟨k, hk, rfl⟩ := List.mem_map.1 hc
  exact h3 k (List.mem_range.1 hk)
/-- the numbers of its calls -/
def kindsT (t : ByteArray) : List Nat := (lets t).map kcN
theorem kindsT_len (t : ByteArray) : (kindsT t).length = t.size := by unfold kindsT; rw [List.length_map, lets_len]
theorem kindsT_at (t : ByteArray) (k : Nat) (h : k < (kindsT t).length) : (kindsT t)[k] = kcN (dg t k) := by
  simp [kindsT, lets]
theorem kindsT_lt (t : ByteArray) : ∀ k ∈ kindsT t, k < 3 := by
  intro k hk
  obtain ⟨c, -, rfl⟩ := List.mem_map.1 hk
  exact kcN_lt c
/-- the rows by which its leads turn the heads -/
def turnsT (n : Nat) (L : List (List Nat)) (b q : ByteArray) (t : ByteArray) : List (Nat → Nat) := (kindsT t).map (hdK n L b q)
theorem turnsT_len (n : Nat) (L : List (List Nat)) (b q t : ByteArray) : (turnsT n L b q t).length = t.size := by unfold turnsT; rw [List.length_map, kindsT_len]
theorem rows_turnsT {s : ByteArray} {n : Nat} {L : List (List Nat)} {b q : ByteArray} (h : goodK s n L b q = true) (t : ByteArray) : Rows n (turnsT n L b q t) := by
  intro c hc
  obtain ⟨k, -, rfl⟩ := List.mem_map.1 hc
  exact isRow_hdK h k
/-- rounds and the head after each lead -/
def headsT (n : Nat) (L : List (List Nat)) (b q t : ByteArray) : List (Nat → Nat) := leadF n (turnsT n L b q t) (rdf n) ++ [headF n (turnsT n L b q t)]
theorem headsT_len (n : Nat) (L : List (List Nat)) (b q t : ByteArray) : (headsT n L b q t).length = t.size + 1 := by unfold headsT; rw [List.length_append, leadF_len, turnsT_len]; rfl
theorem headsT_at (n : Nat) (L : List (List Nat)) (b q t : ByteArray) (k : Nat) (h : k ≤ t.size) : (headsT n L b q t)[k]? = some (endF n ((turnsT n L b q t).take k) (rdf n)) := by
  unfold headsT
  by_cases hk : k < t.size
  · rw [List.getElem?_append_left (by rw [leadF_len, turnsT_len]; exact hk)]
    exact leadF_at _ _ _ (by rw [turnsT_len]; exact hk)
  · obtain rfl : k = t.size := by omega
    rw [List.getElem?_append_right (by rw [leadF_len, turnsT_len]; exact Nat.le_refl _), leadF_len, turnsT_len, Nat.sub_self, List.take_of_length_le (by rw [turnsT_len]; exact Nat.le_refl _)]
    rfl
theorem rows_headsT {s : ByteArray} {n : Nat} {L : List (List Nat)} {b q : ByteArray} (h : goodK s n L b q = true) (t : ByteArray) : Rows n (headsT n L b q t) := by
  have h2 := goodM_nat (goodK_parts h).1
  have hr := rows_turnsT h t
  refine Rows.app (rows_lead hr (isRow_rdf h2.1 h2.2.1)) fun x hx => ?_
  rw [List.mem_singleton.1 hx]
  exact isRow_head h2.1 h2.2.1 hr
/-- the rows of the leads from these heads -/
def rowsT (n : Nat) (cs : List (Nat → Nat)) (hs : List (Nat → Nat)) : List (Nat → Nat) := hs.flatMap (leadF n cs)
theorem rowsT_len (n : Nat) (cs : List (Nat → Nat)) : ∀ hs : List (Nat → Nat), (rowsT n cs hs).length = hs.length * cs.length
  | [] => by simp [rowsT]
  | h :: hs => by
    have := rowsT_len n cs hs
    unfold rowsT at this ⊢
    rw [List.flatMap_cons, List.length_append, leadF_len, this, List.length_cons, Nat.add_mul, Nat.one_mul, Nat.add_comm]
theorem rowsT_snoc (n : Nat) (cs : List (Nat → Nat)) (hs : List (Nat → Nat)) (f : Nat → Nat) : rowsT n cs (hs ++ [f]) = rowsT n cs hs ++ leadF n cs f := by
  simp [rowsT]
theorem rows_rowsT {n : Nat} {cs hs : List (Nat → Nat)} (hc : Rows n cs) (hh : Rows n hs) : Rows n (rowsT n cs hs) := by
  intro x hx
  obtain ⟨f, hf, hx⟩ := List.mem_flatMap.1 hx
  exact rows_lead hc (hh f hf) x hx
/-- does it come round -/
def roundT (n : Nat) (L : List (List Nat)) (b q t : ByteArray) : Bool := (strOf n (headF n (turnsT n L b q t))).toList == (rnds n).toList
end Go.Proofs.Ytkhglknpcajmiaa
