/- Calls purely: kinds of calls, the change that ends a lead, the heads of leads with calls. Calls in the harness: sizes, copies. -/
import Derived.Test.YtkhglknpcajmiaaNA
import Derived.Test.YtkhglknpcajmiaaD1
namespace Go.Proofs.Ytkhglknpcajmiaa
open Go.RowKit
set_option linter.unusedSimpArgs false
set_option linter.unusedVariables false

def cP : ByteArray := ⟨#[112]⟩
def cB : ByteArray := ⟨#[98]⟩
def cS : ByteArray := ⟨#[115]⟩
/-- is this a call -/
def kB (r : ByteArray) : Bool := decide (r = ⟨#[112]⟩) || decide (r = ⟨#[98]⟩) || decide (r = ⟨#[115]⟩)
/-- its number -/
def kN (r : ByteArray) : Nat := if r = ⟨#[115]⟩ then 2 else if r = ⟨#[98]⟩ then 1 else 0
theorem kN_lt (r : ByteArray) : kN r < 3 := by
  unfold kN
  split
  · omega
  · split <;> omega
theorem kB_cases {r : ByteArray} (h : kB r = true) : r = ⟨#[112]⟩ ∨ r = ⟨#[98]⟩ ∨ r = ⟨#[115]⟩ := by
  unfold kB at h
  simp only [Bool.or_eq_true, decide_eq_true_eq] at h
  rcases h with (h | h) | h
  · exact .inl h
  · exact .inr (.inl h)
  · exact .inr (.inr h)

theorem ne_one {r : ByteArray} (c : Nat) (hc : c < 256) (h : r ≠ ⟨#[UInt8.ofNat c]⟩) : (r.toList == [UInt8.ofNat c]) = false := by
  have e := beq_lets r [c] (by intro x hx; simp at hx; omega)
  rw [show [UInt8.ofNat c] = [c].map UInt8.ofNat from rfl, e]
  exact decide_eq_false fun e => h (Go.WideShapes.bytes_inj (by rw [lets_data, e]; rfl))
theorem ne_p {r : ByteArray} (h : r ≠ ⟨#[112]⟩) : (r.toList == [112]) = false := ne_one 112 (by omega) h
theorem ne_b {r : ByteArray} (h : r ≠ ⟨#[98]⟩) : (r.toList == [98]) = false := ne_one 98 (by omega) h
theorem ne_s {r : ByteArray} (h : r ≠ ⟨#[115]⟩) : (r.toList == [115]) = false := ne_one 115 (by omega) h

/-- the change that ends a lead with each kind of call -/
def endC (L : List (List Nat)) (b q : ByteArray) : Nat → ByteArray
  | 0 => txt (L.getD (L.length - 1) [])
  | 1 => b
  | _ => q
/-- the last row of a lead -/
def befF (n : Nat) (L : List (List Nat)) : Nat → Nat := endF n (chR n (L.take (L.length - 1))) (rdf n)
/-- the head to which each kind of call leads -/
def hdK (n : Nat) (L : List (List Nat)) (b q : ByteArray) (k : Nat) : Nat → Nat := mulR n (befF n L) (chF n (endC L b q k))
/-- by which row it turns a lead head -/
def efK (n : Nat) (L : List (List Nat)) (b q : ByteArray) (k : Nat) : Nat → Nat := mulR n (invF n (hdK n L b q 0)) (hdK n L b q k)
/-- a valid method with valid calls -/
def goodK (s : ByteArray) (n : Int) (L : List (List Nat)) (b q : ByteArray) : Bool := goodM s n L && goodC n b && goodC n q
theorem goodK_parts {s : ByteArray} {n : Int} {L : List (List Nat)} {b q : ByteArray} (h : goodK s n L b q = true) : goodM s n L = true ∧ goodC n b = true ∧ goodC n q = true := by
  unfold goodK at h
  rw [Bool.and_eq_true, Bool.and_eq_true] at h
  exact ⟨h.1.1, h.1.2, h.2⟩
theorem goodK_cast {s : ByteArray} {n : Int} {L : List (List Nat)} {b q : ByteArray} (h : goodK s n L b q = true) : ∃ k : Nat, n = k := by
  have := goodAll_range (goodM_parts (goodK_parts h).1).1
  exact ⟨n.toNat, by omega⟩
theorem last_mem {L : List (List Nat)} (h : 1 ≤ L.length) : L.getD (L.length - 1) [] ∈ L := by
  rw [List.getD_eq_getElem?_getD, List.getElem?_eq_getElem (by omega), Option.getD_some]
  exact List.getElem_mem _
theorem take_last {L : List (List Nat)} (h : 1 ≤ L.length) : L.take (L.length - 1) ++ [L.getD (L.length - 1) []] = L := by
  have hx : L.length - 1 < L.length := by omega
  rw [List.getD_eq_getElem?_getD, List.getElem?_eq_getElem hx, Option.getD_some]
  have h1 := List.take_append_drop (L.length - 1) L
  rw [List.drop_eq_getElem_cons hx, List.drop_eq_nil_of_le (by omega)] at h1
  exact h1
theorem goodK_end {s : ByteArray} {n : Nat} {L : List (List Nat)} {b q : ByteArray} (h : goodK s n L b q = true) (k : Nat) : goodC n (endC L b q k) = true := by
  obtain ⟨h1, h2, h3⟩ := goodK_parts h
  match k with
  | 0 => exact goodAll_mem (goodM_parts h1).1 _ (last_mem (goodAll_len (goodM_parts h1).1).1)
  | 1 => exact h2
  | _ + 2 => exact h3
theorem hdK_zero {n : Nat} {L : List (List Nat)} (b q : ByteArray) (h : 1 ≤ L.length) : hdK n L b q 0 = headF n (chR n L) := by
  have e : chR n L = chR n (L.take (L.length - 1)) ++ [chF n (txt (L.getD (L.length - 1) []))] := by
    conv => lhs; rw [← take_last h]
    simp [chR]
  rw [e]
  unfold headF
  rw [endF_app]
  rfl
theorem rows_take {s : ByteArray} {n : Nat} {L : List (List Nat)} (h : goodM s n L = true) (k : Nat) : Rows n (chR n (L.take k)) := by
  have h2 := (goodM_nat h).2.2.1
  have e : chR n (L.take k) = (chR n L).take k := by simp [chR, List.map_take]
  rw [e]
  exact h2.take k
theorem isRow_bef {s : ByteArray} {n : Nat} {L : List (List Nat)} (h : goodM s n L = true) : IsRow n (befF n L) := by
  have h2 := goodM_nat h
  exact isRow_end (rows_take h _) (isRow_rdf h2.1 h2.2.1)
theorem isRow_hdK {s : ByteArray} {n : Nat} {L : List (List Nat)} {b q : ByteArray} (h : goodK s n L b q = true) (k : Nat) : IsRow n (hdK n L b q k) :=
  isRow_mul (isRow_bef (goodK_parts h).1) (chF_row (goodK_end h k))
theorem isRow_efK {s : ByteArray} {n : Nat} {L : List (List Nat)} {b q : ByteArray} (h : goodK s n L b q = true) (k : Nat) : IsRow n (efK n L b q k) :=
  isRow_mul (isRow_inv (isRow_hdK h 0)) (isRow_hdK h k)

set_option maxRecDepth 100000 in
set_option maxHeartbeats 1000000 in
theorem szCalls_any (b q : ByteArray) (hb : b.size ≤ maxLen) (hq : q.size ≤ maxLen) (w : World) (left : Int) (h0 : 0 ≤ left) (h1 : left ≤ 1048576) :
    Calls Try.prog 67 #[.agg #[.string b, .string q], .int .i64 left] w fun e w' => ∃ z : Int, e = .returned (.int .i64 z) ∧ z ≤ left ∧ (0 ≤ z → (b.size : Int) ≤ left ∧ (q.size : Int) ≤ left) ∧ Below w.heap.size w w' := by
  have HR0 := Lib.hid (RowAt.new w 66 #[.string b, .string q])
  have HB0 := Lib.hid ((Below.refl _ w).alloc (Nat.le_refl _) (.cells #[.string b, .string q] 66))
  have c0 := HR0.out.cell 0 rfl
  have c1 := HR0.out.cell 1 rfl
  have hb' : (b.size : Int) ≤ 9223372036854775807 := by simp only [maxLen] at hb; omega
  have hq' : (q.size : Int) ≤ 9223372036854775807 := by simp only [maxLen] at hq; omega
  clear hb hq
  go_enter Try.func67, Try.ntmps67
  by_cases hn1 : left - b.size < 0
  · go_wp2
    go_ret
    exact ⟨-1, rfl, by omega, fun h => by omega, HB0.out⟩
  · by_cases hn2 : left - b.size - q.size < 0
    · go_wp2
      go_ret
      exact ⟨-1, rfl, by omega, fun h => by omega, HB0.out⟩
    · go_wp2
      go_ret
      exact ⟨_, rfl, by omega, fun h => ⟨by omega, by omega⟩, HB0.out⟩

set_option maxRecDepth 100000 in
set_option maxHeartbeats 1000000 in
theorem toCalls_any (b q : ByteArray) (w : World) :
    Calls Try.prog 69 #[.agg #[.string b, .string q]] w fun e w' => e = .returned (.agg #[.string b, .string q]) ∧ Below w.heap.size w w' := by
  have HR0 := Lib.hid (RowAt.new w 66 #[.string b, .string q])
  have c0 := HR0.out.cell 0 rfl
  have c1 := HR0.out.cell 1 rfl
  clear HR0
  go_enter Try.func69, Try.ntmps69
  have HX2 := Lib.hid ((RowAt.new (w.alloc (.cells #[.string b, .string q] 66)) 27 #[.string b, .string q]).push (.cells #[.string b, .string q] 27))
  have HB2 := Lib.hid ((((Below.refl _ w).alloc (Nat.le_refl _) (.cells #[.string b, .string q] 66)).alloc (by simp) (.cells #[.string b, .string q] 27)).alloc (by simp; omega) (.cells #[.string b, .string q] 27))
  have hsz : (w.alloc (.cells #[.string b, .string q] 66)).heap.size = w.heap.size + 1 := by simp
  go_wp2_with fail
  exact bodyPost_ret (results_cell_row rfl _ _ (w.heap.size + 1) 27 _ (0, 0) _ rfl (by have := HX2.out; rw [hsz] at this; exact this) Try.underlying27 rfl (by kernel_rfl)) rfl ⟨rfl, HB2.out⟩
end Go.Proofs.Ytkhglknpcajmiaa
