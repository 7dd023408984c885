/- Plain facts on changes: which texts are changes, all of them in order, the rows that they make. No program here. Plain facts on texts as lists of letters. No program here. The model's test for a change, and its question whether a place is made. The program's pairs swapped, and its change as digits. The program's change as digits. The program's change as digits: no change. GoodChange in the program and in the model, and the law on it. Plain facts: the model's road to a change's row, its places and its swaps, the program's places and swaps. No program here. ChangeRow in the program and in the model, and the law on it. Apply in the program and in the model, and the law on it. Places and swaps: lists of numbers, in the model and in the program. Places and swaps in the program. SwapsOf and PlacesOf, and the laws on them. Plain facts: the change that makes a row, and mirrored changes. No program here. The program's change of a row. MirrorChange in the program. A number as a text, the text of some places, a number put first: in the model. -/
import Derived.Test.YtapcfojnljnoaaaGreatK1
import Derived.Sort.Walk0
import Derived.BigRegion
import Derived.ChangeAlike
import Derived.Lib.OthersKept
import Derived.Deep.RegionHeld3
import Derived.Test.YtapcfojnljnoaaaGreatK2
namespace Go.Proofs.YtapcfojnljnoaaaGreat

/-- the letters of a text -/
def lets (s : ByteArray) : List Nat := (List.range s.size).map (dg s)
theorem lets_len (s : ByteArray) : (lets s).length = s.size := by simp [lets]
theorem lets_drop (s : ByteArray) (i : Nat) (hi : i < s.size) : (lets s).drop i = dg s i :: (lets s).drop (i + 1) := by
  rw [List.drop_eq_getElem_cons (by rw [lets_len]; exact hi)]
  simp [lets]
theorem lets_all (s : ByteArray) : (lets s).drop s.size = [] := List.drop_eq_nil_of_le (by rw [lets_len]; exact Nat.le_refl _)
/-- the text of some letters -/
def txt (l : List Nat) : ByteArray := ⟨(l.map UInt8.ofNat).toArray⟩
theorem txt_size (l : List Nat) : (txt l).size = l.length := by simp [txt, ByteArray.size]
theorem txt_lets (s : ByteArray) : txt (lets s) = s := by
  apply bytes_ext
  · rw [txt_size, lets_len]
  · intro k h1 h2
    have : (txt (lets s))[k] = (lets s |>.map UInt8.ofNat)[k]'(by simpa [lets_len] using h2) := rfl
    rw [this]
    simp [lets, dg, h2]
theorem dg_txt (l : List Nat) (hl : ∀ b ∈ l, b < 256) (k : Nat) (hk : k < l.length) : dg (txt l) k = l[k] := by
  have h : k < (txt l).size := by rw [txt_size]; exact hk
  have : (txt l)[k] = (l.map UInt8.ofNat)[k]'(by simpa using hk) := rfl
  have hb := hl _ (List.getElem_mem hk)
  simp only [dg, h, dif_pos, this, List.getElem_map]
  simp [UInt8.toNat_ofNat']; omega
theorem lets_txt (l : List Nat) (hl : ∀ b ∈ l, b < 256) : lets (txt l) = l := by
  apply List.ext_getElem
  · rw [lets_len, txt_size]
  · intro k h1 h2
    simp only [lets, List.getElem_map, List.getElem_range]
    exact dg_txt l hl k h2

/-- the scan of the rest of a change, behind the place 'last' -/
def scanB (n : Nat) : Nat → List Nat → Bool
  | last, [] => (n - last) % 2 == 0
  | last, b :: t => decide (48 + last + 1 ≤ b) && decide (b ≤ 48 + n) && ((b - 48 - last) % 2 == 1) && scanB n (b - 48) t
/-- whether these letters are a change -/
def goodL (n : Nat) (l : List Nat) : Bool :=
  decide (3 ≤ n) && decide (n ≤ 8) && decide (l ≠ []) && decide (l.length ≤ n - 2) && (if l = [45] then n % 2 == 0 else scanB n 0 l)

/-- all rests behind the place 'last', in order -/
def tails (n : Nat) : Nat → Nat → List (List Nat)
  | 0, last => if (n - last) % 2 = 0 then [[]] else []
  | k + 1, last => (if (n - last) % 2 = 0 then [[]] else []) ++ (List.range n).flatMap fun j => if last < j + 1 ∧ (j + 1 - last) % 2 = 1 then (tails n k (j + 1)).map (fun t => (49 + j) :: t) else []
theorem mem_tails (n : Nat) : ∀ (l : List Nat) (k last : Nat), l.length ≤ k → scanB n last l = true → l ∈ tails n k last
  | [], 0, last, _, h => by simp [scanB] at h; simp [tails, h]
  | [], k + 1, last, _, h => by simp [scanB] at h; simp [tails, h]
  | b :: t, 0, last, hk, _ => by simp at hk
  | b :: t, k + 1, last, hk, h => by
    simp only [scanB, Bool.and_eq_true, decide_eq_true_eq, beq_iff_eq] at h
    obtain ⟨⟨⟨h1, h2⟩, h3⟩, h4⟩ := h
    simp only [tails, List.mem_append, List.mem_flatMap, List.mem_range]
    refine .inr ⟨b - 49, by omega, ?_⟩
    have e : b - 49 + 1 = b - 48 := by omega
    rw [e, if_pos ⟨by omega, h3⟩, List.mem_map]
    exact ⟨t, mem_tails n t k (b - 48) (by simpa using hk) h4, by congr 1; omega⟩
/-- all changes of a stage, in order -/
def chs (n : Nat) : List (List Nat) := (if n % 2 = 0 then [[45]] else []) ++ (tails n 8 0).filter fun l => decide (l ≠ []) && decide (l.length ≤ n - 2)
theorem stages {P : Nat → Prop} (n : Nat) (h3 : 3 ≤ n) (h8 : n ≤ 8) (a3 : P 3) (a4 : P 4) (a5 : P 5) (a6 : P 6) (a7 : P 7) (a8 : P 8) : P n := by
  have : n = 3 ∨ n = 4 ∨ n = 5 ∨ n = 6 ∨ n = 7 ∨ n = 8 := by omega
  rcases this with rfl | rfl | rfl | rfl | rfl | rfl <;> assumption
theorem goodL_three {n : Nat} {l : List Nat} (h : goodL n l = true) : 3 ≤ n := by simp [goodL] at h; omega
theorem goodL_eight {n : Nat} {l : List Nat} (h : goodL n l = true) : n ≤ 8 := by simp [goodL] at h; omega
theorem mem_chs {n : Nat} {l : List Nat} (h : goodL n l = true) : l ∈ chs n := by
  simp only [goodL, Bool.and_eq_true, decide_eq_true_eq] at h
  obtain ⟨⟨⟨⟨h3, h8⟩, hne⟩, hlen⟩, h⟩ := h
  simp only [chs, List.mem_append, List.mem_filter, Bool.and_eq_true, decide_eq_true_eq]
  by_cases e : l = [45]
  · subst e
    simp at h
    simp [h]
  · rw [if_neg e] at h
    exact .inr ⟨mem_tails n l 8 0 (by omega) h, hne, hlen⟩

/-- the row that the rest of a change makes of the places from i on (k: rounds left) -/
def rowS (n : Nat) : Nat → Nat → List Nat → List Nat
  | 0, _, _ => []
  | k + 1, i, l => if n ≤ i then [] else match l with
    | b :: t => if b = 49 + i then (49 + i) :: rowS n k (i + 1) t else (50 + i) :: (49 + i) :: rowS n k (i + 2) (b :: t)
    | [] => (50 + i) :: (49 + i) :: rowS n k (i + 2) []
/-- the row of a change -/
def cl (n : Nat) (l : List Nat) : List Nat := rowS n n 0 (if l = [45] then [] else l)
def cf (n : Nat) (l : List Nat) (i : Nat) : Nat := (cl n l).getD i 0
/-- pairs swapped from place a (counted from 0) up to e -/
def swF (d : Nat → Nat) (a e i : Nat) : Nat := if a ≤ i ∧ i < e then (if (i - a) % 2 = 0 then d (i + 1) else d (i - 1)) else d i
/-- the program's road along the letters: the row, if they are a change -/
def walkC (n : Nat) : Nat → (Nat → Nat) → List Nat → Option (Nat → Nat)
  | last, d, [] => if (n - last) % 2 = 0 then some (swF d last n) else none
  | last, d, b :: t => if 48 + last + 1 ≤ b ∧ b ≤ 48 + n then (if (b - 48 - last) % 2 = 1 then walkC n (b - 48) (swF d last (b - 49)) t else none) else none
theorem walkC_none (n : Nat) : ∀ (l : List Nat) (last : Nat) (d : Nat → Nat), scanB n last l = false → walkC n last d l = none
  | [], last, d, h => by simp [scanB] at h; simp [walkC, h]
  | b :: t, last, d, h => by
    unfold walkC
    by_cases h1 : 48 + last + 1 ≤ b ∧ b ≤ 48 + n
    · rw [if_pos h1]
      by_cases h2 : (b - 48 - last) % 2 = 1
      · rw [if_pos h2]
        exact walkC_none n t _ _ (by simpa [scanB, h1, h2] using h)
      · rw [if_neg h2]
    · rw [if_neg h1]
theorem walkC_some (n : Nat) : ∀ (l : List Nat) (last : Nat) (d : Nat → Nat), scanB n last l = true → ∃ e, walkC n last d l = some e
  | [], last, d, h => by simp [scanB] at h; exact ⟨swF d last n, by simp [walkC, h]⟩
  | b :: t, last, d, h => by
    simp only [scanB, Bool.and_eq_true, decide_eq_true_eq, beq_iff_eq] at h
    obtain ⟨⟨⟨h1, h2⟩, h3⟩, h4⟩ := h
    unfold walkC
    rw [if_pos ⟨h1, h2⟩, if_pos h3]
    exact walkC_some n t _ _ h4
/-- the first eight -/
def to8 (f : Nat → Nat) : List Nat := (List.range 8).map f
/-- what the program's road gives, all told: none where the letters are no change, else the change's row -/
def walkOk (n : Nat) (l : List Nat) : Bool :=
  match walkC n 0 (rdf n) (if l = [45] then [] else l) with
  | none => false
  | some e => to8 e == to8 (cf n l)
def tailOk (n : Nat) (l : List Nat) : Bool :=
  decide (l = []) || decide (l.length ≤ n - 2) || (match walkC n 0 (rdf n) l with | none => false | some e => to8 e == to8 (rdf n))
theorem walks_ok (n : Nat) (h3 : 3 ≤ n) (h8 : n ≤ 8) : ∀ l ∈ chs n, walkOk n l = true := by
  revert h3 h8
  have : ∀ n, n < 9 → 3 ≤ n → ∀ l ∈ chs n, walkOk n l = true := by decide +kernel
  exact fun h3 h8 => this n (by omega) h3
theorem tails_ok (n : Nat) (h3 : 3 ≤ n) (h8 : n ≤ 8) : ∀ l ∈ tails n 8 0, tailOk n l = true := by
  have : ∀ n, n < 9 → 3 ≤ n → ∀ l ∈ tails n 8 0, tailOk n l = true := by decide +kernel
  exact this n (by omega) h3
theorem scan_len (n : Nat) : ∀ (l : List Nat) (last : Nat), scanB n last l = true → last ≤ n → l.length ≤ n - last
  | [], _, _, _ => by simp
  | b :: t, last, h, hl => by
    simp only [scanB, Bool.and_eq_true, decide_eq_true_eq, beq_iff_eq] at h
    obtain ⟨⟨⟨h1, h2⟩, h3⟩, h4⟩ := h
    have := scan_len n t _ h4 (by omega)
    simp only [List.length_cons]
    omega
/-- the program's whole test -/
theorem walk_good (n : Nat) (h3 : 3 ≤ n) (h8 : n ≤ 8) (l : List Nat) (h : goodL n l = true) : ∃ e, walkC n 0 (rdf n) (if l = [45] then [] else l) = some e ∧ to8 e = to8 (cf n l) := by
  have := walks_ok n h3 h8 l (mem_chs h)
  unfold walkOk at this
  split at this
  · cases this
  · rename_i e he
    exact ⟨e, he, by simpa using this⟩
theorem walk_bad (n : Nat) (h3 : 3 ≤ n) (h8 : n ≤ 8) (l : List Nat) (hne : l ≠ []) (h : goodL n l = false) : walkC n 0 (rdf n) (if l = [45] then [] else l) = none ∨ ∃ e, walkC n 0 (rdf n) (if l = [45] then [] else l) = some e ∧ to8 e = to8 (rdf n) := by
  by_cases e : l = [45]
  · subst e
    simp [goodL, h3, h8] at h
    left
    rw [if_pos rfl]
    have hodd : n % 2 = 1 := by
      rcases Nat.lt_or_ge (n - 2) 1 with h1 | h1
      · omega
      · have := h (by omega); omega
    simp [walkC, hodd]
  · rw [if_neg e]
    by_cases hs : scanB n 0 l = true
    · right
      have hl := scan_len n l 0 hs (by omega)
      have ht := tails_ok n h3 h8 l (mem_tails n l 8 0 (by omega) hs)
      have hbig : ¬ l.length ≤ n - 2 := fun hle => by simp [goodL, h3, h8, hne, hle, e, hs] at h
      simp only [tailOk, hne, hbig, decide_false, Bool.false_or] at ht
      split at ht
      · cases ht
      · rename_i e he
        exact ⟨e, he, by simpa using ht⟩
    · exact .inl (walkC_none n l 0 _ (by simpa using hs))
theorem to8_at {f g : Nat → Nat} (h : to8 f = to8 g) (i : Nat) (hi : i < 8) : f i = g i := by
  have := congrArg (fun l => l.getD i 0) h
  simpa [to8, List.getD_eq_getElem?_getD, hi] using this
theorem chs_small (n : Nat) (h3 : 3 ≤ n) (h8 : n ≤ 8) : ∀ l ∈ chs n, goodL n l = true ∧ (∀ b ∈ l, b < 58) ∧ (cl n l).length = n ∧ ∃ i, i < n ∧ cf n l i ≠ rdf n i := by
  have : ∀ n, n < 9 → 3 ≤ n → ∀ l ∈ chs n, goodL n l = true ∧ (∀ b ∈ l, b < 58) ∧ (cl n l).length = n ∧ (List.range n).any (fun i => cf n l i != rdf n i) = true := by decide +kernel
  intro l hl
  obtain ⟨a, b, c, d⟩ := this n (by omega) h3 l hl
  refine ⟨a, b, c, ?_⟩
  simpa using d
def rowOk (n : Nat) (l : List Nat) : Bool := (List.range n).all fun i => decide (49 ≤ cf n l i) && decide (cf n l i ≤ 48 + n) && (List.range n).all fun j => decide (i = j) || decide (cf n l i ≠ cf n l j)
theorem isRow_cf {n : Nat} {l : List Nat} (h : goodL n l = true) : IsRow n (cf n l) := by
  have h3 := goodL_three h
  have h8 := goodL_eight h
  have hk : ∀ n, n < 9 → 3 ≤ n → ∀ l ∈ chs n, rowOk n l = true := by decide +kernel
  have := hk n (by omega) h3 l (mem_chs h)
  simp only [rowOk, List.all_eq_true, List.mem_range, Bool.and_eq_true, Bool.or_eq_true, decide_eq_true_eq] at this
  refine isRow_mk h3 h8 (fun i hi => (this i hi).1.1) (fun i hi => (this i hi).1.2) (fun i j hi hj e => ?_) (fun i hi => ?_)
  · rcases (this i hi).2 j hj with h | h
    · exact h
    · exact absurd e h
  · have := (chs_small n h3 h8 l (mem_chs h)).2.2.1
    simp [cf, List.getD_eq_getElem?_getD, this, hi]
end Go.Proofs.YtapcfojnljnoaaaGreat
namespace Go.Proofs.YtapcfojnljnoaaaGreat

theorem data_lets (s : ByteArray) : s.data.toList.map UInt8.toNat = lets s := by
  apply List.ext_getElem
  · simp [lets]
  · intro k h1 h2
    have hk : k < s.size := by simpa using h1
    have e : s.data.toList[k]'(by simpa using hk) = s[k] := rfl
    simp [lets, dg, hk, e]
theorem lets_data (s : ByteArray) : s.data.toList = (lets s).map UInt8.ofNat := by
  rw [← data_lets, List.map_map]
  exact (List.map_id'' (fun b => by simp) _).symm
theorem lets_inj {s t : ByteArray} (h : lets s = lets t) : s = t := by
  rw [← txt_lets s, ← txt_lets t, h]
theorem lets_lt (s : ByteArray) : ∀ b ∈ lets s, b < 256 := by
  intro b hb
  simp only [lets, List.mem_map] at hb
  obtain ⟨k, _, rfl⟩ := hb
  exact dg_lt s k
theorem map_ofNat_inj : ∀ {l r : List Nat}, (∀ b ∈ l, b < 256) → (∀ b ∈ r, b < 256) → l.map UInt8.ofNat = r.map UInt8.ofNat → l = r
  | [], [], _, _, _ => rfl
  | [], _ :: _, _, _, h => by simp at h
  | _ :: _, [], _, _, h => by simp at h
  | a :: l, b :: r, hl, hr, h => by
    simp only [List.map_cons, List.cons.injEq] at h
    have h1 := congrArg UInt8.toNat h.1
    have ha := hl a (by simp)
    have hb := hr b (by simp)
    simp [UInt8.toNat_ofNat'] at h1
    rw [map_ofNat_inj (fun x hx => hl x (by simp [hx])) (fun x hx => hr x (by simp [hx])) h.2]
    congr 1; omega
theorem txt_inj {l r : List Nat} (hl : ∀ b ∈ l, b < 256) (hr : ∀ b ∈ r, b < 256) (h : txt l = txt r) : l = r := by
  rw [← lets_txt l hl, ← lets_txt r hr, h]
theorem empty_lets (s : ByteArray) : s.toList.isEmpty = decide (lets s = []) := by
  rw [Lib.toList_data, lets_data]
  cases lets s <;> simp
theorem beq_lets (s : ByteArray) (l : List Nat) (hl : ∀ b ∈ l, b < 256) : (s.toList == l.map UInt8.ofNat) = decide (lets s = l) := by
  rw [Lib.toList_data, lets_data]
  by_cases h : lets s = l
  · simp [h]
  · rw [decide_eq_false h, beq_eq_false_iff_ne]
    exact fun e => h (map_ofNat_inj (lets_lt s) hl e)
theorem dash_lets (s : ByteArray) : (s.toList == [45]) = decide (lets s = [45]) := beq_lets s [45] (by simp)
theorem same_lets (s t : ByteArray) : (s.toList == t.toList) = decide (lets s = lets t) := by
  rw [Lib.toList_data t, lets_data t]
  exact beq_lets s _ (lets_lt t)
/-- the order of texts, on their letters -/
def lexL : List Nat → List Nat → Bool
  | [], [] => false
  | [], _ :: _ => true
  | _ :: _, [] => false
  | a :: l, b :: r => decide (a < b) || (a == b && lexL l r)
theorem less_map : ∀ (l r : List Nat), (∀ b ∈ l, b < 256) → (∀ b ∈ r, b < 256) → Op.bytesLess (l.map UInt8.ofNat) (r.map UInt8.ofNat) = lexL l r
  | [], [], _, _ => rfl
  | [], _ :: _, _, _ => rfl
  | _ :: _, [], _, _ => rfl
  | a :: l, b :: r, hl, hr => by
    have ha := hl a (by simp)
    have hb := hr b (by simp)
    have ih := less_map l r (fun x hx => hl x (by simp [hx])) (fun x hx => hr x (by simp [hx]))
    simp only [List.map_cons]
    unfold Op.bytesLess lexL
    rw [ih]
    have e1 : (UInt8.ofNat a < UInt8.ofNat b) = (a < b) := by
      rw [UInt8.lt_iff_toNat_lt]; simp [UInt8.toNat_ofNat']; omega
    have e2 : (UInt8.ofNat a == UInt8.ofNat b) = (a == b) := by
      by_cases h : a = b
      · simp [h]
      · rw [beq_eq_false_iff_ne.2 h, beq_eq_false_iff_ne]
        intro e
        have := congrArg UInt8.toNat e
        simp [UInt8.toNat_ofNat'] at this; omega
    simp only [e1, e2]
theorem less_lets (s t : ByteArray) : Op.bytesLess s.toList t.toList = lexL (lets s) (lets t) := by
  rw [Lib.toList_data, Lib.toList_data, lets_data, lets_data]
  exact less_map _ _ (lets_lt s) (lets_lt t)
end Go.Proofs.YtapcfojnljnoaaaGreat
namespace Go.Proofs.YtapcfojnljnoaaaGreat
open Go.RowKit

/-- whether the text is a change of stage n -/
def goodC (n : Int) (s : ByteArray) : Bool := decide (0 ≤ n) && goodL n.toNat (lets s)

theorem goodC_in (m : Nat) (s : ByteArray) : goodC m s = goodL m (lets s) := by simp [goodC]
theorem goodC_out (n : Int) (s : ByteArray) (h : ¬ (3 ≤ n ∧ n ≤ 8)) : goodC n s = false := by
  simp only [goodC, goodL, Bool.and_eq_false_iff, decide_eq_false_iff_not]
  omega
end Go.Proofs.YtapcfojnljnoaaaGreat
namespace Go.Proofs.YtapcfojnljnoaaaGreat
open Go.RowKit

theorem swF_step (f : Nat → Nat) (a p : Nat) (hp : a ≤ p) (hev : (p - a) % 2 = 0) : setF (setF (swF f a p) p (f (p + 1))) (p + 1) (f p) = swF f a (p + 2) := by
  funext i
  unfold setF swF
  by_cases e1 : i = p + 1
  · subst e1
    have h1 : ¬ (p + 1 - a) % 2 = 0 := by omega
    simp [h1]; omega
  · by_cases e2 : i = p
    · subst e2
      have h1 : a ≤ i ∧ i < i + 2 := by omega
      simp [h1, hev]
    · simp only [e1, e2, if_false]
      by_cases h : a ≤ i ∧ i < p
      · have h' : a ≤ i ∧ i < p + 2 := by omega
        rw [if_pos h, if_pos h']
      · have h' : ¬ (a ≤ i ∧ i < p + 2) := by omega
        rw [if_neg h, if_neg h']
theorem swF_at (f : Nat → Nat) (a p i : Nat) (hi : p ≤ i) : swF f a p i = f i := by
  unfold swF
  have : ¬ (a ≤ i ∧ i < p) := by omega
  rw [if_neg this]

end Go.Proofs.YtapcfojnljnoaaaGreat
namespace Go.Proofs.YtapcfojnljnoaaaGreat
open Go.RowKit

theorem run_eql_dig8 (W : World) (f g : Nat → Nat) (hf : ∀ i, f i < 256) (hg : ∀ i, g i < 256) (b : Bool) (hb : ((List.range 8).map (fun i => UInt8.ofNat (f i)) == (List.range 8).map (fun i => UInt8.ofNat (g i))) = b) :
    (binOp .eql 70 (.agg (dig8 f)) (.agg (dig8 g))).run Tryz.prog W = .ok (.bool b) W := by
  rw [dig8_list f hf, dig8_list g hg, run_eql_struct, run_equalIn_bytes W 9998 70 5 8 Tryz.underlying70 Tryz.underlying5 (fun w => by kernel_rfl) _ _ (by simp) (by simp), hb]
  rfl

end Go.Proofs.YtapcfojnljnoaaaGreat
namespace Go.Proofs.YtapcfojnljnoaaaGreat
open Go.RowKit

end Go.Proofs.YtapcfojnljnoaaaGreat
namespace Go.Proofs.YtapcfojnljnoaaaGreat
open Go.RowKit

theorem goodC_stage {n : Int} {s : ByteArray} (h : goodC n s = true) : ∃ m : Nat, n = m ∧ goodL m (lets s) = true := by
  simp only [goodC, Bool.and_eq_true, decide_eq_true_eq] at h
  exact ⟨n.toNat, by omega, h.2⟩

/-- the digits that the program makes of a text -/
def chF (n : Int) (s : ByteArray) : Nat → Nat := if goodC n s = true then cf n.toNat (lets s) else fun _ => 0
theorem chF_yes {n : Nat} {s : ByteArray} (h : goodL n (lets s) = true) : chF n s = cf n (lets s) := by
  unfold chF
  rw [if_pos (by rw [goodC_in]; exact h)]
  rfl
end Go.Proofs.YtapcfojnljnoaaaGreat
namespace Go.Proofs.YtapcfojnljnoaaaGreat

/-- the model's row of a change, from place p on (k: rounds left) -/
def mR (n : Nat) (l : List Nat) : Nat → Nat → (Nat → Nat) → (Nat → Nat)
  | 0, _, h => h
  | k + 1, p, h => if p < n then (if l.contains (48 + p) then mR n l k (p + 1) h else mR n l k (p + 2) (setF (setF h (p - 1) (49 + p)) p (48 + p))) else h
theorem mR_end (n : Nat) (l : List Nat) (k p : Nat) (h : Nat → Nat) (hp : ¬ p < n) : mR n l k p h = h := by
  cases k <;> simp [mR, hp]
/-- the model's places from p on -/
def mP (n : Nat) (l : List Nat) : Nat → Nat → List Nat
  | 0, _ => []
  | k + 1, p => if p ≤ n then (if l.contains (48 + p) then p :: mP n l k (p + 1) else mP n l k (p + 1)) else []
theorem mP_end (n : Nat) (l : List Nat) (k p : Nat) (hp : ¬ p ≤ n) : mP n l k p = [] := by
  cases k <;> simp [mP, hp]
/-- the model's swaps from p on -/
def mS (n : Nat) (l : List Nat) : Nat → Nat → List Nat
  | 0, _ => []
  | k + 1, p => if p < n then (if l.contains (48 + p) then mS n l k (p + 1) else p :: mS n l k (p + 2)) else []
theorem mS_end (n : Nat) (l : List Nat) (k p : Nat) (hp : ¬ p < n) : mS n l k p = [] := by
  cases k <;> simp [mS, hp]
/-- the program's places: from the digits -/
def iP (n : Nat) (f : Nat → Nat) : Nat → Nat → List Nat
  | 0, _ => []
  | k + 1, i => if i < n then (if f i = 49 + i then (i + 1) :: iP n f k (i + 1) else iP n f k (i + 1)) else []
theorem iP_end (n : Nat) (f : Nat → Nat) (k i : Nat) (hi : ¬ i < n) : iP n f k i = [] := by
  cases k <;> simp [iP, hi]
/-- the program's swaps: from the digits -/
def iS (n : Nat) (f : Nat → Nat) : Nat → Nat → List Nat
  | 0, _ => []
  | k + 1, i => if i < n - 1 then (if f (i + 1) < f i then (i + 1) :: iS n f k (i + 1) else iS n f k (i + 1)) else []
theorem iS_end (n : Nat) (f : Nat → Nat) (k i : Nat) (hi : ¬ i < n - 1) : iS n f k i = [] := by
  cases k <;> simp [iS, hi]
def placesOf (n : Nat) (l : List Nat) : List Nat := mP n l n 1
def swapsOf (n : Nat) (l : List Nat) : List Nat := mS n l n 1
theorem chs_roads (n : Nat) (h3 : 3 ≤ n) (h8 : n ≤ 8) : ∀ l ∈ chs n, to8 (mR n l n 1 (rdf n)) = to8 (cf n l) ∧ iP n (cf n l) n 0 = placesOf n l ∧ iS n (cf n l) n 0 = swapsOf n l ∧ (placesOf n l).length ≤ 8 ∧ (swapsOf n l).length ≤ 8 := by
  have : ∀ n, n < 9 → 3 ≤ n → ∀ l ∈ chs n, to8 (mR n l n 1 (rdf n)) = to8 (cf n l) ∧ iP n (cf n l) n 0 = placesOf n l ∧ iS n (cf n l) n 0 = swapsOf n l ∧ (placesOf n l).length ≤ 8 ∧ (swapsOf n l).length ≤ 8 := by decide +kernel
  exact this n (by omega) h3
end Go.Proofs.YtapcfojnljnoaaaGreat
namespace Go.Proofs.YtapcfojnljnoaaaGreat
open Go.RowKit

theorem isStr_rnds (n : Nat) (h8 : n ≤ 8) : IsStr n (rdf n) (rnds n) := by
  have e : rnds n = strOf n (rdf n) := strOf_congr (f := fun i => 49 + i) (g := rdf n) fun i hi => by simp [rdf, hi]
  rw [e]
  exact isStr_strOf n _ fun i hi => by simp only [rdf, hi, if_true]; omega

end Go.Proofs.YtapcfojnljnoaaaGreat
namespace Go.Proofs.YtapcfojnljnoaaaGreat
open Go.RowKit

/-- the row behind a change -/
def appF (r s : ByteArray) : ByteArray := strOf r.size (mulF (dg r) (cf r.size (lets s)))

end Go.Proofs.YtapcfojnljnoaaaGreat
namespace Go.Proofs.YtapcfojnljnoaaaGreat
open Go.RowKit

/-- numbers as elements -/
def nums (xs : List Nat) : List Value := ints (xs.map fun (k : Nat) => (k : Int))
theorem nums_len (xs : List Nat) : (nums xs).length = xs.length := by simp [nums, ints]
theorem nums_snoc (xs : List Nat) (p : Nat) : nums xs ++ [.int .i64 p] = nums (xs ++ [p]) := by simp [nums, ints]

end Go.Proofs.YtapcfojnljnoaaaGreat
namespace Go.Proofs.YtapcfojnljnoaaaGreat
open Go.RowKit

end Go.Proofs.YtapcfojnljnoaaaGreat
namespace Go.Proofs.YtapcfojnljnoaaaGreat
open Go.RowKit

/-- new numbers, and a word -/
def NumsAny (xs : List Nat) (b : Bool) (w : World) (e : Ending) (w' : World) : Prop :=
  ∃ v, e = .returned (.tuple #[v, .bool b]) ∧ New w.heap.size w' 3 v (nums xs) ∧ Below w.heap.size w w'

/-- what SwapsOf gives, for whatever arguments -/
def anySwapsOf (n : Int) (s : ByteArray) : List Nat := if goodC n s = true then swapsOf n.toNat (lets s) else []
theorem anySwapsOf_len (n : Int) (s : ByteArray) : (anySwapsOf n s).length ≤ 8 := by
  unfold anySwapsOf
  split
  · rename_i h
    obtain ⟨m, rfl, hg⟩ := goodC_stage h
    have := chs_roads m (goodL_three hg) (goodL_eight hg) _ (mem_chs hg)
    exact this.2.2.2.2
  · simp

/-- what PlacesOf gives, for whatever arguments -/
def anyPlacesOf (n : Int) (s : ByteArray) : List Nat := if goodC n s = true then placesOf n.toNat (lets s) else []
theorem anyPlacesOf_len (n : Int) (s : ByteArray) : (anyPlacesOf n s).length ≤ 8 := by
  unfold anyPlacesOf
  split
  · rename_i h
    obtain ⟨m, rfl, hg⟩ := goodC_stage h
    have := chs_roads m (goodL_three hg) (goodL_eight hg) _ (mem_chs hg)
    exact this.2.2.2.1
  · simp

end Go.Proofs.YtapcfojnljnoaaaGreat
namespace Go.Proofs.YtapcfojnljnoaaaGreat

/-- the places that a row keeps, from place i (counted from 0) on, if its other bells swap in pairs -/
def ctx (n : Nat) (f : Nat → Nat) : Nat → Nat → Option (List Nat)
  | 0, _ => some []
  | k + 1, i => if i < n then (if f i = 49 + i then (ctx n f k (i + 1)).map ((49 + i) :: ·) else if i + 1 < n ∧ f i = 50 + i ∧ f (i + 1) = 49 + i then ctx n f k (i + 2) else none) else some []
theorem ctx_end (n : Nat) (f : Nat → Nat) (k i : Nat) (hi : ¬ i < n) : ctx n f k i = some [] := by
  cases k <;> simp [ctx, hi]
/-- the change that makes a row, as letters -/
def chText (n : Nat) (f : Nat → Nat) : Option (List Nat) :=
  if to8 f = to8 (rdf n) then none else match ctx n f n 0 with
    | none => none
    | some [] => some [45]
    | some (b :: t) => some (b :: t)
theorem ctx_spec (n : Nat) (f : Nat → Nat) : ∀ (k i : Nat) (t : List Nat), n ≤ i + k → i ≤ n → ctx n f k i = some t →
    (∀ b ∈ t, 49 + i ≤ b) ∧ (∀ last, last ≤ i → (i - last) % 2 = 0 → scanB n last t = true) ∧ ∀ j, i + j < n → (rowS n k i t).getD j 0 = f (i + j)
  | 0, i, t, h1, h2, h => by
    simp [ctx] at h
    subst h
    exact ⟨by simp, fun last hl hm => by have : i = n := by omega
                                         subst this; simp [scanB, hm], fun j hj => by omega⟩
  | k + 1, i, t, h1, h2, h => by
    unfold ctx at h
    by_cases hi : i < n
    · rw [if_pos hi] at h
      by_cases hp : f i = 49 + i
      · rw [if_pos hp, Option.map_eq_some_iff] at h
        obtain ⟨t', ht', rfl⟩ := h
        obtain ⟨a1, a2, a3⟩ := ctx_spec n f k (i + 1) t' (by omega) (by omega) ht'
        refine ⟨fun b hb => ?_, fun last hl hm => ?_, fun j hj => ?_⟩
        · rcases List.mem_cons.1 hb with rfl | hb
          · exact Nat.le_refl _
          · have := a1 b hb; omega
        · have := a2 (i + 1) (Nat.le_refl _) (by omega)
          simp only [scanB, Bool.and_eq_true, decide_eq_true_eq, beq_iff_eq]
          rw [show 49 + i - 48 = i + 1 by omega]
          exact ⟨⟨⟨by omega, by omega⟩, by omega⟩, this⟩
        · have hn : ¬ n ≤ i := by omega
          unfold rowS
          rw [if_neg hn]
          simp only [if_true]
          cases j with
          | zero => simp [hp]
          | succ j => have := a3 j (by omega); rw [show i + (j + 1) = i + 1 + j by omega]; simpa using this
      · rw [if_neg hp] at h
        by_cases hs : i + 1 < n ∧ f i = 50 + i ∧ f (i + 1) = 49 + i
        · rw [if_pos hs] at h
          obtain ⟨a1, a2, a3⟩ := ctx_spec n f k (i + 2) t (by omega) (by omega) h
          refine ⟨fun b hb => by have := a1 b hb; omega, fun last hl hm => a2 last (by omega) (by omega), fun j hj => ?_⟩
          have hn : ¬ n ≤ i := by omega
          have hrow : rowS n (k + 1) i t = (50 + i) :: (49 + i) :: rowS n k (i + 2) t := by
            unfold rowS
            rw [if_neg hn]
            cases t with
            | nil => cases k <;> rfl
            | cons b t' =>
              have := a1 b (by simp)
              have hb : ¬ b = 49 + i := by omega
              simp only [if_neg hb]
              cases k <;> rfl
          rw [hrow]
          match j, hj with
          | 0, _ => simp [hs.2.1]
          | 1, _ => simp [hs.2.2]
          | j + 2, hj => have := a3 j (by omega); rw [show i + (j + 2) = i + 2 + j by omega]; simpa using this
        · rw [if_neg hs] at h; cases h
    · rw [if_neg hi] at h
      cases h
      have : i = n := by omega
      subst this
      exact ⟨by simp, fun last hl hm => by simp [scanB, hm], fun j hj => by omega⟩
theorem to8_row {n : Nat} {f g : Nat → Nat} (hf : IsRow n f) (hg : IsRow n g) (h : to8 f = to8 g) : f = g :=
  row_ext hf hg fun i hi => to8_at h i (by have := hf.eight; omega)
theorem tails_rows (n : Nat) (h3 : 3 ≤ n) (h8 : n ≤ 8) : ∀ t ∈ tails n 8 0, t.length ≤ n - 2 ∨ ∀ j, j < n → (rowS n n 0 t).getD j 0 = rdf n j := by
  have : ∀ n, n < 9 → 3 ≤ n → ∀ t ∈ tails n 8 0, (decide (t.length ≤ n - 2) || (List.range n).all fun j => decide ((rowS n n 0 t).getD j 0 = rdf n j)) = true := by decide +kernel
  intro t ht
  have := this n (by omega) h3 t ht
  simpa using this
/-- the program's road from a row to a change is right -/
theorem chText_some {n : Nat} {f : Nat → Nat} (hf : IsRow n f) {l : List Nat} (h : chText n f = some l) : goodL n l = true ∧ cf n l = f := by
  have h3 := hf.three
  have h8 := hf.eight
  unfold chText at h
  by_cases hr : to8 f = to8 (rdf n)
  · rw [if_pos hr] at h; cases h
  · rw [if_neg hr] at h
    cases hc : ctx n f n 0 with
    | none => rw [hc] at h; cases h
    | some t =>
      rw [hc] at h
      obtain ⟨a1, a2, a3⟩ := ctx_spec n f n 0 t (by omega) (by omega) hc
      have hscan := a2 0 (Nat.le_refl _) rfl
      have hlen := scan_len n t 0 hscan (by omega)
      have hmem := mem_tails n t 8 0 (by omega) hscan
      have hsmall : t.length ≤ n - 2 := by
        rcases tails_rows n h3 h8 t hmem with q | q
        · exact q
        · refine absurd ?_ hr
          have : f = rdf n := row_ext hf (isRow_rdf h3 h8) fun i hi => by
            rw [← q i hi]; have := a3 i (by omega); simpa using this.symm
          rw [this]
      have key : ∀ l, goodL n l = true → (if l = [45] then [] else l) = t → cf n l = f := fun l hl e =>
        row_ext (isRow_cf hl) hf fun i hi => by
          unfold cf cl
          rw [e]
          have := a3 i (by omega); simpa using this
      cases t with
      | nil =>
        simp at h
        subst h
        have hg : goodL n [45] = true := by
          simp [scanB] at hscan
          simp [goodL, h3, h8, hscan]; omega
        exact ⟨hg, key _ hg (by simp)⟩
      | cons b t' =>
        simp at h
        subst h
        have hb : ¬ (b :: t') = [45] := fun e => by
          have := a1 b (by simp)
          injection e; omega
        have hg : goodL n (b :: t') = true := by
          simp only [goodL, h3, h8, decide_true, Bool.true_and, if_neg hb, hscan, Bool.and_true, ne_eq, reduceCtorEq, not_false_eq_true]
          simpa using hsmall
        exact ⟨hg, key _ hg (if_neg hb)⟩
def backOk (n : Nat) (l : List Nat) : Bool := chText n (cf n l) == some l
theorem chText_back {n : Nat} {l : List Nat} (h : goodL n l = true) : chText n (cf n l) = some l := by
  have : ∀ n, n < 9 → 3 ≤ n → ∀ l ∈ chs n, backOk n l = true := by decide +kernel
  have h3 := goodL_three h
  have := this n (by have := goodL_eight h; omega) h3 l (mem_chs h)
  simpa [backOk] using this

/-- the text of some places -/
def ofPlaces (ps : List Nat) : List Nat := if ps = [] then [45] else ps.map (48 + ·)
/-- mirrored places, in order -/
def mirP (n : Nat) (l : List Nat) : List Nat := ((placesOf n l).map (n + 1 - ·)).reverse
def mirL (n : Nat) (l : List Nat) : List Nat := ofPlaces (mirP n l)
/-- mirrored digits -/
def mirF (n : Nat) (f : Nat → Nat) (i : Nat) : Nat := if i < n then 49 + n - (f (n - 1 - i) - 48) else 0
def mirOk (n : Nat) (l : List Nat) : Bool :=
  (chText n (mirF n (cf n l)) == some (mirL n l)) && goodL n (mirL n l) && (mirL n (mirL n l) == l) && decide ((placesOf n l).length ≤ 8) && (placesOf n l).all (fun p => decide (1 ≤ p ∧ p ≤ n)) && decide ((placesOf n l).Pairwise (· < ·))
theorem mirrors (n : Nat) (h3 : 3 ≤ n) (h8 : n ≤ 8) : ∀ l ∈ chs n, mirOk n l = true := by
  have : ∀ n, n < 9 → 3 ≤ n → ∀ l ∈ chs n, mirOk n l = true := by decide +kernel
  exact this n (by omega) h3
end Go.Proofs.YtapcfojnljnoaaaGreat
namespace Go.Proofs.YtapcfojnljnoaaaGreat
open Go.RowKit

/-- bytes as elements -/
def byts (l : List Nat) : List Value := l.map fun (b : Nat) => .int .u8 b
theorem byts_len (l : List Nat) : (byts l).length = l.length := by simp [byts]
theorem byts_snoc (l : List Nat) (b : Nat) : byts l ++ [.int .u8 b] = byts (l ++ [b]) := by simp [byts]
theorem strOf_txt (l : List Nat) : strOf l.length (fun i => l.getD i 0) = txt l := by
  unfold strOf txt
  congr 2
  apply List.ext_getElem
  · simp
  · intro k h1 h2
    have hk : k < l.length := by simpa using h2
    simp [List.getD_eq_getElem?_getD, hk]

/-- the text of what was found: "-" where no place is made -/
def dashOf : Option (List Nat) → Option (List Nat)
  | none => none
  | some [] => some [45]
  | some (b :: t) => some (b :: t)
theorem chText_ne {n : Nat} {f : Nat → Nat} (h : ¬ to8 f = to8 (rdf n)) : chText n f = dashOf (ctx n f n 0) := by
  unfold chText
  rw [if_neg h]
  cases ctx n f n 0 with
  | none => rfl
  | some t => cases t <;> rfl
/-- the ending of changeText -/
def chEnd (r : Option (List Nat)) : Value := match r with
  | none => .tuple #[.string ⟨#[]⟩, .bool false]
  | some l => .tuple #[.string (txt l), .bool true]

end Go.Proofs.YtapcfojnljnoaaaGreat
namespace Go.Proofs.YtapcfojnljnoaaaGreat
open Go.RowKit

/-- mirrored digits, the last k of them laid -/
def mirTo (n : Nat) (f : Nat → Nat) (k j : Nat) : Nat := if n ≤ j + k ∧ j < n then 49 + n - (f (n - 1 - j) - 48) else 0
theorem mirTo_zero (n : Nat) (f : Nat → Nat) : dig8 (mirTo n f 0) = zero8 := by
  have : ∀ i, mirTo n f 0 i = 0 := fun i => by unfold mirTo; rw [if_neg (by omega)]
  simp [dig8, zero8, this]
theorem mirTo_succ {n : Nat} (f : Nat → Nat) {k : Nat} (hk : k < n) : setF (mirTo n f k) (n - 1 - k) (49 + n - (f k - 48)) = mirTo n f (k + 1) := by
  funext j
  unfold setF mirTo
  by_cases e : j = n - 1 - k
  · subst e
    rw [if_pos rfl, if_pos (by omega), show n - 1 - (n - 1 - k) = k by omega]
  · rw [if_neg e]
    by_cases h : n ≤ j + k ∧ j < n
    · rw [if_pos h, if_pos (by omega)]
    · rw [if_neg h, if_neg (by omega)]
theorem mirTo_all (n : Nat) (f : Nat → Nat) : mirTo n f n = mirF n f := by
  funext j
  unfold mirTo mirF
  by_cases h : j < n
  · rw [if_pos (by omega), if_pos h]
  · rw [if_neg (by omega), if_neg h]
theorem isRow_mir {n : Nat} {f : Nat → Nat} (h : IsRow n f) : IsRow n (mirF n f) := by
  have hm : ∀ i, i < n → mirF n f i = 49 + n - (f (n - 1 - i) - 48) := fun i hi => by simp [mirF, hi]
  refine isRow_mk h.three h.eight (fun i hi => ?_) (fun i hi => ?_) (fun i j hi hj e => ?_) (fun i hi => by simp [mirF]; omega)
  · rw [hm i hi]; have := h.lo (n - 1 - i) (by omega); have := h.hi (n - 1 - i) (by omega); omega
  · rw [hm i hi]; have := h.lo (n - 1 - i) (by omega); have := h.hi (n - 1 - i) (by omega); omega
  · rw [hm i hi, hm j hj] at e
    have := h.lo (n - 1 - i) (by omega); have := h.hi (n - 1 - i) (by omega)
    have := h.lo (n - 1 - j) (by omega); have := h.hi (n - 1 - j) (by omega)
    have := h.inj (n - 1 - i) (n - 1 - j) (by omega) (by omega) (by omega)
    omega

end Go.Proofs.YtapcfojnljnoaaaGreat
namespace Go.Proofs.YtapcfojnljnoaaaGreat
open Go.RowKit

theorem txt_app (l r : List Nat) : txt (l ++ r) = txt l ++ txt r := by
  apply ByteArray.ext
  rw [ByteArray.data_append]
  simp [txt]

end Go.Proofs.YtapcfojnljnoaaaGreat
