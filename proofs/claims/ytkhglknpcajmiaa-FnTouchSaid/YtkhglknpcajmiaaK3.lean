/- Plain facts on changes: which texts are changes, all of them in order, the rows that they make. No program here. Plain facts on texts as lists of letters. No program here. The model's test for a change, and its question whether a place is made. The program's pairs swapped, and its change as digits. The program's change as digits. The program's change as digits: no change. GoodChange in the program and in the model, and the law on it. Plain facts: the model's road to a change's row, its places and its swaps, the program's places and swaps. No program here. ChangeRow in the program and in the model, and the law on it. Apply in the program and in the model, and the law on it. Places and swaps: lists of numbers, in the model and in the program. Places and swaps in the program. SwapsOf and PlacesOf, and the laws on them. Plain facts: the change that makes a row, and mirrored changes. No program here. The program's change of a row. MirrorChange in the program. A number as a text, the text of some places, a number put first: in the model. -/
import Derived.Test.YtkhglknpcajmiaaK1
import Derived.Sort.Walk0
import Derived.BigRegion
import Derived.ChangeAlike
import Derived.Lib.OthersKept
import Derived.Deep.RegionHeld3
import Derived.Test.YtkhglknpcajmiaaK2
namespace Go.Proofs.Ytkhglknpcajmiaa

/-- the letters of a text -/
def lets (s : ByteArray) : List Nat := (List.range s.size).map (dg s)
theorem lets_len (s : ByteArray) : (lets s).length = s.size := by simp [lets]
theorem lets_drop (s : ByteArray) (i : Nat) (hi : i < s.size) : (lets s).drop i = dg s i :: (lets s).drop (i + 1) := by
  rw [List.drop_eq_getElem_cons (by rw [lets_len]; exact hi)]
  simp [lets]
theorem lets_all (s : ByteArray) : (lets s).drop s.size = [] := List.drop_eq_nil_of_le (by rw [lets_len]; exact Nat.le_refl _)
/-- the text of some letters -/
def txt (l : List Nat) : ByteArray := ⟨(l.map UInt8.ofNat).toArray⟩
theorem txt_size (l : List Nat) : (txt l).size = l.length := by simp [txt, ByteArray.size]
theorem txt_lets (s : ByteArray) : txt (lets s) = s := by
  apply bytes_ext
  · rw [txt_size, lets_len]
  · intro k h1 h2
    have : (txt (lets s))[k] = (lets s |>.map UInt8.ofNat)[k]'(by simpa [lets_len] using h2) := rfl
    rw [this]
    simp [lets, dg, h2]
theorem dg_txt (l : List Nat) (hl : ∀ b ∈ l, b < 256) (k : Nat) (hk : k < l.length) : dg (txt l) k = l[k] := by
  have h : k < (txt l).size := by rw [txt_size]; exact hk
  have : (txt l)[k] = (l.map UInt8.ofNat)[k]'(by simpa using hk) := rfl
  have hb := hl _ (List.getElem_mem hk)
  simp only [dg, h, dif_pos, this, List.getElem_map]
  simp [UInt8.toNat_ofNat']; omega
theorem lets_txt (l : List Nat) (hl : ∀ b ∈ l, b < 256) : lets (txt l) = l := by
  apply List.ext_getElem
  · rw [lets_len, txt_size]
  · intro k h1 h2
    simp only [lets, List.getElem_map, List.getElem_range]
    exact dg_txt l hl k h2

/-- the scan of the rest of a change, behind the place 'last' -/
def scanB (n : Nat) : Nat → List Nat → Bool
  | last, [] => (n - last) % 2 == 0
  | last, b :: t => decide (48 + last + 1 ≤ b) && decide (b ≤ 48 + n) && ((b - 48 - last) % 2 == 1) && scanB n (b - 48) t
/-- whether these letters are a change -/
def goodL (n : Nat) (l : List Nat) : Bool :=
  decide (3 ≤ n) && decide (n ≤ 8) && decide (l ≠ []) && decide (l.length ≤ n - 2) && (if l = [45] then n % 2 == 0 else scanB n 0 l)

/-- all rests behind the place 'last', in order -/
def tails (n : Nat) : Nat → Nat → List (List Nat)
  | 0, last => if (n - last) % 2 = 0 then [[]] else []
  | k + 1, last => (if (n - last) % 2 = 0 then [[]] else []) ++ (List.range n).flatMap fun j => if last < j + 1 ∧ (j + 1 - last) % 2 = 1 then (tails n k (j + 1)).map (fun t => (49 + j) :: t) else []
theorem mem_tails (n : Nat) : ∀ (l : List Nat) (k last : Nat), l.length ≤ k → scanB n last l = true → l ∈ tails n k last
  | [], 0, last, _, h => by simp [scanB] at h; simp [tails, h]
  | [], k + 1, last, _, h => by simp [scanB] at h; simp [tails, h]
  | b :: t, 0, last, hk, _ => by simp at hk
  | b :: t, k + 1, last, hk, h => by
    simp only [scanB, Bool.and_eq_true, decide_eq_true_eq, beq_iff_eq] at h
    obtain ⟨⟨⟨h1, h2⟩, h3⟩, h4⟩ := h
    simp only [tails, List.mem_append, List.mem_flatMap, List.mem_range]
    refine .inr ⟨b - 49, by omega, ?_⟩
    have e : b - 49 + 1 = b - 48 := by omega
    rw [e, if_pos ⟨by omega, h3⟩, List.mem_map]
    exact ⟨t, mem_tails n t k (b - 48) (by simpa using hk) h4, by congr 1; omega⟩
/-- all changes of a stage, in order -/
def chs (n : Nat) : List (List Nat) := (if n % 2 = 0 then [[45]] else []) ++ (tails n 8 0).filter fun l => decide (l ≠ []) && decide (l.length ≤ n - 2)
theorem stages {P : Nat → Prop} (n : Nat) (h3 : 3 ≤ n) (h8 : n ≤ 8) (a3 : P 3) (a4 : P 4) (a5 : P 5) (a6 : P 6) (a7 : P 7) (a8 : P 8) : P n := by
  have : n = 3 ∨ n = 4 ∨ n = 5 ∨ n = 6 ∨ n = 7 ∨ n = 8 := by omega
  rcases this with rfl | rfl | rfl | rfl | rfl | rfl <;> assumption
theorem goodL_three {n : Nat} {l : List Nat} (h : goodL n l = true) : 3 ≤ n := by simp [goodL] at h; omega
theorem goodL_eight {n : Nat} {l : List Nat} (h : goodL n l = true) : n ≤ 8 := by simp [goodL] at h; omega
theorem mem_chs {n : Nat} {l : List Nat} (h : goodL n l = true) : l ∈ chs n := by
  simp only [goodL, Bool.and_eq_true, decide_eq_true_eq] at h
  obtain ⟨⟨⟨⟨h3, h8⟩, hne⟩, hlen⟩, h⟩ := h
  simp only [chs, List.mem_append, List.mem_filter, Bool.and_eq_true, decide_eq_true_eq]
  by_cases e : l = [45]
  · subst e
    simp at h
    simp [h]
  · rw [if_neg e] at h
    exact .inr ⟨mem_tails n l 8 0 (by omega) h, hne, hlen⟩

/-- the row that the rest of a change makes of the places from i on (k: rounds left) -/
def rowS (n : Nat) : Nat → Nat → List Nat → List Nat
  | 0, _, _ => []
  | k + 1, i, l => if n ≤ i then [] else match l with
    | b :: t => if b = 49 + i then (49 + i) :: rowS n k (i + 1) t else (50 + i) :: (49 + i) :: rowS n k (i + 2) (b :: t)
    | [] => (50 + i) :: (49 + i) :: rowS n k (i + 2) []
/-- the row of a change -/
def cl (n : Nat) (l : List Nat) : List Nat := rowS n n 0 (if l = [45] then [] else l)
def cf (n : Nat) (l : List Nat) (i : Nat) : Nat := (cl n l).getD i 0
/-- pairs swapped from place a (counted from 0) up to e -/
def swF (d : Nat → Nat) (a e i : Nat) : Nat := if a ≤ i ∧ i < e then (if (i - a) % 2 = 0 then d (i + 1) else d (i - 1)) else d i
/-- the program's road along the letters: the row, if they are a change -/
def walkC (n : Nat) : Nat → (Nat → Nat) → List Nat → Option (Nat → Nat)
  | last, d, [] => if (n - last) % 2 = 0 then some (swF d last n) else none
  | last, d, b :: t => if 48 + last + 1 ≤ b ∧ b ≤ 48 + n then (if (b - 48 - last) % 2 = 1 then walkC n (b - 48) (swF d last (b - 49)) t else none) else none
theorem walkC_none (n : Nat) : ∀ (l : List Nat) (last : Nat) (d : Nat → Nat), scanB n last l = false → walkC n last d l = none
  | [], last, d, h => by simp [scanB] at h; simp [walkC, h]
  | b :: t, last, d, h => by
    unfold walkC
    by_cases h1 : 48 + last + 1 ≤ b ∧ b ≤ 48 + n
    · rw [if_pos h1]
      by_cases h2 : (b - 48 - last) % 2 = 1
      · rw [if_pos h2]
        exact walkC_none n t _ _ (by simpa [scanB, h1, h2] using h)
      · rw [if_neg h2]
    · rw [if_neg h1]
theorem walkC_some (n : Nat) : ∀ (l : List Nat) (last : Nat) (d : Nat → Nat), scanB n last l = true → ∃ e, walkC n last d l = some e
  | [], last, d, h => by simp [scanB] at h; exact ⟨swF d last n, by simp [walkC, h]⟩
  | b :: t, last, d, h => by
    simp only [scanB, Bool.and_eq_true, decide_eq_true_eq, beq_iff_eq] at h
    obtain ⟨⟨⟨h1, h2⟩, h3⟩, h4⟩ := h
    unfold walkC
    rw [if_pos ⟨h1, h2⟩, if_pos h3]
    exact walkC_some n t _ _ h4
/-- the first eight -/
def to8 (f : Nat → Nat) : List Nat := (List.range 8).map f
/-- what the program's road gives, all told: none where the letters are no change, else the change's row -/
def walkOk (n : Nat) (l : List Nat) : Bool :=
  match walkC n 0 (rdf n) (if l = [45] then [] else l) with
  | none => false
  | some e => to8 e == to8 (cf n l)
def tailOk (n : Nat) (l : List Nat) : Bool :=
  decide (l = []) || decide (l.length ≤ n - 2) || (match walkC n 0 (rdf n) l with | none => false | some e => to8 e == to8 (rdf n))
theorem walks_ok (n : Nat) (h3 : 3 ≤ n) (h8 : n ≤ 8) : ∀ l ∈ chs n, walkOk n l = true := by
  revert h3 h8
  have : ∀ n, n < 9 → 3 ≤ n → ∀ l ∈ chs n, walkOk n l = true := by decide +kernel
  exact fun h3 h8 => this n (by omega) h3
theorem tails_ok (n : Nat) (h3 : 3 ≤ n) (h8 : n ≤ 8) : ∀ l ∈ tails n 8 0, tailOk n l = true := by
  have : ∀ n, n < 9 → 3 ≤ n → ∀ l ∈ tails n 8 0, tailOk n l = true := by decide +kernel
  exact this n (by omega) h3
theorem scan_len (n : Nat) : ∀ (l : List Nat) (last : Nat), scanB n last l = true → last ≤ n → l.length ≤ n - last
  | [], _, _, _ => by simp
  | b :: t, last, h, hl => by
    simp only [scanB, Bool.and_eq_true, decide_eq_true_eq, beq_iff_eq] at h
    obtain ⟨⟨⟨h1, h2⟩, h3⟩, h4⟩ := h
    have := scan_len n t _ h4 (by omega)
    simp only [List.length_cons]
    omega
/-- the program's whole test -/
theorem walk_good (n : Nat) (h3 : 3 ≤ n) (h8 : n ≤ 8) (l : List Nat) (h : goodL n l = true) : ∃ e, walkC n 0 (rdf n) (if l = [45] then [] else l) = some e ∧ to8 e = to8 (cf n l) := by
  have := walks_ok n h3 h8 l (mem_chs h)
  unfold walkOk at this
  split at this
  · cases this
  · rename_i e he
    exact ⟨e, he, by simpa using this⟩
theorem walk_bad (n : Nat) (h3 : 3 ≤ n) (h8 : n ≤ 8) (l : List Nat) (hne : l ≠ []) (h : goodL n l = false) : walkC n 0 (rdf n) (if l = [45] then [] else l) = none ∨ ∃ e, walkC n 0 (rdf n) (if l = [45] then [] else l) = some e ∧ to8 e = to8 (rdf n) := by
  by_cases e : l = [45]
  · subst e
    simp [goodL, h3, h8] at h
    left
    rw [if_pos rfl]
    have hodd : n % 2 = 1 := by
      rcases Nat.lt_or_ge (n - 2) 1 with h1 | h1
      · omega
      · have := h (by omega); omega
    simp [walkC, hodd]
  · rw [if_neg e]
    by_cases hs : scanB n 0 l = true
    · right
      have hl := scan_len n l 0 hs (by omega)
      have ht := tails_ok n h3 h8 l (mem_tails n l 8 0 (by omega) hs)
      have hbig : ¬ l.length ≤ n - 2 := fun hle => by simp [goodL, h3, h8, hne, hle, e, hs] at h
      simp only [tailOk, hne, hbig, decide_false, Bool.false_or] at ht
      split at ht
      · cases ht
      · rename_i e he
        exact ⟨e, he, by simpa using ht⟩
    · exact .inl (walkC_none n l 0 _ (by simpa using hs))
theorem to8_at {f g : Nat → Nat} (h : to8 f = to8 g) (i : Nat) (hi : i < 8) : f i = g i := by
  have := congrArg (fun l => l.getD i 0) h
  simpa [to8, List.getD_eq_getElem?_getD, hi] using this
theorem chs_small (n : Nat) (h3 : 3 ≤ n) (h8 : n ≤ 8) : ∀ l ∈ chs n, goodL n l = true ∧ (∀ b ∈ l, b < 58) ∧ (cl n l).length = n ∧ ∃ i, i < n ∧ cf n l i ≠ rdf n i := by
  have : ∀ n, n < 9 → 3 ≤ n → ∀ l ∈ chs n, goodL n l = true ∧ (∀ b ∈ l, b < 58) ∧ (cl n l).length = n ∧ (List.range n).any (fun i => cf n l i != rdf n i) = true := by decide +kernel
  intro l hl
  obtain ⟨a, b, c, d⟩ := this n (by omega) h3 l hl
  refine ⟨a, b, c, ?_⟩
  simpa using d
def rowOk (n : Nat) (l : List Nat) : Bool := (List.range n).all fun i => decide (49 ≤ cf n l i) && decide (cf n l i ≤ 48 + n) && (List.range n).all fun j => decide (i = j) || decide (cf n l i ≠ cf n l j)
theorem isRow_cf {n : Nat} {l : List Nat} (h : goodL n l = true) : IsRow n (cf n l) := by
  have h3 := goodL_three h
  have h8 := goodL_eight h
  have hk : ∀ n, n < 9 → 3 ≤ n → ∀ l ∈ chs n, rowOk n l = true := by decide +kernel
  have := hk n (by omega) h3 l (mem_chs h)
  simp only [rowOk, List.all_eq_true, List.mem_range, Bool.and_eq_true, Bool.or_eq_true, decide_eq_true_eq] at this
  refine isRow_mk h3 h8 (fun i hi => (this i hi).1.1) (fun i hi => (this i hi).1.2) (fun i j hi hj e => ?_) (fun i hi => ?_)
  · rcases (this i hi).2 j hj with h | h
    · exact h
    · exact absurd e h
  · have := (chs_small n h3 h8 l (mem_chs h)).2.2.1
    simp [cf, List.getD_eq_getElem?_getD, this, hi]
end Go.Proofs.Ytkhglknpcajmiaa
namespace Go.Proofs.Ytkhglknpcajmiaa

theorem data_lets (s : ByteArray) : s.data.toList.map UInt8.toNat = lets s := by
  apply List.ext_getElem
  · simp [lets]
  · intro k h1 h2
    have hk : k < s.size := by simpa using h1
    have e : s.data.toList[k]'(by simpa using hk) = s[k] := rfl
    simp [lets, dg, hk, e]
theorem lets_data (s : ByteArray) : s.data.toList = (lets s).map UInt8.ofNat := by
  rw [← data_lets, List.map_map]
  exact (List.map_id'' (fun b => by simp) _).symm
theorem lets_inj {s t : ByteArray} (h : lets s = lets t) : s = t := by
  rw [← txt_lets s, ← txt_lets t, h]
theorem lets_lt (s : ByteArray) : ∀ b ∈ lets s, b < 256 := by
  intro b hb
  simp only [lets, List.mem_map] at hb
  obtain ⟨k, _, rfl⟩ := hb
  exact dg_lt s k
theorem map_ofNat_inj : ∀ {l r : List Nat}, (∀ b ∈ l, b < 256) → (∀ b ∈ r, b < 256) → l.map UInt8.ofNat = r.map UInt8.ofNat → l = r
  | [], [], _, _, _ => rfl
  | [], _ :: _, _, _, h => by simp at h
  | _ :: _, [], _, _, h => by simp at h
  | a :: l, b :: r, hl, hr, h => by
    simp only [List.map_cons, List.cons.injEq] at h
    have h1 := congrArg UInt8.toNat h.1
    have ha := hl a (by simp)
    have hb := hr b (by simp)
    simp [UInt8.toNat_ofNat'] at h1
    rw [map_ofNat_inj (fun x hx => hl x (by simp [hx])) (fun x hx => hr x (by simp [hx])) h.2]
    congr 1; omega
theorem txt_inj {l r : List Nat} (hl : ∀ b ∈ l, b < 256) (hr : ∀ b ∈ r, b < 256) (h : txt l = txt r) : l = r := by
  rw [← lets_txt l hl, ← lets_txt r hr, h]
theorem empty_lets (s : ByteArray) : s.toList.isEmpty = decide (lets s = []) := by
  rw [Lib.toList_data, lets_data]
  cases lets s <;> simp
theorem beq_lets (s : ByteArray) (l : List Nat) (hl : ∀ b ∈ l, b < 256) : (s.toList == l.map UInt8.ofNat) = decide (lets s = l) := by
  rw [Lib.toList_data, lets_data]
  by_cases h : lets s = l
  · simp [h]
  · rw [decide_eq_false h, beq_eq_false_iff_ne]
    exact fun e => h (map_ofNat_inj (lets_lt s) hl e)
theorem dash_lets (s : ByteArray) : (s.toList == [45]) = decide (lets s = [45]) := beq_lets s [45] (by simp)
theorem same_lets (s t : ByteArray) : (s.toList == t.toList) = decide (lets s = lets t) := by
  rw [Lib.toList_data t, lets_data t]
  exact beq_lets s _ (lets_lt t)
/-- the order of texts, on their letters -/
def lexL : List Nat → List Nat → Bool
  | [], [] => false
  | [], _ :: _ => true
  | _ :: _, [] => false
  | a :: l, b :: r => decide (a < b) || (a == b && lexL l r)
theorem less_map : ∀ (l r : List Nat), (∀ b ∈ l, b < 256) → (∀ b ∈ r, b < 256) → Op.bytesLess (l.map UInt8.ofNat) (r.map UInt8.ofNat) = lexL l r
  | [], [], _, _ => rfl
  | [], _ :: _, _, _ => rfl
  | _ :: _, [], _, _ => rfl
  | a :: l, b :: r, hl, hr => by
    have ha := hl a (by simp)
    have hb := hr b (by simp)
    have ih := less_map l r (fun x hx => hl x (by simp [hx])) (fun x hx => hr x (by simp [hx]))
    simp only [List.map_cons]
    unfold Op.bytesLess lexL
    rw [ih]
    have e1 : (UInt8.ofNat a < UInt8.ofNat b) = (a < b) := by
      rw [UInt8.lt_iff_toNat_lt]; simp [UInt8.toNat_ofNat']; omega
    have e2 : (UInt8.ofNat a == UInt8.ofNat b) = (a == b) := by
      by_cases h : a = b
      · simp [h]
      · rw [beq_eq_false_iff_ne.2 h, beq_eq_false_iff_ne]
        intro e
        have := congrArg UInt8.toNat e
        simp [UInt8.toNat_ofNat'] at this; omega
    simp only [e1, e2]
theorem less_lets (s t : ByteArray) : Op.bytesLess s.toList t.toList = lexL (lets s) (lets t) := by
  rw [Lib.toList_data, Lib.toList_data, lets_data, lets_data]
  exact less_map _ _ (lets_lt s) (lets_lt t)
end Go.Proofs.Ytkhglknpcajmiaa
namespace Go.Proofs.Ytkhglknpcajmiaa
open Go.RowKit

set_option maxRecDepth 100000 in
set_option maxHeartbeats 1000000 in
theorem l2Stays_any (s : ByteArray) (hs : s.size ≤ maxLen) (p : Nat) (w : World) :
    Calls Try.prog 162 #[.string s, .int .i64 p] w fun e w' => e = .returned (.bool ((lets s).contains (48 + p))) ∧ w = w' := by
  unfold maxLen at hs
  have hat := dg_at s
  have hdr := lets_drop s
  generalize hd : dg s = f at *
  have hlt256 : ∀ k, f k < 256 := fun k => by rw [← hd]; exact dg_lt s k
  clear hd
  generalize hL : (lets s).contains (48 + p) = res
  have HDR := Lib.hid hdr
  have HL := Lib.hid hL
  have HALL := Lib.hid (lets_all s)
  clear hdr hL
  go_enter Try.func162, Try.ntmps162
  go_wp2
  go_loopg [5] s.size (fun g i wr => ∃ k : Nat, k ≤ s.size ∧ g + k = s.size ∧ i = .int .i64 k ∧ ((lets s).drop k).contains (48 + p) = res ∧ w = wr)
  case atStart => exact ⟨0, Nat.zero_le _, rfl, rfl, by simpa using HL.out, rfl⟩
  case round =>
    clear HL
    obtain ⟨k, hk, hg, rfl, hc, rfl⟩ := hrel
    have HG := Lib.hid hg
    have HC := Lib.hid hc
    clear hg hc
    by_cases hlt : k < s.size
    · have hb := hlt256 k
      have hb' : (f k : Int) < 256 := by omega
      by_cases he : f k = 48 + p
      · have he' : ((f k : Int) - 48 == (p : Int)) = true := by simp; omega
        have hr : res = true := by rw [← HC.out, HDR.out k hlt, he]; simp
        clear he
        go_wp2
        go_ret
        exact ⟨by rw [hr]; rfl, rfl⟩
      · have he' : ((f k : Int) - 48 == (p : Int)) = false := by simp; omega
        have hr : ((lets s).drop (k + 1)).contains (48 + p) = res := by
          have := HC.out
          rw [HDR.out k hlt, List.contains_cons] at this
          rw [← this]
          have : (48 + p == f k) = false := by simp; omega
          rw [this, Bool.false_or]
        have HR := Lib.hid hr
        clear he hr
        go_wp2
        go_roundg (s.size - (k + 1))
        case measure => have := HG.out; omega
        case rel => exact ⟨k + 1, by omega, by have := HG.out; omega, by go_num, HR.out, rfl⟩
    · obtain rfl : k = s.size := by omega
      have hr : res = false := by rw [← HC.out, HALL.out]; rfl
      go_wp2
      go_ret
      exact ⟨by rw [hr]; rfl, rfl⟩

/-- whether the text is a change of stage n -/
def goodC (n : Int) (s : ByteArray) : Bool := decide (0 ≤ n) && goodL n.toNat (lets s)

theorem goodC_in (m : Nat) (s : ByteArray) : goodC m s = goodL m (lets s) := by simp [goodC]
theorem goodC_out (n : Int) (s : ByteArray) (h : ¬ (3 ≤ n ∧ n ≤ 8)) : goodC n s = false := by
  simp only [goodC, goodL, Bool.and_eq_false_iff, decide_eq_false_iff_not]
  omega
set_option maxRecDepth 100000 in
set_option maxHeartbeats 1000000 in
theorem l2Change_any (n : Int) (s : ByteArray) (hs : s.size ≤ maxLen) (w : World) :
    Calls Try.prog 118 #[.int .i64 n, .string s] w fun e w' => e = .returned (.bool (goodC n s)) ∧ w = w' := by
  unfold maxLen at hs
  by_cases hn : 3 ≤ n ∧ n ≤ 8
  · obtain ⟨m, rfl⟩ : ∃ m : Nat, n = m := ⟨n.toNat, by omega⟩
    have h3 : 3 ≤ m := by omega
    have h8 : m ≤ 8 := by omega
    rw [goodC_in]
    have h3' : (3 : Int) ≤ m := by omega
    have h8' : (m : Int) ≤ 8 := by omega
    have h12 : 1 ≤ m - 2 := by omega
    have hE := empty_lets s
    have hM := dash_lets s
    have hlen := lets_len s
    generalize hg : goodL m (lets s) = res
    by_cases he : lets s = []
    · have hr : res = false := by rw [← hg]; simp [goodL, he]
      rw [he] at hE
      clear hg he hM
      go_enter Try.func118, Try.ntmps118
      go_wp2_with (first | (go_at_call 100; refine (l1In_any _ _ _ _).mono ?_; rintro e w' ⟨rfl, rfl⟩))
      go_ret
      exact ⟨by rw [hr]; rfl, rfl⟩
    · have hE' : s.toList.isEmpty = false := by rw [hE, decide_eq_false he]
      clear hE
      by_cases hl : s.size ≤ m - 2
      · have hl' : ¬ ((m : Int) - 2 < s.size) := by omega
        by_cases hd : lets s = [45]
        · have hM' : (s.toList == [45]) = true := by rw [hM, decide_eq_true hd]
          have hr : res = ((m : Int) % 2 == 0) := by
            rw [← hg]
            simp only [goodL, h3, h8, hd, List.length_singleton, h12, decide_true, ne_eq, reduceCtorEq, not_false_eq_true, Bool.true_and, if_true]
            by_cases e : m % 2 = 0
            · have : (m : Int) % 2 = 0 := by omega
              rw [e, this]; rfl
            · have : (m : Int) % 2 ≠ 0 := by omega
              rw [beq_eq_false_iff_ne.2 e, beq_eq_false_iff_ne.2 this]
          clear hg he hM hd
          go_enter Try.func118, Try.ntmps118
          go_wp2_with (first | (go_at_call 100; refine (l1In_any _ _ _ _).mono ?_; rintro e w' ⟨rfl, rfl⟩))
          go_ret
          exact ⟨by rw [hr]; rfl, rfl⟩
        · have hM' : (s.toList == [45]) = false := by rw [hM, decide_eq_false hd]
          have hr : scanB m 0 (lets s) = res := by
            rw [← hg]
            simp [goodL, hlen, h3, h8, hl, hd, he]
          clear hg hM hd he
          have hat := dg_at s
          have hdr := lets_drop s
          have hlt256 := dg_lt s
          have hall := lets_all s
          generalize lets s = L at *
          generalize dg s = f at *
          have HDR := Lib.hid hdr
          have HR := Lib.hid hr
          have HALL := Lib.hid hall
          have HSZ := Lib.hid hlen
          have H256 := Lib.hid hlt256
          clear hdr hr hall hlen hlt256
          go_enter Try.func118, Try.ntmps118
          go_wp2_with (first | (go_at_call 100; refine (l1In_any _ _ _ _).mono ?_; rintro e w' ⟨rfl, rfl⟩))
          go_loopg [5, 6, 7] s.size (fun g p i _ wr => ∃ k last : Nat, k ≤ s.size ∧ g + k = s.size ∧ i = .int .i64 k ∧ p = .int .i64 last ∧ last ≤ m ∧ scanB m last (L.drop k) = res ∧ w = wr)
          case atStart => exact ⟨0, 0, Nat.zero_le _, rfl, rfl, rfl, by omega, by simpa using HR.out, rfl⟩
          case round =>
            clear HR
            obtain ⟨k, last, hk, hg, rfl, rfl, hlm, hc, rfl⟩ := hrel
            have HG := Lib.hid hg
            have HC := Lib.hid hc
            clear hg hc
            by_cases hlt : k < s.size
            · have hb := H256.out k
              have hb' : (f k : Int) < 256 := by omega
              have hc := HC.out
              rw [HDR.out k hlt, scanB] at hc
              by_cases h1 : 48 + last + 1 ≤ f k ∧ f k ≤ 48 + m
              · have a1 : (last : Int) + 1 ≤ (f k : Int) - 48 := by omega
                have a2 : (f k : Int) - 48 ≤ m := by omega
                obtain ⟨p, hp⟩ : ∃ p : Nat, f k = 48 + p := ⟨f k - 48, by omega⟩
                have ep : (f k : Int) - 48 = p := by omega
                by_cases h2 : (f k - 48 - last) % 2 = 1
                · have hm2 : (((p : Int) - last) % 2 == 0) = false := by simp; omega
                  have hnx : scanB m p (L.drop (k + 1)) = res := by
                    have e1 : 48 + last + 1 ≤ 48 + p ∧ 48 + p ≤ 48 + m := by rw [← hp]; exact h1
                    rw [← hc, h2, hp, Nat.add_sub_cancel_left, decide_eq_true e1.1, decide_eq_true e1.2]
                    rfl
                  have HN := Lib.hid hnx
                  clear hnx hc h1 h2 hp
                  go_wp2_with (first | (go_at_call 100; refine (l1In_any _ _ _ _).mono ?_; rintro e w' ⟨rfl, rfl⟩))
                  go_roundg (s.size - (k + 1))
                  case measure => have := HG.out; omega
                  case rel => exact ⟨k + 1, p, by omega, by have := HG.out; omega, by go_num, rfl, by omega, HN.out, rfl⟩
                · have hm2 : (((p : Int) - last) % 2 == 0) = true := by simp; omega
                  have hr : res = false := by rw [← hc]; simp [h2]
                  clear hc h1 h2 hp
                  go_wp2_with (first | (go_at_call 100; refine (l1In_any _ _ _ _).mono ?_; rintro e w' ⟨rfl, rfl⟩))
                  go_ret
                  exact ⟨by rw [hr]; rfl, rfl⟩
              · have hr : res = false := by
                  rw [← hc]
                  by_cases e1 : 48 + last + 1 ≤ f k
                  · have e2 : ¬ f k ≤ 48 + m := fun e => h1 ⟨e1, e⟩
                    simp [e2]
                  · simp [e1]
                have hin : (decide ((last : Int) + 1 ≤ (f k : Int) - 48) && decide ((f k : Int) - 48 ≤ m)) = false := by simp; omega
                clear hc h1
                go_wp2_with (first | (go_at_call 100; refine (l1In_any _ _ _ _).mono ?_; rintro e w' ⟨rfl, rfl⟩))
                go_ret
                exact ⟨by rw [hr]; rfl, rfl⟩
            · obtain rfl : k = s.size := by omega
              have hr : res = (((m : Int) - last) % 2 == 0) := by
                rw [← HC.out, HALL.out, scanB]
                by_cases e : (m - last) % 2 = 0
                · have : ((m : Int) - last) % 2 = 0 := by omega
                  rw [e, this]; rfl
                · have : ((m : Int) - last) % 2 ≠ 0 := by omega
                  rw [beq_eq_false_iff_ne.2 e, beq_eq_false_iff_ne.2 this]
              go_wp2
              go_ret
              exact ⟨by rw [hr]; rfl, rfl⟩
      · have hl' : (m : Int) - 2 < s.size := by omega
        have hr : res = false := by rw [← hg]; simp [goodL, hlen, hl]
        clear hg he hM
        go_enter Try.func118, Try.ntmps118
        go_wp2_with (first | (go_at_call 100; refine (l1In_any _ _ _ _).mono ?_; rintro e w' ⟨rfl, rfl⟩))
        go_ret
        exact ⟨by rw [hr]; rfl, rfl⟩
  · rw [goodC_out n s hn]
    have hin : (decide (3 ≤ n) && decide (n ≤ 8)) = false := by simp; omega
    go_enter Try.func118, Try.ntmps118
    go_wp2_with (first | (go_at_call 100; refine (l1In_any _ _ _ _).mono ?_; rintro e w' ⟨rfl, rfl⟩))
    go_ret
    exact ⟨rfl, rfl⟩
end Go.Proofs.Ytkhglknpcajmiaa
namespace Go.Proofs.Ytkhglknpcajmiaa
open Go.RowKit

theorem swF_step (f : Nat → Nat) (a p : Nat) (hp : a ≤ p) (hev : (p - a) % 2 = 0) : setF (setF (swF f a p) p (f (p + 1))) (p + 1) (f p) = swF f a (p + 2) := by
  funext i
  unfold setF swF
  by_cases e1 : i = p + 1
  · subst e1
    have h1 : ¬ (p + 1 - a) % 2 = 0 := by omega
    simp [h1]; omega
  · by_cases e2 : i = p
    · subst e2
      have h1 : a ≤ i ∧ i < i + 2 := by omega
      simp [h1, hev]
    · simp only [e1, e2, if_false]
      by_cases h : a ≤ i ∧ i < p
      · have h' : a ≤ i ∧ i < p + 2 := by omega
        rw [if_pos h, if_pos h']
      · have h' : ¬ (a ≤ i ∧ i < p + 2) := by omega
        rw [if_neg h, if_neg h']
theorem swF_at (f : Nat → Nat) (a p i : Nat) (hi : p ≤ i) : swF f a p i = f i := by
  unfold swF
  have : ¬ (a ≤ i ∧ i < p) := by omega
  rw [if_neg this]

set_option maxRecDepth 100000 in
set_option maxHeartbeats 1000000 in
theorem swapped_yes (f : Nat → Nat) (a e : Nat) (hae : a ≤ e) (he : e ≤ 8) (hev : (e - a) % 2 = 0) (x y : Int) (hx : x = a + 1) (hy : y = e + 1) (w : World) :
    Calls Try.prog 157 #[.agg (dig8 f), .int .i64 x, .int .i64 y] w fun r w' => r = .returned (.tuple #[.agg (dig8 (swF f a e)), .bool true]) ∧ Below w.heap.size w w' := by
  have hev' : ((y - x) % 2 == 0) = true := by simp; omega
  go_enter Try.func157, Try.ntmps157
  simp only [dig8]
  go_wp2
  have hD : RowAt ((w.alloc (.cells (dig8 f) 87)).alloc (.cells zero8 87)) w.heap.size 87 (dig8 (swF f a a)) := by
    have e1 : dig8 (swF f a a) = dig8 f := dig8_congr fun i _ => by
      by_cases h : a ≤ i
      · exact swF_at f a a i h
      · simp [swF, h]
    rw [e1]
    exact (RowAt.new w _ (dig8 f)).push _
  have hR : RowAt ((w.alloc (.cells (dig8 f) 87)).alloc (.cells zero8 87)) (w.heap.size + 1) 87 zero8 := by
    have := RowAt.new (w.alloc (.cells (dig8 f) 87)) 87 zero8
    simpa using this
  have hB : Below w.heap.size w ((w.alloc (.cells (dig8 f) 87)).alloc (.cells zero8 87)) := ((Below.refl _ w).alloc (Nat.le_refl _) _).alloc (by simp) _
  have HD := Lib.hid hD
  have HR := Lib.hid hR
  have HB := Lib.hid hB
  have HEV := Lib.hid hev
  clear hD hR hB hev
  go_loopg [8] (e - a) (fun q i wr => ∃ p : Nat, a ≤ p ∧ p ≤ e ∧ (p - a) % 2 = 0 ∧ q + p = e ∧ i = .int .i64 ((p : Int) + 1) ∧ RowAt wr w.heap.size 87 (dig8 (swF f a p)) ∧ RowAt wr (w.heap.size + 1) 87 zero8 ∧ Below w.heap.size w wr)
  case atStart => exact ⟨a, Nat.le_refl _, hae, by simp, by omega, by simp [hx], HD.out, HR.out, HB.out⟩
  case round =>
    clear HD HR HB
    obtain ⟨p, hap, hpe, hpa, hq, rfl, hD, hR, hB⟩ := hrel
    have HD := Lib.hid hD
    have HR := Lib.hid hR
    have HB := Lib.hid hB
    have HQ := Lib.hid hq
    have HPA := Lib.hid hpa
    clear hD hR hB hq hpa
    by_cases hlt : p < e
    · have h2 : p + 2 ≤ e := by have := HPA.out; have := HEV.out; omega
      have hP8 : p + 1 < 8 := by omega
      have hp8 : p < 8 := by omega
      have hPy : (p : Int) + 1 < y := by omega
      have c1 := HD.out.cell p (dig8_get _ p hp8)
      have c2 := HD.out.cell (p + 1) (dig8_get _ (p + 1) hP8)
      rw [swF_at f a p p (Nat.le_refl _)] at c1
      rw [swF_at f a p (p + 1) (by omega)] at c2
      have f1 := HD.out.free p
      have f2 := HD.out.free (p + 1)
      go_wp2
      go_region
      all_goals
        go_wp2
        go_roundg (e - (p + 2))
        case measure => have := HQ.out; omega
        case rel =>
          refine ⟨p + 2, by omega, h2, by have := HPA.out; omega, by have := HQ.out; omega, by go_num, ?_, ?_, ?_⟩
          · have h3 := (HD.out.set p (.int .u8 (f (p + 1)))).set (p + 1) (.int .u8 (f p))
            rw [dig8_set _ _ _ hp8, dig8_set _ _ _ hP8, swF_step f a p hap HPA.out] at h3
            exact h3
          · exact (HR.out.other _ _ (by simp)).other _ _ (by simp)
          · exact ((HB.out.setCell (p := ⟨w.heap.size, p, none⟩) (Nat.le_refl _) _).setCell (p := ⟨w.heap.size, p + 1, none⟩) (Nat.le_refl _) _).drew
    · obtain rfl : p = e := by omega
      have hPy : ¬ (p : Int) + 1 < y := by omega
      go_wp2_with (first | (refine wpList_load_row rfl 87 _ rfl _ rfl 87 _ _ _ HD.out Try.underlying87 rfl (by kernel_rfl) ?_) | (refine wpList_store_row rfl 87 _ _ rfl _ _ rfl rfl 87 _ HR.out (by kernel_rfl) rfl (by kernel_rfl) ?_))
      exact bodyPost_ret (results_row_tmp rfl _ _ (w.heap.size + 1) 87 (dig8 (swF f a p)) (0, 0) _ rfl (HR.out.row _) Try.underlying87 rfl (by kernel_rfl)) rfl ⟨rfl, below_setRow HB.out (by omega) _⟩

set_option maxRecDepth 100000 in
set_option maxHeartbeats 1000000 in
theorem swapped_no (f : Nat → Nat) (a e : Nat) (hae : a ≤ e) (he : e ≤ 8) (hev : ¬ (e - a) % 2 = 0) (x y : Int) (hx : x = a + 1) (hy : y = e + 1) (w : World) :
    Calls Try.prog 157 #[.agg (dig8 f), .int .i64 x, .int .i64 y] w fun r w' => r = .returned (.tuple #[.agg zero8, .bool false]) ∧ Below w.heap.size w w' := by
  have hev' : (((e : Int) + 1 - (a + 1)) % 2 != 0) = true := by simp; omega
  have hR : RowAt ((w.alloc (.cells (dig8 f) 87)).alloc (.cells zero8 87)) (w.heap.size + 1) 87 zero8 := by
    have := RowAt.new (w.alloc (.cells (dig8 f) 87)) 87 zero8
    simpa using this
  have hB : Below w.heap.size w ((w.alloc (.cells (dig8 f) 87)).alloc (.cells zero8 87)) := ((Below.refl _ w).alloc (Nat.le_refl _) _).alloc (by simp) _
  have HR := Lib.hid hR
  have HB := Lib.hid hB
  clear hR hB hev
  go_enter Try.func157, Try.ntmps157
  simp only [dig8]
  go_wp2_with (first | (refine wpList_store_row rfl 87 _ _ rfl _ _ rfl rfl 87 _ HR.out (by kernel_rfl) rfl (by kernel_rfl) ?_))
  exact bodyPost_ret (results_row_tmp rfl _ _ (w.heap.size + 1) 87 zero8 (0, 0) _ rfl (HR.out.row _) Try.underlying87 rfl (by kernel_rfl)) rfl ⟨rfl, below_setRow HB.out (by omega) _⟩
end Go.Proofs.Ytkhglknpcajmiaa
namespace Go.Proofs.Ytkhglknpcajmiaa
open Go.RowKit

theorem run_eql_dig8 (W : World) (f g : Nat → Nat) (hf : ∀ i, f i < 256) (hg : ∀ i, g i < 256) (b : Bool) (hb : ((List.range 8).map (fun i => UInt8.ofNat (f i)) == (List.range 8).map (fun i => UInt8.ofNat (g i))) = b) :
    (binOp .eql 87 (.agg (dig8 f)) (.agg (dig8 g))).run Try.prog W = .ok (.bool b) W := by
  rw [dig8_list f hf, dig8_list g hg, run_eql_struct, run_equalIn_bytes W 9998 87 5 8 Try.underlying87 Try.underlying5 (fun w => by kernel_rfl) _ _ (by simp) (by simp), hb]
  rfl

set_option maxRecDepth 100000 in
set_option maxHeartbeats 1000000 in
theorem changeDigits_yes (n : Nat) (s : ByteArray) (hg : goodL n (lets s) = true) (w : World) :
    Calls Try.prog 137 #[.int .i64 n, .string s] w fun e w' => e = .returned (.tuple #[.agg (dig8 (cf n (lets s))), .bool true]) ∧ Below w.heap.size w w' := by
  have h3 := goodL_three hg
  have h8 := goodL_eight hg
  have h3' : (3 : Int) ≤ n := by omega
  have h8' : (n : Int) ≤ 8 := by omega
  obtain ⟨e, hw, he⟩ := walk_good n h3 h8 _ hg
  have hrow := isRow_cf hg
  have hne : cf n (lets s) ≠ rdf n := by
    obtain ⟨_, _, _, i, hi, h⟩ := chs_small n h3 h8 _ (mem_chs hg)
    exact fun h2 => h (by rw [h2])
  have hempty : s.toList.isEmpty = false := by
    rw [empty_lets, decide_eq_false_iff_not]
    intro h
    rw [h] at hg
    simp [goodL] at hg
  have hM := dash_lets s
  generalize cf n (lets s) = F at *
  have HROW := Lib.hid hrow
  have HNE := Lib.hid hne
  have HE := Lib.hid he
  clear hg hrow hne he
  by_cases hd : lets s = [45]
  · have hM' : (s.toList == [45]) = true := by rw [hM, decide_eq_true hd]
    rw [if_pos hd] at hw
    have hw : walkC n 0 (rdf n) (lets ⟨#[]⟩) = some e := hw
    have HW := Lib.hid hw
    clear hw hd hM
    go_enter Try.func137, Try.ntmps137
    go_wp2_with (first | (go_at_call 156; refine (goodStage_any _ _).mono ?_; rintro e w' ⟨rfl, rfl⟩))
    refine (roundsDigits_any n h8 _).mono ?_
    rintro e1 w1 ⟨rfl, hb1⟩
    have hR1 : RowAt w1 w.heap.size 87 zero8 := (RowAt.new w _ zero8).kept hb1
    have hB1 : Below w.heap.size w w1 := ((Below.refl _ w).alloc (Nat.le_refl _) _).trans (hb1.mono (by simp))
    have hlt1 := hR1.lt
    have HR1 := Lib.hid hR1
    have HB1 := Lib.hid hB1
    clear hR1 hB1 hb1
    go_wp2_with (refine wpList_store_row rfl 87 _ _ rfl _ _ rfl rfl 87 _ (heap_at _ _ _ (by simp)) (by kernel_rfl) rfl (by kernel_rfl) ?_; rw [setRow_at _ _ _ _ _ (by simp)])
    have hI0 : ((w1.alloc (.cells (dig8 (rdf n)) 87)).iter (⟨#[]⟩ : ByteArray) 0).heap[w1.heap.size + 1]? = some (.stringIter (⟨#[]⟩ : ByteArray) 0) := by
      have := World.iter_heap (w1.alloc (.cells (dig8 (rdf n)) 87)) (⟨#[]⟩ : ByteArray) 0
      simpa using this
    have hD0 : RowAt ((w1.alloc (.cells (dig8 (rdf n)) 87)).iter (⟨#[]⟩ : ByteArray) 0) w1.heap.size 87 (dig8 (rdf n)) := (RowAt.new w1 _ _).push _
    have hR0 : RowAt ((w1.alloc (.cells (dig8 (rdf n)) 87)).iter (⟨#[]⟩ : ByteArray) 0) w.heap.size 87 zero8 := (HR1.out.push _).push _
    have hB0 : Below w.heap.size w ((w1.alloc (.cells (dig8 (rdf n)) 87)).iter (⟨#[]⟩ : ByteArray) 0) := (HB1.out.alloc (by omega) _).alloc (by simp; omega) _
    have HI0 := Lib.hid hI0
    have HD0 := Lib.hid hD0
    have HR0 := Lib.hid hR0
    have HB0 := Lib.hid hB0
    clear hI0 hD0 hR0 hB0 HR1 HB1
    go_loopg [8] ((⟨#[]⟩ : ByteArray)).size (fun q nx wr => ∃ (pos last : Nat) (d : Nat → Nat), pos ≤ ((⟨#[]⟩ : ByteArray)).size ∧ q + pos = ((⟨#[]⟩ : ByteArray)).size ∧ nx = .int .i64 ((last : Int) + 1) ∧ last ≤ n ∧ walkC n last d ((lets (⟨#[]⟩ : ByteArray)).drop pos) = some e ∧ wr.heap[w1.heap.size + 1]? = some (.stringIter (⟨#[]⟩ : ByteArray) pos) ∧ RowAt wr w1.heap.size 87 (dig8 d) ∧ RowAt wr w.heap.size 87 zero8 ∧ Below w.heap.size w wr)
    case atStart => exact ⟨0, 0, rdf n, Nat.zero_le _, rfl, rfl, Nat.zero_le _, by simpa using HW.out, HI0.out, HD0.out, HR0.out, HB0.out⟩
    case round =>
      clear HI0 HD0 HR0 HB0 HW
      obtain ⟨pos, last, d, hpos, hq, rfl, hln, hwk, hI, hD, hR, hB⟩ := hrel
      have HQ := Lib.hid hq
      have HI := Lib.hid hI
      have HD := Lib.hid hD
      have HR := Lib.hid hR
      have HB := Lib.hid hB
      have hKlt : w1.heap.size + 1 < wr.heap.size := (Array.getElem?_eq_some_iff.1 hI).1
      clear hq hI hD hR hB
      by_cases hlt : pos < ((⟨#[]⟩ : ByteArray)).size
      · exact absurd hlt (Nat.not_lt_zero _)
      · obtain rfl : pos = ((⟨#[]⟩ : ByteArray)).size := by omega
        have hnx := fun ty => Lib.run_next_end_at (P := Try.prog) wr (w1.heap.size + 1) (⟨#[]⟩ : ByteArray) ((⟨#[]⟩ : ByteArray)).size ty HI.out hlt
        rw [lets_all] at hwk
        unfold walkC at hwk
        by_cases h2 : (n - last) % 2 = 0
        · rw [if_pos h2] at hwk
          cases hwk
          have HEV := Lib.hid h2
          clear h2
          go_wp2_with (first | (refine wpList_load_row rfl 87 _ rfl _ rfl 87 _ _ _ HD.out Try.underlying87 rfl (by kernel_rfl) ?_) | fail)
          refine (swapped_yes d last n hln h8 HEV.out _ _ rfl rfl _).mono ?_
          rintro e2 w2 ⟨rfl, hb2⟩
          have hD2 := HD.out.kept hb2
          have hR2 := HR.out.kept hb2
          have hB2 := HB.out.trans (hb2.mono HB.out.size)
          have e8 : dig8 (swF d last n) = dig8 F := dig8_congr fun i hi => to8_at HE.out i hi
          have HD2 := Lib.hid hD2
          have HR2 := Lib.hid hR2
          have HB2 := Lib.hid hB2
          rw [e8]
          clear hD2 hR2 hB2 hb2 HD HR HB e8 HE
          go_wp2_with (refine wpList_store_row rfl 87 _ _ rfl _ _ rfl rfl 87 _ HD2.out (by kernel_rfl) rfl (by kernel_rfl) ?_)
          have hD3 := HD2.out.row (dig8 F)
          have hR3 := HR2.out.rowOther (dig8 F) (show w.heap.size ≠ w1.heap.size by omega)
          have hB3 := below_setRow HB2.out (g := w1.heap.size) (by omega) (dig8 F)
          generalize w2.setRow w1.heap.size (dig8 F) = w3 at *
          have hld : ∀ W : World, RowAt W w1.heap.size 87 (dig8 F) → W.cell? ⟨w1.heap.size, 0, none⟩ = some (.int .u8 (F 0)) ∧ W.cell? ⟨w1.heap.size, 1, none⟩ = some (.int .u8 (F 1)) ∧ W.cell? ⟨w1.heap.size, 2, none⟩ = some (.int .u8 (F 2)) ∧ W.cell? ⟨w1.heap.size, 3, none⟩ = some (.int .u8 (F 3)) ∧ W.cell? ⟨w1.heap.size, 4, none⟩ = some (.int .u8 (F 4)) ∧ W.cell? ⟨w1.heap.size, 5, none⟩ = some (.int .u8 (F 5)) ∧ W.cell? ⟨w1.heap.size, 6, none⟩ = some (.int .u8 (F 6)) ∧ W.cell? ⟨w1.heap.size, 7, none⟩ = some (.int .u8 (F 7)) := fun W hW => ⟨hW.cell 0 rfl, hW.cell 1 rfl, hW.cell 2 rfl, hW.cell 3 rfl, hW.cell 4 rfl, hW.cell 5 rfl, hW.cell 6 rfl, hW.cell 7 rfl⟩
          have hS3 : RowAt w3.drew w.heap.size 87 zero8 ∧ Below w.heap.size w w3.drew ∧ RowAt w3.drew w1.heap.size 87 (dig8 F) ∧ w3.drew.cell? ⟨w1.heap.size, 0, none⟩ = some (.int .u8 (F 0)) ∧ w3.drew.cell? ⟨w1.heap.size, 1, none⟩ = some (.int .u8 (F 1)) ∧ w3.drew.cell? ⟨w1.heap.size, 2, none⟩ = some (.int .u8 (F 2)) ∧ w3.drew.cell? ⟨w1.heap.size, 3, none⟩ = some (.int .u8 (F 3)) ∧ w3.drew.cell? ⟨w1.heap.size, 4, none⟩ = some (.int .u8 (F 4)) ∧ w3.drew.cell? ⟨w1.heap.size, 5, none⟩ = some (.int .u8 (F 5)) ∧ w3.drew.cell? ⟨w1.heap.size, 6, none⟩ = some (.int .u8 (F 6)) ∧ w3.drew.cell? ⟨w1.heap.size, 7, none⟩ = some (.int .u8 (F 7)) := ⟨hR3, hB3.drew, hD3, hld _ hD3⟩
          have hS4 : ∀ w4, Below w3.drew.heap.size w3.drew w4 → RowAt w4 w.heap.size 87 zero8 ∧ Below w.heap.size w w4 ∧ RowAt w4 w1.heap.size 87 (dig8 F) ∧ w4.cell? ⟨w1.heap.size, 0, none⟩ = some (.int .u8 (F 0)) ∧ w4.cell? ⟨w1.heap.size, 1, none⟩ = some (.int .u8 (F 1)) ∧ w4.cell? ⟨w1.heap.size, 2, none⟩ = some (.int .u8 (F 2)) ∧ w4.cell? ⟨w1.heap.size, 3, none⟩ = some (.int .u8 (F 3)) ∧ w4.cell? ⟨w1.heap.size, 4, none⟩ = some (.int .u8 (F 4)) ∧ w4.cell? ⟨w1.heap.size, 5, none⟩ = some (.int .u8 (F 5)) ∧ w4.cell? ⟨w1.heap.size, 6, none⟩ = some (.int .u8 (F 6)) ∧ w4.cell? ⟨w1.heap.size, 7, none⟩ = some (.int .u8 (F 7)) := fun w4 hb => ⟨hS3.1.kept hb, hS3.2.1.trans (hb.mono hS3.2.1.size), hS3.2.2.1.kept hb, hld _ (hS3.2.2.1.kept hb)⟩
          have HS3 := Lib.hid hS3
          have HS4 := Lib.hid hS4
          clear hS3 hS4 hld
          have heq : ∀ W, (binOp .eql 87 (.agg #[.int .u8 (F 0), .int .u8 (F 1), .int .u8 (F 2), .int .u8 (F 3), .int .u8 (F 4), .int .u8 (F 5), .int .u8 (F 6), .int .u8 (F 7)]) (.agg (dig8 (rdf n)))).run Try.prog W = .ok (.bool false) W := fun W => run_eql_dig8 W F (rdf n) HROW.out.byte (isRow_rdf h3 h8).byte _ (dig8_other HROW.out (isRow_rdf h3 h8) HNE.out)
          clear hD3 hR3 hB3 HD2 HR2 HB2
          go_region_held3 (fun w' => RowAt w' w.heap.size 87 zero8 ∧ Below w.heap.size w w' ∧ RowAt w' w1.heap.size 87 (dig8 F) ∧ w'.cell? ⟨w1.heap.size, 0, none⟩ = some (.int .u8 (F 0)) ∧ w'.cell? ⟨w1.heap.size, 1, none⟩ = some (.int .u8 (F 1)) ∧ w'.cell? ⟨w1.heap.size, 2, none⟩ = some (.int .u8 (F 2)) ∧ w'.cell? ⟨w1.heap.size, 3, none⟩ = some (.int .u8 (F 3)) ∧ w'.cell? ⟨w1.heap.size, 4, none⟩ = some (.int .u8 (F 4)) ∧ w'.cell? ⟨w1.heap.size, 5, none⟩ = some (.int .u8 (F 5)) ∧ w'.cell? ⟨w1.heap.size, 6, none⟩ = some (.int .u8 (F 6)) ∧ w'.cell? ⟨w1.heap.size, 7, none⟩ = some (.int .u8 (F 7))) (first | exact HS3.out | exact HS4.out _ hb4) (first | (go_at_call 143; refine (roundsDigits_any n h8 _).mono ?_; rintro e3 w4 ⟨rfl, hb4⟩) | fail)
          have hS := HS4.out _ hb4
          have HR5 := Lib.hid hS.1
          have HB5 := Lib.hid hS.2.1
          have HD5 := Lib.hid hS.2.2.1
          clear hS HS3 HS4 hb4
          go_wp2_with (first | (refine wpList_load_row rfl 87 _ rfl _ rfl 87 _ _ _ HD5.out Try.underlying87 rfl (by kernel_rfl) ?_) | (refine wpList_store_row rfl 87 _ _ rfl _ _ rfl rfl 87 _ HR5.out (by kernel_rfl) rfl (by kernel_rfl) ?_))
          exact bodyPost_ret (results_row_tmp rfl _ _ w.heap.size 87 (dig8 F) (0, 0) _ rfl (HR5.out.row _) Try.underlying87 rfl (by kernel_rfl)) rfl ⟨rfl, below_setRow HB5.out (Nat.le_refl _) _⟩
        · rw [if_neg h2] at hwk; cases hwk
  · have hM' : (s.toList == [45]) = false := by rw [hM, decide_eq_false hd]
    rw [if_neg hd] at hw
    have HW := Lib.hid hw
    clear hw hd hM
    go_enter Try.func137, Try.ntmps137
    go_wp2_with (first | (go_at_call 156; refine (goodStage_any _ _).mono ?_; rintro e w' ⟨rfl, rfl⟩))
    refine (roundsDigits_any n h8 _).mono ?_
    rintro e1 w1 ⟨rfl, hb1⟩
    have hR1 : RowAt w1 w.heap.size 87 zero8 := (RowAt.new w _ zero8).kept hb1
    have hB1 : Below w.heap.size w w1 := ((Below.refl _ w).alloc (Nat.le_refl _) _).trans (hb1.mono (by simp))
    have hlt1 := hR1.lt
    have HR1 := Lib.hid hR1
    have HB1 := Lib.hid hB1
    clear hR1 hB1 hb1
    go_wp2_with (refine wpList_store_row rfl 87 _ _ rfl _ _ rfl rfl 87 _ (heap_at _ _ _ (by simp)) (by kernel_rfl) rfl (by kernel_rfl) ?_; rw [setRow_at _ _ _ _ _ (by simp)])
    have hI0 : ((w1.alloc (.cells (dig8 (rdf n)) 87)).iter s 0).heap[w1.heap.size + 1]? = some (.stringIter s 0) := by
      have := World.iter_heap (w1.alloc (.cells (dig8 (rdf n)) 87)) s 0
      simpa using this
    have hD0 : RowAt ((w1.alloc (.cells (dig8 (rdf n)) 87)).iter s 0) w1.heap.size 87 (dig8 (rdf n)) := (RowAt.new w1 _ _).push _
    have hR0 : RowAt ((w1.alloc (.cells (dig8 (rdf n)) 87)).iter s 0) w.heap.size 87 zero8 := (HR1.out.push _).push _
    have hB0 : Below w.heap.size w ((w1.alloc (.cells (dig8 (rdf n)) 87)).iter s 0) := (HB1.out.alloc (by omega) _).alloc (by simp; omega) _
    have HI0 := Lib.hid hI0
    have HD0 := Lib.hid hD0
    have HR0 := Lib.hid hR0
    have HB0 := Lib.hid hB0
    clear hI0 hD0 hR0 hB0 HR1 HB1
    go_loopg [8] (s).size (fun q nx wr => ∃ (pos last : Nat) (d : Nat → Nat), pos ≤ (s).size ∧ q + pos = (s).size ∧ nx = .int .i64 ((last : Int) + 1) ∧ last ≤ n ∧ walkC n last d ((lets s).drop pos) = some e ∧ wr.heap[w1.heap.size + 1]? = some (.stringIter s pos) ∧ RowAt wr w1.heap.size 87 (dig8 d) ∧ RowAt wr w.heap.size 87 zero8 ∧ Below w.heap.size w wr)
    case atStart => exact ⟨0, 0, rdf n, Nat.zero_le _, rfl, rfl, Nat.zero_le _, by simpa using HW.out, HI0.out, HD0.out, HR0.out, HB0.out⟩
    case round =>
      clear HI0 HD0 HR0 HB0 HW
      obtain ⟨pos, last, d, hpos, hq, rfl, hln, hwk, hI, hD, hR, hB⟩ := hrel
      have HQ := Lib.hid hq
      have HI := Lib.hid hI
      have HD := Lib.hid hD
      have HR := Lib.hid hR
      have HB := Lib.hid hB
      have hKlt : w1.heap.size + 1 < wr.heap.size := (Array.getElem?_eq_some_iff.1 hI).1
      clear hq hI hD hR hB
      by_cases hlt : pos < (s).size
      · have hwk2 := hwk
        rw [lets_drop _ pos hlt] at hwk2
        unfold walkC at hwk2
        by_cases h1 : 48 + last + 1 ≤ dg s pos ∧ dg s pos ≤ 48 + n
        · rw [if_pos h1] at hwk2
          by_cases h2 : (dg s pos - 48 - last) % 2 = 1
          · rw [if_pos h2] at hwk2
            have hnx := fun ty => Lib.run_next_ascii_at (P := Try.prog) wr (w1.heap.size + 1) s pos ty HI.out hlt (by rw [dg_at _ pos hlt]; omega)
            rw [dg_at _ pos hlt] at hnx
            obtain ⟨p, hp⟩ : ∃ p : Nat, dg s pos = 48 + p := ⟨dg s pos - 48, by omega⟩
            rw [hp] at hnx hwk2
            have ep : ((48 + p : Nat) : Int) - 48 = p := by omega
            have a1 : (last : Int) + 1 ≤ p := by omega
            have a2 : (p : Int) ≤ n := by omega
            have HWK := Lib.hid hwk2
            have HEV := Lib.hid (show (p - 1 - last) % 2 = 0 by omega)
            have hI' := Lib.iterAt_heap wr (w1.heap.size + 1) s pos (pos + 1) HI.out
            have hD' : RowAt (wr.iterAt (w1.heap.size + 1) s (pos + 1)) w1.heap.size 87 (dig8 d) := (Lib.iterAt_other wr _ _ s (pos + 1) (by omega)).trans HD.out
            have hR' : RowAt (wr.iterAt (w1.heap.size + 1) s (pos + 1)) w.heap.size 87 zero8 := (Lib.iterAt_other wr _ _ s (pos + 1) (by omega)).trans HR.out
            have hB' := Lib.below_iterAt HB.out (k := w1.heap.size + 1) (by omega) s (pos + 1)
            have HI' := Lib.hid hI'
            have HD' := Lib.hid hD'
            have HR' := Lib.hid hR'
            have HB' := Lib.hid hB'
            clear hwk hwk2 h1 h2 hI' hD' hR' hB' HI HD HR HB
            go_wp2_with (first | (refine wpList_load_row rfl 87 _ rfl _ rfl 87 _ _ _ HD'.out Try.underlying87 rfl (by kernel_rfl) ?_) | fail)
            refine (swapped_yes d last (p - 1) (by omega) (by omega) HEV.out _ _ rfl (by omega) _).mono ?_
            rintro e2 w2 ⟨rfl, hb2⟩
            have hI2 := (hb2.block _ (by rw [Lib.iterAt_size]; exact hKlt)).trans HI'.out
            have hD2 := HD'.out.kept hb2
            have hR2 := HR'.out.kept hb2
            have hB2 := HB'.out.trans (hb2.mono HB'.out.size)
            have HI2 := Lib.hid hI2
            have HD2 := Lib.hid hD2
            have HR2 := Lib.hid hR2
            have HB2 := Lib.hid hB2
            clear hI2 hD2 hR2 hB2 hb2 HI' HD' HR' HB'
            go_wp2_with (refine wpList_store_row rfl 87 _ _ rfl _ _ rfl rfl 87 _ HD2.out (by kernel_rfl) rfl (by kernel_rfl) ?_)
            go_roundg ((s).size - (pos + 1))
            case measure => have := HQ.out; omega
            case rel =>
              refine ⟨pos + 1, p, _, hlt, by have := HQ.out; omega, by go_num, by omega, ?_, (setRow_other _ _ _ _ (by omega)).trans HI2.out, HD2.out.row _, HR2.out.rowOther _ (by omega), below_setRow HB2.out (by omega) _⟩
              have := HWK.out
              rw [show 48 + p - 48 = p by omega, show 48 + p - 49 = p - 1 by omega] at this
              exact this
          · rw [if_neg h2] at hwk2; cases hwk2
        · rw [if_neg h1] at hwk2; cases hwk2
      · obtain rfl : pos = (s).size := by omega
        have hnx := fun ty => Lib.run_next_end_at (P := Try.prog) wr (w1.heap.size + 1) s (s).size ty HI.out hlt
        rw [lets_all] at hwk
        unfold walkC at hwk
        by_cases h2 : (n - last) % 2 = 0
        · rw [if_pos h2] at hwk
          cases hwk
          have HEV := Lib.hid h2
          clear h2
          go_wp2_with (first | (refine wpList_load_row rfl 87 _ rfl _ rfl 87 _ _ _ HD.out Try.underlying87 rfl (by kernel_rfl) ?_) | fail)
          refine (swapped_yes d last n hln h8 HEV.out _ _ rfl rfl _).mono ?_
          rintro e2 w2 ⟨rfl, hb2⟩
          have hD2 := HD.out.kept hb2
          have hR2 := HR.out.kept hb2
          have hB2 := HB.out.trans (hb2.mono HB.out.size)
          have e8 : dig8 (swF d last n) = dig8 F := dig8_congr fun i hi => to8_at HE.out i hi
          have HD2 := Lib.hid hD2
          have HR2 := Lib.hid hR2
          have HB2 := Lib.hid hB2
          rw [e8]
          clear hD2 hR2 hB2 hb2 HD HR HB e8 HE
          go_wp2_with (refine wpList_store_row rfl 87 _ _ rfl _ _ rfl rfl 87 _ HD2.out (by kernel_rfl) rfl (by kernel_rfl) ?_)
          have hD3 := HD2.out.row (dig8 F)
          have hR3 := HR2.out.rowOther (dig8 F) (show w.heap.size ≠ w1.heap.size by omega)
          have hB3 := below_setRow HB2.out (g := w1.heap.size) (by omega) (dig8 F)
          generalize w2.setRow w1.heap.size (dig8 F) = w3 at *
          have hld : ∀ W : World, RowAt W w1.heap.size 87 (dig8 F) → W.cell? ⟨w1.heap.size, 0, none⟩ = some (.int .u8 (F 0)) ∧ W.cell? ⟨w1.heap.size, 1, none⟩ = some (.int .u8 (F 1)) ∧ W.cell? ⟨w1.heap.size, 2, none⟩ = some (.int .u8 (F 2)) ∧ W.cell? ⟨w1.heap.size, 3, none⟩ = some (.int .u8 (F 3)) ∧ W.cell? ⟨w1.heap.size, 4, none⟩ = some (.int .u8 (F 4)) ∧ W.cell? ⟨w1.heap.size, 5, none⟩ = some (.int .u8 (F 5)) ∧ W.cell? ⟨w1.heap.size, 6, none⟩ = some (.int .u8 (F 6)) ∧ W.cell? ⟨w1.heap.size, 7, none⟩ = some (.int .u8 (F 7)) := fun W hW => ⟨hW.cell 0 rfl, hW.cell 1 rfl, hW.cell 2 rfl, hW.cell 3 rfl, hW.cell 4 rfl, hW.cell 5 rfl, hW.cell 6 rfl, hW.cell 7 rfl⟩
          have hS3 : RowAt w3.drew w.heap.size 87 zero8 ∧ Below w.heap.size w w3.drew ∧ RowAt w3.drew w1.heap.size 87 (dig8 F) ∧ w3.drew.cell? ⟨w1.heap.size, 0, none⟩ = some (.int .u8 (F 0)) ∧ w3.drew.cell? ⟨w1.heap.size, 1, none⟩ = some (.int .u8 (F 1)) ∧ w3.drew.cell? ⟨w1.heap.size, 2, none⟩ = some (.int .u8 (F 2)) ∧ w3.drew.cell? ⟨w1.heap.size, 3, none⟩ = some (.int .u8 (F 3)) ∧ w3.drew.cell? ⟨w1.heap.size, 4, none⟩ = some (.int .u8 (F 4)) ∧ w3.drew.cell? ⟨w1.heap.size, 5, none⟩ = some (.int .u8 (F 5)) ∧ w3.drew.cell? ⟨w1.heap.size, 6, none⟩ = some (.int .u8 (F 6)) ∧ w3.drew.cell? ⟨w1.heap.size, 7, none⟩ = some (.int .u8 (F 7)) := ⟨hR3, hB3.drew, hD3, hld _ hD3⟩
          have hS4 : ∀ w4, Below w3.drew.heap.size w3.drew w4 → RowAt w4 w.heap.size 87 zero8 ∧ Below w.heap.size w w4 ∧ RowAt w4 w1.heap.size 87 (dig8 F) ∧ w4.cell? ⟨w1.heap.size, 0, none⟩ = some (.int .u8 (F 0)) ∧ w4.cell? ⟨w1.heap.size, 1, none⟩ = some (.int .u8 (F 1)) ∧ w4.cell? ⟨w1.heap.size, 2, none⟩ = some (.int .u8 (F 2)) ∧ w4.cell? ⟨w1.heap.size, 3, none⟩ = some (.int .u8 (F 3)) ∧ w4.cell? ⟨w1.heap.size, 4, none⟩ = some (.int .u8 (F 4)) ∧ w4.cell? ⟨w1.heap.size, 5, none⟩ = some (.int .u8 (F 5)) ∧ w4.cell? ⟨w1.heap.size, 6, none⟩ = some (.int .u8 (F 6)) ∧ w4.cell? ⟨w1.heap.size, 7, none⟩ = some (.int .u8 (F 7)) := fun w4 hb => ⟨hS3.1.kept hb, hS3.2.1.trans (hb.mono hS3.2.1.size), hS3.2.2.1.kept hb, hld _ (hS3.2.2.1.kept hb)⟩
          have HS3 := Lib.hid hS3
          have HS4 := Lib.hid hS4
          clear hS3 hS4 hld
          have heq : ∀ W, (binOp .eql 87 (.agg #[.int .u8 (F 0), .int .u8 (F 1), .int .u8 (F 2), .int .u8 (F 3), .int .u8 (F 4), .int .u8 (F 5), .int .u8 (F 6), .int .u8 (F 7)]) (.agg (dig8 (rdf n)))).run Try.prog W = .ok (.bool false) W := fun W => run_eql_dig8 W F (rdf n) HROW.out.byte (isRow_rdf h3 h8).byte _ (dig8_other HROW.out (isRow_rdf h3 h8) HNE.out)
          clear hD3 hR3 hB3 HD2 HR2 HB2
          go_region_held3 (fun w' => RowAt w' w.heap.size 87 zero8 ∧ Below w.heap.size w w' ∧ RowAt w' w1.heap.size 87 (dig8 F) ∧ w'.cell? ⟨w1.heap.size, 0, none⟩ = some (.int .u8 (F 0)) ∧ w'.cell? ⟨w1.heap.size, 1, none⟩ = some (.int .u8 (F 1)) ∧ w'.cell? ⟨w1.heap.size, 2, none⟩ = some (.int .u8 (F 2)) ∧ w'.cell? ⟨w1.heap.size, 3, none⟩ = some (.int .u8 (F 3)) ∧ w'.cell? ⟨w1.heap.size, 4, none⟩ = some (.int .u8 (F 4)) ∧ w'.cell? ⟨w1.heap.size, 5, none⟩ = some (.int .u8 (F 5)) ∧ w'.cell? ⟨w1.heap.size, 6, none⟩ = some (.int .u8 (F 6)) ∧ w'.cell? ⟨w1.heap.size, 7, none⟩ = some (.int .u8 (F 7))) (first | exact HS3.out | exact HS4.out _ hb4) (first | (go_at_call 143; refine (roundsDigits_any n h8 _).mono ?_; rintro e3 w4 ⟨rfl, hb4⟩) | fail)
          have hS := HS4.out _ hb4
          have HR5 := Lib.hid hS.1
          have HB5 := Lib.hid hS.2.1
          have HD5 := Lib.hid hS.2.2.1
          clear hS HS3 HS4 hb4
          go_wp2_with (first | (refine wpList_load_row rfl 87 _ rfl _ rfl 87 _ _ _ HD5.out Try.underlying87 rfl (by kernel_rfl) ?_) | (refine wpList_store_row rfl 87 _ _ rfl _ _ rfl rfl 87 _ HR5.out (by kernel_rfl) rfl (by kernel_rfl) ?_))
          exact bodyPost_ret (results_row_tmp rfl _ _ w.heap.size 87 (dig8 F) (0, 0) _ rfl (HR5.out.row _) Try.underlying87 rfl (by kernel_rfl)) rfl ⟨rfl, below_setRow HB5.out (Nat.le_refl _) _⟩
        · rw [if_neg h2] at hwk; cases hwk
end Go.Proofs.Ytkhglknpcajmiaa
namespace Go.Proofs.Ytkhglknpcajmiaa
open Go.RowKit

set_option maxRecDepth 100000 in
set_option maxHeartbeats 1000000 in
theorem changeDigits_walk (n : Nat) (s : ByteArray) (h3 : 3 ≤ n) (h8 : n ≤ 8) (hempty : s.toList.isEmpty = false) (res : Option (Nat → Nat)) (hw : walkC n 0 (rdf n) (if lets s = [45] then [] else lets s) = res) (hres : res = none ∨ ∃ e, res = some e ∧ to8 e = to8 (rdf n)) (w : World) :
    Calls Try.prog 137 #[.int .i64 n, .string s] w fun e w' => e = .returned (.tuple #[.agg zero8, .bool false]) ∧ Below w.heap.size w w' := by
  have h3' : (3 : Int) ≤ n := by omega
  have h8' : (n : Int) ≤ 8 := by omega
  have hM := dash_lets s
  by_cases hd : lets s = [45]
  · have hM' : (s.toList == [45]) = true := by rw [hM, decide_eq_true hd]
    rw [if_pos hd] at hw
    have hw : walkC n 0 (rdf n) (lets ⟨#[]⟩) = res := hw
    have HW := Lib.hid hw
    clear hw hd hM
    go_enter Try.func137, Try.ntmps137
    go_wp2_with (first | (go_at_call 156; refine (goodStage_any _ _).mono ?_; rintro e w' ⟨rfl, rfl⟩))
    refine (roundsDigits_any n h8 _).mono ?_
    rintro e1 w1 ⟨rfl, hb1⟩
    have hR1 : RowAt w1 w.heap.size 87 zero8 := (RowAt.new w _ zero8).kept hb1
    have hB1 : Below w.heap.size w w1 := ((Below.refl _ w).alloc (Nat.le_refl _) _).trans (hb1.mono (by simp))
    have hlt1 := hR1.lt
    have HR1 := Lib.hid hR1
    have HB1 := Lib.hid hB1
    clear hR1 hB1 hb1
    go_wp2_with (refine wpList_store_row rfl 87 _ _ rfl _ _ rfl rfl 87 _ (heap_at _ _ _ (by simp)) (by kernel_rfl) rfl (by kernel_rfl) ?_; rw [setRow_at _ _ _ _ _ (by simp)])
    have hI0 : ((w1.alloc (.cells (dig8 (rdf n)) 87)).iter (⟨#[]⟩ : ByteArray) 0).heap[w1.heap.size + 1]? = some (.stringIter (⟨#[]⟩ : ByteArray) 0) := by
      have := World.iter_heap (w1.alloc (.cells (dig8 (rdf n)) 87)) (⟨#[]⟩ : ByteArray) 0
      simpa using this
    have hD0 : RowAt ((w1.alloc (.cells (dig8 (rdf n)) 87)).iter (⟨#[]⟩ : ByteArray) 0) w1.heap.size 87 (dig8 (rdf n)) := (RowAt.new w1 _ _).push _
    have hR0 : RowAt ((w1.alloc (.cells (dig8 (rdf n)) 87)).iter (⟨#[]⟩ : ByteArray) 0) w.heap.size 87 zero8 := (HR1.out.push _).push _
    have hB0 : Below w.heap.size w ((w1.alloc (.cells (dig8 (rdf n)) 87)).iter (⟨#[]⟩ : ByteArray) 0) := (HB1.out.alloc (by omega) _).alloc (by simp; omega) _
    have HI0 := Lib.hid hI0
    have HD0 := Lib.hid hD0
    have HR0 := Lib.hid hR0
    have HB0 := Lib.hid hB0
    clear hI0 hD0 hR0 hB0 HR1 HB1
    go_loopg [8] ((⟨#[]⟩ : ByteArray)).size (fun q nx wr => ∃ (pos last : Nat) (d : Nat → Nat), pos ≤ ((⟨#[]⟩ : ByteArray)).size ∧ q + pos = ((⟨#[]⟩ : ByteArray)).size ∧ nx = .int .i64 ((last : Int) + 1) ∧ last ≤ n ∧ walkC n last d ((lets (⟨#[]⟩ : ByteArray)).drop pos) = res ∧ wr.heap[w1.heap.size + 1]? = some (.stringIter (⟨#[]⟩ : ByteArray) pos) ∧ RowAt wr w1.heap.size 87 (dig8 d) ∧ RowAt wr w.heap.size 87 zero8 ∧ Below w.heap.size w wr)
    case atStart => exact ⟨0, 0, rdf n, Nat.zero_le _, rfl, rfl, Nat.zero_le _, by simpa using HW.out, HI0.out, HD0.out, HR0.out, HB0.out⟩
    case round =>
      clear HI0 HD0 HR0 HB0 HW
      obtain ⟨pos, last, d, hpos, hq, rfl, hln, hwk, hI, hD, hR, hB⟩ := hrel
      have HQ := Lib.hid hq
      have HI := Lib.hid hI
      have HD := Lib.hid hD
      have HR := Lib.hid hR
      have HB := Lib.hid hB
      have hKlt : w1.heap.size + 1 < wr.heap.size := (Array.getElem?_eq_some_iff.1 hI).1
      clear hq hI hD hR hB
      by_cases hlt : pos < ((⟨#[]⟩ : ByteArray)).size
      · exact absurd hlt (Nat.not_lt_zero _)
      · obtain rfl : pos = ((⟨#[]⟩ : ByteArray)).size := by omega
        have hnx := fun ty => Lib.run_next_end_at (P := Try.prog) wr (w1.heap.size + 1) (⟨#[]⟩ : ByteArray) ((⟨#[]⟩ : ByteArray)).size ty HI.out hlt
        rw [lets_all] at hwk
        unfold walkC at hwk
        by_cases h2 : (n - last) % 2 = 0
        · rw [if_pos h2] at hwk
          have e8 : dig8 (swF d last n) = dig8 (rdf n) := by
            rcases hres with h | ⟨e, h, he⟩
            · rw [h] at hwk; cases hwk
            · rw [h] at hwk; cases hwk; exact dig8_congr fun i hi => to8_at he i hi
          have HEV := Lib.hid h2
          clear h2 hwk
          go_wp2_with (first | (refine wpList_load_row rfl 87 _ rfl _ rfl 87 _ _ _ HD.out Try.underlying87 rfl (by kernel_rfl) ?_) | fail)
          refine (swapped_yes d last n hln h8 HEV.out _ _ rfl rfl _).mono ?_
          rintro e2 w2 ⟨rfl, hb2⟩
          have hD2 := HD.out.kept hb2
          have hR2 := HR.out.kept hb2
          have hB2 := HB.out.trans (hb2.mono HB.out.size)
          have HD2 := Lib.hid hD2
          have HR2 := Lib.hid hR2
          have HB2 := Lib.hid hB2
          rw [e8]
          clear hD2 hR2 hB2 hb2 HD HR HB e8
          go_wp2_with (refine wpList_store_row rfl 87 _ _ rfl _ _ rfl rfl 87 _ HD2.out (by kernel_rfl) rfl (by kernel_rfl) ?_)
          have hD3 := HD2.out.row (dig8 (rdf n))
          have hR3 := HR2.out.rowOther (dig8 (rdf n)) (show w.heap.size ≠ w1.heap.size by omega)
          have hB3 := below_setRow HB2.out (g := w1.heap.size) (by omega) (dig8 (rdf n))
          generalize w2.setRow w1.heap.size (dig8 (rdf n)) = w3 at *
          have hld : ∀ W : World, RowAt W w1.heap.size 87 (dig8 (rdf n)) → W.cell? ⟨w1.heap.size, 0, none⟩ = some (.int .u8 (rdf n 0)) ∧ W.cell? ⟨w1.heap.size, 1, none⟩ = some (.int .u8 (rdf n 1)) ∧ W.cell? ⟨w1.heap.size, 2, none⟩ = some (.int .u8 (rdf n 2)) ∧ W.cell? ⟨w1.heap.size, 3, none⟩ = some (.int .u8 (rdf n 3)) ∧ W.cell? ⟨w1.heap.size, 4, none⟩ = some (.int .u8 (rdf n 4)) ∧ W.cell? ⟨w1.heap.size, 5, none⟩ = some (.int .u8 (rdf n 5)) ∧ W.cell? ⟨w1.heap.size, 6, none⟩ = some (.int .u8 (rdf n 6)) ∧ W.cell? ⟨w1.heap.size, 7, none⟩ = some (.int .u8 (rdf n 7)) := fun W hW => ⟨hW.cell 0 rfl, hW.cell 1 rfl, hW.cell 2 rfl, hW.cell 3 rfl, hW.cell 4 rfl, hW.cell 5 rfl, hW.cell 6 rfl, hW.cell 7 rfl⟩
          have hS3 : RowAt w3.drew w.heap.size 87 zero8 ∧ Below w.heap.size w w3.drew ∧ RowAt w3.drew w1.heap.size 87 (dig8 (rdf n)) ∧ w3.drew.cell? ⟨w1.heap.size, 0, none⟩ = some (.int .u8 (rdf n 0)) ∧ w3.drew.cell? ⟨w1.heap.size, 1, none⟩ = some (.int .u8 (rdf n 1)) ∧ w3.drew.cell? ⟨w1.heap.size, 2, none⟩ = some (.int .u8 (rdf n 2)) ∧ w3.drew.cell? ⟨w1.heap.size, 3, none⟩ = some (.int .u8 (rdf n 3)) ∧ w3.drew.cell? ⟨w1.heap.size, 4, none⟩ = some (.int .u8 (rdf n 4)) ∧ w3.drew.cell? ⟨w1.heap.size, 5, none⟩ = some (.int .u8 (rdf n 5)) ∧ w3.drew.cell? ⟨w1.heap.size, 6, none⟩ = some (.int .u8 (rdf n 6)) ∧ w3.drew.cell? ⟨w1.heap.size, 7, none⟩ = some (.int .u8 (rdf n 7)) := ⟨hR3, hB3.drew, hD3, hld _ hD3⟩
          have hS4 : ∀ w4, Below w3.drew.heap.size w3.drew w4 → RowAt w4 w.heap.size 87 zero8 ∧ Below w.heap.size w w4 ∧ RowAt w4 w1.heap.size 87 (dig8 (rdf n)) ∧ w4.cell? ⟨w1.heap.size, 0, none⟩ = some (.int .u8 (rdf n 0)) ∧ w4.cell? ⟨w1.heap.size, 1, none⟩ = some (.int .u8 (rdf n 1)) ∧ w4.cell? ⟨w1.heap.size, 2, none⟩ = some (.int .u8 (rdf n 2)) ∧ w4.cell? ⟨w1.heap.size, 3, none⟩ = some (.int .u8 (rdf n 3)) ∧ w4.cell? ⟨w1.heap.size, 4, none⟩ = some (.int .u8 (rdf n 4)) ∧ w4.cell? ⟨w1.heap.size, 5, none⟩ = some (.int .u8 (rdf n 5)) ∧ w4.cell? ⟨w1.heap.size, 6, none⟩ = some (.int .u8 (rdf n 6)) ∧ w4.cell? ⟨w1.heap.size, 7, none⟩ = some (.int .u8 (rdf n 7)) := fun w4 hb => ⟨hS3.1.kept hb, hS3.2.1.trans (hb.mono hS3.2.1.size), hS3.2.2.1.kept hb, hld _ (hS3.2.2.1.kept hb)⟩
          have HS3 := Lib.hid hS3
          have HS4 := Lib.hid hS4
          clear hS3 hS4 hld
          have heq : ∀ W, (binOp .eql 87 (.agg #[.int .u8 (rdf n 0), .int .u8 (rdf n 1), .int .u8 (rdf n 2), .int .u8 (rdf n 3), .int .u8 (rdf n 4), .int .u8 (rdf n 5), .int .u8 (rdf n 6), .int .u8 (rdf n 7)]) (.agg (dig8 (rdf n)))).run Try.prog W = .ok (.bool true) W := fun W => run_eql_dig8 W (rdf n) (rdf n) (isRow_rdf h3 h8).byte (isRow_rdf h3 h8).byte _ (dig8_same _)
          clear hD3 hR3 hB3 HD2 HR2 HB2
          go_region_held3 (fun w' => RowAt w' w.heap.size 87 zero8 ∧ Below w.heap.size w w' ∧ RowAt w' w1.heap.size 87 (dig8 (rdf n)) ∧ w'.cell? ⟨w1.heap.size, 0, none⟩ = some (.int .u8 (rdf n 0)) ∧ w'.cell? ⟨w1.heap.size, 1, none⟩ = some (.int .u8 (rdf n 1)) ∧ w'.cell? ⟨w1.heap.size, 2, none⟩ = some (.int .u8 (rdf n 2)) ∧ w'.cell? ⟨w1.heap.size, 3, none⟩ = some (.int .u8 (rdf n 3)) ∧ w'.cell? ⟨w1.heap.size, 4, none⟩ = some (.int .u8 (rdf n 4)) ∧ w'.cell? ⟨w1.heap.size, 5, none⟩ = some (.int .u8 (rdf n 5)) ∧ w'.cell? ⟨w1.heap.size, 6, none⟩ = some (.int .u8 (rdf n 6)) ∧ w'.cell? ⟨w1.heap.size, 7, none⟩ = some (.int .u8 (rdf n 7))) (first | exact HS3.out | exact HS4.out _ hb4) (first | (go_at_call 143; refine (roundsDigits_any n h8 _).mono ?_; rintro e3 w4 ⟨rfl, hb4⟩) | fail)
          have hS := HS4.out _ hb4
          have HR5 := Lib.hid hS.1
          have HB5 := Lib.hid hS.2.1
          clear hS HS3 HS4 hb4
          go_wp2_with (first | (refine wpList_store_row rfl 87 _ _ rfl _ _ rfl rfl 87 _ HR5.out (by kernel_rfl) rfl (by kernel_rfl) ?_))
          exact bodyPost_ret (results_row_tmp rfl _ _ w.heap.size 87 zero8 (0, 0) _ rfl (HR5.out.row _) Try.underlying87 rfl (by kernel_rfl)) rfl ⟨rfl, below_setRow HB5.out (Nat.le_refl _) _⟩
        · have HEV := Lib.hid h2
          clear hwk h2
          go_wp2_with (first | (refine wpList_load_row rfl 87 _ rfl _ rfl 87 _ _ _ HD.out Try.underlying87 rfl (by kernel_rfl) ?_) | fail)
          refine (swapped_no d last n hln h8 HEV.out _ _ rfl rfl _).mono ?_
          rintro e2 w2 ⟨rfl, hb2⟩
          have hD2 := HD.out.kept hb2
          have hR2 := (HR.out.kept hb2).rowOther zero8 (show w.heap.size ≠ w1.heap.size by omega)
          have hB2 := below_setRow (HB.out.trans (hb2.mono HB.out.size)) (g := w1.heap.size) (by omega) zero8
          have HD2 := Lib.hid hD2
          have HR2 := Lib.hid hR2
          have HB2 := Lib.hid hB2
          clear hD2 hR2 hB2 hb2 HD HR HB
          go_wp2_with (first | (refine wpList_store_row rfl 87 _ _ rfl _ _ rfl rfl 87 _ HD2.out (by kernel_rfl) rfl (by kernel_rfl) ?_) | fail)
          go_quiet (fail)
          have hR3 : RowAt ((w2.setRow w1.heap.size zero8).drewN nq) w.heap.size 87 zero8 := HR2.out
          have hB3 : Below w.heap.size w ((w2.setRow w1.heap.size zero8).drewN nq) := below_drewN HB2.out _
          generalize (w2.setRow w1.heap.size zero8).drewN nq = w5 at *
          have HR5 := Lib.hid hR3
          have HB5 := Lib.hid hB3
          clear hR3 hB3 HR2 HB2
          go_wp2_with (first | (refine wpList_store_row rfl 87 _ _ rfl _ _ rfl rfl 87 _ HR5.out (by kernel_rfl) rfl (by kernel_rfl) ?_))
          exact bodyPost_ret (results_row_tmp rfl _ _ w.heap.size 87 zero8 (0, 0) _ rfl (HR5.out.row _) Try.underlying87 rfl (by kernel_rfl)) rfl ⟨rfl, below_setRow HB5.out (Nat.le_refl _) _⟩
  · have hM' : (s.toList == [45]) = false := by rw [hM, decide_eq_false hd]
    rw [if_neg hd] at hw
    have HW := Lib.hid hw
    clear hw hd hM
    go_enter Try.func137, Try.ntmps137
    go_wp2_with (first | (go_at_call 156; refine (goodStage_any _ _).mono ?_; rintro e w' ⟨rfl, rfl⟩))
    refine (roundsDigits_any n h8 _).mono ?_
    rintro e1 w1 ⟨rfl, hb1⟩
    have hR1 : RowAt w1 w.heap.size 87 zero8 := (RowAt.new w _ zero8).kept hb1
    have hB1 : Below w.heap.size w w1 := ((Below.refl _ w).alloc (Nat.le_refl _) _).trans (hb1.mono (by simp))
    have hlt1 := hR1.lt
    have HR1 := Lib.hid hR1
    have HB1 := Lib.hid hB1
    clear hR1 hB1 hb1
    go_wp2_with (refine wpList_store_row rfl 87 _ _ rfl _ _ rfl rfl 87 _ (heap_at _ _ _ (by simp)) (by kernel_rfl) rfl (by kernel_rfl) ?_; rw [setRow_at _ _ _ _ _ (by simp)])
    have hI0 : ((w1.alloc (.cells (dig8 (rdf n)) 87)).iter s 0).heap[w1.heap.size + 1]? = some (.stringIter s 0) := by
      have := World.iter_heap (w1.alloc (.cells (dig8 (rdf n)) 87)) s 0
      simpa using this
    have hD0 : RowAt ((w1.alloc (.cells (dig8 (rdf n)) 87)).iter s 0) w1.heap.size 87 (dig8 (rdf n)) := (RowAt.new w1 _ _).push _
    have hR0 : RowAt ((w1.alloc (.cells (dig8 (rdf n)) 87)).iter s 0) w.heap.size 87 zero8 := (HR1.out.push _).push _
    have hB0 : Below w.heap.size w ((w1.alloc (.cells (dig8 (rdf n)) 87)).iter s 0) := (HB1.out.alloc (by omega) _).alloc (by simp; omega) _
    have HI0 := Lib.hid hI0
    have HD0 := Lib.hid hD0
    have HR0 := Lib.hid hR0
    have HB0 := Lib.hid hB0
    clear hI0 hD0 hR0 hB0 HR1 HB1
    go_loopg [8] (s).size (fun q nx wr => ∃ (pos last : Nat) (d : Nat → Nat), pos ≤ (s).size ∧ q + pos = (s).size ∧ nx = .int .i64 ((last : Int) + 1) ∧ last ≤ n ∧ walkC n last d ((lets s).drop pos) = res ∧ wr.heap[w1.heap.size + 1]? = some (.stringIter s pos) ∧ RowAt wr w1.heap.size 87 (dig8 d) ∧ RowAt wr w.heap.size 87 zero8 ∧ Below w.heap.size w wr)
    case atStart => exact ⟨0, 0, rdf n, Nat.zero_le _, rfl, rfl, Nat.zero_le _, by simpa using HW.out, HI0.out, HD0.out, HR0.out, HB0.out⟩
    case round =>
      clear HI0 HD0 HR0 HB0 HW
      obtain ⟨pos, last, d, hpos, hq, rfl, hln, hwk, hI, hD, hR, hB⟩ := hrel
      have HQ := Lib.hid hq
      have HI := Lib.hid hI
      have HD := Lib.hid hD
      have HR := Lib.hid hR
      have HB := Lib.hid hB
      have hKlt : w1.heap.size + 1 < wr.heap.size := (Array.getElem?_eq_some_iff.1 hI).1
      clear hq hI hD hR hB
      by_cases hlt : pos < (s).size
      · by_cases hasc : dg s pos < 128
        · have hnx := fun ty => Lib.run_next_ascii_at (P := Try.prog) wr (w1.heap.size + 1) s pos ty HI.out hlt (by rw [dg_at _ pos hlt]; omega)
          rw [dg_at _ pos hlt] at hnx
          have hI' := Lib.iterAt_heap wr (w1.heap.size + 1) s pos (pos + 1) HI.out
          have hD' : RowAt (wr.iterAt (w1.heap.size + 1) s (pos + 1)) w1.heap.size 87 (dig8 d) := (Lib.iterAt_other wr _ _ s (pos + 1) (by omega)).trans HD.out
          have hR' : RowAt (wr.iterAt (w1.heap.size + 1) s (pos + 1)) w.heap.size 87 zero8 := (Lib.iterAt_other wr _ _ s (pos + 1) (by omega)).trans HR.out
          have hB' := Lib.below_iterAt HB.out (k := w1.heap.size + 1) (by omega) s (pos + 1)
          have HI' := Lib.hid hI'
          have HD' := Lib.hid hD'
          have HR' := Lib.hid hR'
          have HB' := Lib.hid hB'
          clear hI' hD' hR' hB' HI HD HR HB
          have hwk2 := hwk
          rw [lets_drop _ pos hlt] at hwk2
          unfold walkC at hwk2
          by_cases h1 : 48 + last + 1 ≤ dg s pos ∧ dg s pos ≤ 48 + n
          · rw [if_pos h1] at hwk2
            obtain ⟨p, hp⟩ : ∃ p : Nat, dg s pos = 48 + p := ⟨dg s pos - 48, by omega⟩
            rw [hp] at hnx hwk2
            have ep : ((48 + p : Nat) : Int) - 48 = p := by omega
            have a1 : (last : Int) + 1 ≤ p := by omega
            have a2 : (p : Int) ≤ n := by omega
            by_cases h2 : (48 + p - 48 - last) % 2 = 1
            · rw [if_pos h2] at hwk2
              have HWK := Lib.hid hwk2
              have HEV := Lib.hid (show (p - 1 - last) % 2 = 0 by omega)
              clear hwk hwk2 h1 h2
              go_wp2_with (first | (refine wpList_load_row rfl 87 _ rfl _ rfl 87 _ _ _ HD'.out Try.underlying87 rfl (by kernel_rfl) ?_) | fail)
              refine (swapped_yes d last (p - 1) (by omega) (by omega) HEV.out _ _ rfl (by omega) _).mono ?_
              rintro e2 w2 ⟨rfl, hb2⟩
              have hI2 := (hb2.block _ (by rw [Lib.iterAt_size]; exact hKlt)).trans HI'.out
              have hD2 := HD'.out.kept hb2
              have hR2 := HR'.out.kept hb2
              have hB2 := HB'.out.trans (hb2.mono HB'.out.size)
              have HI2 := Lib.hid hI2
              have HD2 := Lib.hid hD2
              have HR2 := Lib.hid hR2
              have HB2 := Lib.hid hB2
              clear hI2 hD2 hR2 hB2 hb2 HI' HD' HR' HB'
              go_wp2_with (refine wpList_store_row rfl 87 _ _ rfl _ _ rfl rfl 87 _ HD2.out (by kernel_rfl) rfl (by kernel_rfl) ?_)
              go_roundg ((s).size - (pos + 1))
              case measure => have := HQ.out; omega
              case rel =>
                refine ⟨pos + 1, p, _, hlt, by have := HQ.out; omega, by go_num, by omega, ?_, (setRow_other _ _ _ _ (by omega)).trans HI2.out, HD2.out.row _, HR2.out.rowOther _ (by omega), below_setRow HB2.out (by omega) _⟩
                have := HWK.out
                rw [show 48 + p - 48 = p by omega, show 48 + p - 49 = p - 1 by omega] at this
                exact this
            · have HEV := Lib.hid (show ¬ (p - 1 - last) % 2 = 0 by omega)
              clear hwk hwk2 h1 h2
              go_wp2_with (first | (refine wpList_load_row rfl 87 _ rfl _ rfl 87 _ _ _ HD'.out Try.underlying87 rfl (by kernel_rfl) ?_) | fail)
              refine (swapped_no d last (p - 1) (by omega) (by omega) HEV.out _ _ rfl (by omega) _).mono ?_
              rintro e2 w2 ⟨rfl, hb2⟩
              have hD2 := HD'.out.kept hb2
              have hR2 := (HR'.out.kept hb2).rowOther zero8 (show w.heap.size ≠ w1.heap.size by omega)
              have hB2 := below_setRow (HB'.out.trans (hb2.mono HB'.out.size)) (g := w1.heap.size) (by omega) zero8
              have HD2 := Lib.hid hD2
              have HR2 := Lib.hid hR2
              have HB2 := Lib.hid hB2
              clear hD2 hR2 hB2 hb2 HI' HD' HR' HB'
              go_wp2_with (first | (refine wpList_store_row rfl 87 _ _ rfl _ _ rfl rfl 87 _ HD2.out (by kernel_rfl) rfl (by kernel_rfl) ?_) | (refine wpList_store_row rfl 87 _ _ rfl _ _ rfl rfl 87 _ HR2.out (by kernel_rfl) rfl (by kernel_rfl) ?_))
              exact bodyPost_ret (results_row_tmp rfl _ _ w.heap.size 87 zero8 (0, 0) _ rfl (HR2.out.row _) Try.underlying87 rfl (by kernel_rfl)) rfl ⟨rfl, below_setRow HB2.out (Nat.le_refl _) _⟩
          · clear hwk hwk2
            by_cases h1a : 48 + last + 1 ≤ dg s pos
            · have a2 : (n : Int) < (dg s pos : Int) - 48 := by omega
              clear h1
              go_wp2_with (refine wpList_store_row rfl 87 _ _ rfl _ _ rfl rfl 87 _ HR'.out (by kernel_rfl) rfl (by kernel_rfl) ?_)
              exact bodyPost_ret (results_row_tmp rfl _ _ w.heap.size 87 zero8 (0, 0) _ rfl (HR'.out.row _) Try.underlying87 rfl (by kernel_rfl)) rfl ⟨rfl, below_setRow HB'.out (Nat.le_refl _) _⟩
            · have a2 : (dg s pos : Int) - 48 < (last : Int) + 1 := by omega
              clear h1 h1a
              go_wp2_with (refine wpList_store_row rfl 87 _ _ rfl _ _ rfl rfl 87 _ HR'.out (by kernel_rfl) rfl (by kernel_rfl) ?_)
              exact bodyPost_ret (results_row_tmp rfl _ _ w.heap.size 87 zero8 (0, 0) _ rfl (HR'.out.row _) Try.underlying87 rfl (by kernel_rfl)) rfl ⟨rfl, below_setRow HB'.out (Nat.le_refl _) _⟩
        · have hhi := decode_high s pos hlt (by rw [dg_at _ pos hlt]; omega)
          have hle := decode_le s pos
          have hnx := fun ty => Lib.run_next_any_at (P := Try.prog) wr (w1.heap.size + 1) s pos ty HI.out hlt
          generalize (Utf8.decode s pos).1 = c at *
          generalize pos + (Utf8.decode s pos).2 = pos2 at *
          have hR' : RowAt (wr.iterAt (w1.heap.size + 1) s pos2) w.heap.size 87 zero8 := (Lib.iterAt_other wr _ _ s pos2 (by omega)).trans HR.out
          have hB' := Lib.below_iterAt HB.out (k := w1.heap.size + 1) (by omega) s pos2
          have HR' := Lib.hid hR'
          have HB' := Lib.hid hB'
          have a1 : (128 : Int) ≤ c := by have := hhi.1; omega
          have a2 : (c : Int) ≤ 2147483647 := by omega
          clear hR' hB' HI HD HR HB hwk hhi hle
          go_wp2_with (refine wpList_store_row rfl 87 _ _ rfl _ _ rfl rfl 87 _ HR'.out (by kernel_rfl) rfl (by kernel_rfl) ?_)
          exact bodyPost_ret (results_row_tmp rfl _ _ w.heap.size 87 zero8 (0, 0) _ rfl (HR'.out.row _) Try.underlying87 rfl (by kernel_rfl)) rfl ⟨rfl, below_setRow HB'.out (Nat.le_refl _) _⟩

      · obtain rfl : pos = (s).size := by omega
        have hnx := fun ty => Lib.run_next_end_at (P := Try.prog) wr (w1.heap.size + 1) s (s).size ty HI.out hlt
        rw [lets_all] at hwk
        unfold walkC at hwk
        by_cases h2 : (n - last) % 2 = 0
        · rw [if_pos h2] at hwk
          have e8 : dig8 (swF d last n) = dig8 (rdf n) := by
            rcases hres with h | ⟨e, h, he⟩
            · rw [h] at hwk; cases hwk
            · rw [h] at hwk; cases hwk; exact dig8_congr fun i hi => to8_at he i hi
          have HEV := Lib.hid h2
          clear h2 hwk
          go_wp2_with (first | (refine wpList_load_row rfl 87 _ rfl _ rfl 87 _ _ _ HD.out Try.underlying87 rfl (by kernel_rfl) ?_) | fail)
          refine (swapped_yes d last n hln h8 HEV.out _ _ rfl rfl _).mono ?_
          rintro e2 w2 ⟨rfl, hb2⟩
          have hD2 := HD.out.kept hb2
          have hR2 := HR.out.kept hb2
          have hB2 := HB.out.trans (hb2.mono HB.out.size)
          have HD2 := Lib.hid hD2
          have HR2 := Lib.hid hR2
          have HB2 := Lib.hid hB2
          rw [e8]
          clear hD2 hR2 hB2 hb2 HD HR HB e8
          go_wp2_with (refine wpList_store_row rfl 87 _ _ rfl _ _ rfl rfl 87 _ HD2.out (by kernel_rfl) rfl (by kernel_rfl) ?_)
          have hD3 := HD2.out.row (dig8 (rdf n))
          have hR3 := HR2.out.rowOther (dig8 (rdf n)) (show w.heap.size ≠ w1.heap.size by omega)
          have hB3 := below_setRow HB2.out (g := w1.heap.size) (by omega) (dig8 (rdf n))
          generalize w2.setRow w1.heap.size (dig8 (rdf n)) = w3 at *
          have hld : ∀ W : World, RowAt W w1.heap.size 87 (dig8 (rdf n)) → W.cell? ⟨w1.heap.size, 0, none⟩ = some (.int .u8 (rdf n 0)) ∧ W.cell? ⟨w1.heap.size, 1, none⟩ = some (.int .u8 (rdf n 1)) ∧ W.cell? ⟨w1.heap.size, 2, none⟩ = some (.int .u8 (rdf n 2)) ∧ W.cell? ⟨w1.heap.size, 3, none⟩ = some (.int .u8 (rdf n 3)) ∧ W.cell? ⟨w1.heap.size, 4, none⟩ = some (.int .u8 (rdf n 4)) ∧ W.cell? ⟨w1.heap.size, 5, none⟩ = some (.int .u8 (rdf n 5)) ∧ W.cell? ⟨w1.heap.size, 6, none⟩ = some (.int .u8 (rdf n 6)) ∧ W.cell? ⟨w1.heap.size, 7, none⟩ = some (.int .u8 (rdf n 7)) := fun W hW => ⟨hW.cell 0 rfl, hW.cell 1 rfl, hW.cell 2 rfl, hW.cell 3 rfl, hW.cell 4 rfl, hW.cell 5 rfl, hW.cell 6 rfl, hW.cell 7 rfl⟩
          have hS3 : RowAt w3.drew w.heap.size 87 zero8 ∧ Below w.heap.size w w3.drew ∧ RowAt w3.drew w1.heap.size 87 (dig8 (rdf n)) ∧ w3.drew.cell? ⟨w1.heap.size, 0, none⟩ = some (.int .u8 (rdf n 0)) ∧ w3.drew.cell? ⟨w1.heap.size, 1, none⟩ = some (.int .u8 (rdf n 1)) ∧ w3.drew.cell? ⟨w1.heap.size, 2, none⟩ = some (.int .u8 (rdf n 2)) ∧ w3.drew.cell? ⟨w1.heap.size, 3, none⟩ = some (.int .u8 (rdf n 3)) ∧ w3.drew.cell? ⟨w1.heap.size, 4, none⟩ = some (.int .u8 (rdf n 4)) ∧ w3.drew.cell? ⟨w1.heap.size, 5, none⟩ = some (.int .u8 (rdf n 5)) ∧ w3.drew.cell? ⟨w1.heap.size, 6, none⟩ = some (.int .u8 (rdf n 6)) ∧ w3.drew.cell? ⟨w1.heap.size, 7, none⟩ = some (.int .u8 (rdf n 7)) := ⟨hR3, hB3.drew, hD3, hld _ hD3⟩
          have hS4 : ∀ w4, Below w3.drew.heap.size w3.drew w4 → RowAt w4 w.heap.size 87 zero8 ∧ Below w.heap.size w w4 ∧ RowAt w4 w1.heap.size 87 (dig8 (rdf n)) ∧ w4.cell? ⟨w1.heap.size, 0, none⟩ = some (.int .u8 (rdf n 0)) ∧ w4.cell? ⟨w1.heap.size, 1, none⟩ = some (.int .u8 (rdf n 1)) ∧ w4.cell? ⟨w1.heap.size, 2, none⟩ = some (.int .u8 (rdf n 2)) ∧ w4.cell? ⟨w1.heap.size, 3, none⟩ = some (.int .u8 (rdf n 3)) ∧ w4.cell? ⟨w1.heap.size, 4, none⟩ = some (.int .u8 (rdf n 4)) ∧ w4.cell? ⟨w1.heap.size, 5, none⟩ = some (.int .u8 (rdf n 5)) ∧ w4.cell? ⟨w1.heap.size, 6, none⟩ = some (.int .u8 (rdf n 6)) ∧ w4.cell? ⟨w1.heap.size, 7, none⟩ = some (.int .u8 (rdf n 7)) := fun w4 hb => ⟨hS3.1.kept hb, hS3.2.1.trans (hb.mono hS3.2.1.size), hS3.2.2.1.kept hb, hld _ (hS3.2.2.1.kept hb)⟩
          have HS3 := Lib.hid hS3
          have HS4 := Lib.hid hS4
          clear hS3 hS4 hld
          have heq : ∀ W, (binOp .eql 87 (.agg #[.int .u8 (rdf n 0), .int .u8 (rdf n 1), .int .u8 (rdf n 2), .int .u8 (rdf n 3), .int .u8 (rdf n 4), .int .u8 (rdf n 5), .int .u8 (rdf n 6), .int .u8 (rdf n 7)]) (.agg (dig8 (rdf n)))).run Try.prog W = .ok (.bool true) W := fun W => run_eql_dig8 W (rdf n) (rdf n) (isRow_rdf h3 h8).byte (isRow_rdf h3 h8).byte _ (dig8_same _)
          clear hD3 hR3 hB3 HD2 HR2 HB2
          go_region_held3 (fun w' => RowAt w' w.heap.size 87 zero8 ∧ Below w.heap.size w w' ∧ RowAt w' w1.heap.size 87 (dig8 (rdf n)) ∧ w'.cell? ⟨w1.heap.size, 0, none⟩ = some (.int .u8 (rdf n 0)) ∧ w'.cell? ⟨w1.heap.size, 1, none⟩ = some (.int .u8 (rdf n 1)) ∧ w'.cell? ⟨w1.heap.size, 2, none⟩ = some (.int .u8 (rdf n 2)) ∧ w'.cell? ⟨w1.heap.size, 3, none⟩ = some (.int .u8 (rdf n 3)) ∧ w'.cell? ⟨w1.heap.size, 4, none⟩ = some (.int .u8 (rdf n 4)) ∧ w'.cell? ⟨w1.heap.size, 5, none⟩ = some (.int .u8 (rdf n 5)) ∧ w'.cell? ⟨w1.heap.size, 6, none⟩ = some (.int .u8 (rdf n 6)) ∧ w'.cell? ⟨w1.heap.size, 7, none⟩ = some (.int .u8 (rdf n 7))) (first | exact HS3.out | exact HS4.out _ hb4) (first | (go_at_call 143; refine (roundsDigits_any n h8 _).mono ?_; rintro e3 w4 ⟨rfl, hb4⟩) | fail)
          have hS := HS4.out _ hb4
          have HR5 := Lib.hid hS.1
          have HB5 := Lib.hid hS.2.1
          clear hS HS3 HS4 hb4
          go_wp2_with (first | (refine wpList_store_row rfl 87 _ _ rfl _ _ rfl rfl 87 _ HR5.out (by kernel_rfl) rfl (by kernel_rfl) ?_))
          exact bodyPost_ret (results_row_tmp rfl _ _ w.heap.size 87 zero8 (0, 0) _ rfl (HR5.out.row _) Try.underlying87 rfl (by kernel_rfl)) rfl ⟨rfl, below_setRow HB5.out (Nat.le_refl _) _⟩
        · have HEV := Lib.hid h2
          clear hwk h2
          go_wp2_with (first | (refine wpList_load_row rfl 87 _ rfl _ rfl 87 _ _ _ HD.out Try.underlying87 rfl (by kernel_rfl) ?_) | fail)
          refine (swapped_no d last n hln h8 HEV.out _ _ rfl rfl _).mono ?_
          rintro e2 w2 ⟨rfl, hb2⟩
          have hD2 := HD.out.kept hb2
          have hR2 := (HR.out.kept hb2).rowOther zero8 (show w.heap.size ≠ w1.heap.size by omega)
          have hB2 := below_setRow (HB.out.trans (hb2.mono HB.out.size)) (g := w1.heap.size) (by omega) zero8
          have HD2 := Lib.hid hD2
          have HR2 := Lib.hid hR2
          have HB2 := Lib.hid hB2
          clear hD2 hR2 hB2 hb2 HD HR HB
          go_wp2_with (first | (refine wpList_store_row rfl 87 _ _ rfl _ _ rfl rfl 87 _ HD2.out (by kernel_rfl) rfl (by kernel_rfl) ?_) | fail)
          go_quiet (fail)
          have hR3 : RowAt ((w2.setRow w1.heap.size zero8).drewN nq) w.heap.size 87 zero8 := HR2.out
          have hB3 : Below w.heap.size w ((w2.setRow w1.heap.size zero8).drewN nq) := below_drewN HB2.out _
          generalize (w2.setRow w1.heap.size zero8).drewN nq = w5 at *
          have HR5 := Lib.hid hR3
          have HB5 := Lib.hid hB3
          clear hR3 hB3 HR2 HB2
          go_wp2_with (first | (refine wpList_store_row rfl 87 _ _ rfl _ _ rfl rfl 87 _ HR5.out (by kernel_rfl) rfl (by kernel_rfl) ?_))
          exact bodyPost_ret (results_row_tmp rfl _ _ w.heap.size 87 zero8 (0, 0) _ rfl (HR5.out.row _) Try.underlying87 rfl (by kernel_rfl)) rfl ⟨rfl, below_setRow HB5.out (Nat.le_refl _) _⟩
end Go.Proofs.Ytkhglknpcajmiaa
namespace Go.Proofs.Ytkhglknpcajmiaa
open Go.RowKit

theorem goodC_stage {n : Int} {s : ByteArray} (h : goodC n s = true) : ∃ m : Nat, n = m ∧ goodL m (lets s) = true := by
  simp only [goodC, Bool.and_eq_true, decide_eq_true_eq] at h
  exact ⟨n.toNat, by omega, h.2⟩

set_option maxRecDepth 100000 in
set_option maxHeartbeats 1000000 in
theorem changeDigits_no (n : Int) (s : ByteArray) (hg : goodC n s = false) (w : World) :
    Calls Try.prog 137 #[.int .i64 n, .string s] w fun e w' => e = .returned (.tuple #[.agg zero8, .bool false]) ∧ Below w.heap.size w w' := by
  by_cases hn : 3 ≤ n ∧ n ≤ 8
  · obtain ⟨m, rfl⟩ : ∃ m : Nat, n = m := ⟨n.toNat, by omega⟩
    have h3 : 3 ≤ m := by omega
    have h8 : m ≤ 8 := by omega
    rw [goodC_in] at hg
    by_cases he : lets s = []
    · have hE : s.toList.isEmpty = true := by rw [empty_lets, he]; rfl
      have h3' : (3 : Int) ≤ m := by omega
      have h8' : (m : Int) ≤ 8 := by omega
      have HR := Lib.hid (RowAt.new w 87 zero8)
      clear hg he hn
      go_enter Try.func137, Try.ntmps137
      go_wp2_with (first | (go_at_call 156; refine (goodStage_any _ _).mono ?_; rintro e w' ⟨rfl, rfl⟩) | (refine wpList_store_row rfl 87 _ _ rfl _ _ rfl rfl 87 _ HR.out (by kernel_rfl) rfl (by kernel_rfl) ?_))
      exact bodyPost_ret (results_row_tmp rfl _ _ w.heap.size 87 zero8 (0, 0) _ rfl (HR.out.row _) Try.underlying87 rfl (by kernel_rfl)) rfl ⟨rfl, below_setRow ((Below.refl _ w).alloc (Nat.le_refl _) _) (Nat.le_refl _) _⟩
    · exact changeDigits_walk m s h3 h8 (by rw [empty_lets, decide_eq_false he]) _ rfl (walk_bad m h3 h8 _ he hg) w
  · have hd : (decide (3 ≤ n) && decide (n ≤ 8)) = false := by simp; omega
    have HR := Lib.hid (RowAt.new w 87 zero8)
    clear hg hn
    go_enter Try.func137, Try.ntmps137
    go_wp2_with (first | (go_at_call 156; refine (goodStage_any _ _).mono ?_; rintro e w' ⟨rfl, rfl⟩) | (refine wpList_store_row rfl 87 _ _ rfl _ _ rfl rfl 87 _ HR.out (by kernel_rfl) rfl (by kernel_rfl) ?_))
    exact bodyPost_ret (results_row_tmp rfl _ _ w.heap.size 87 zero8 (0, 0) _ rfl (HR.out.row _) Try.underlying87 rfl (by kernel_rfl)) rfl ⟨rfl, below_setRow ((Below.refl _ w).alloc (Nat.le_refl _) _) (Nat.le_refl _) _⟩

/-- the digits that the program makes of a text -/
def chF (n : Int) (s : ByteArray) : Nat → Nat := if goodC n s = true then cf n.toNat (lets s) else fun _ => 0
theorem chF_yes {n : Nat} {s : ByteArray} (h : goodL n (lets s) = true) : chF n s = cf n (lets s) := by
  unfold chF
  rw [if_pos (by rw [goodC_in]; exact h)]
  rfl
/-- both in one -/
theorem changeDigits_any (n : Int) (s : ByteArray) (w : World) :
    Calls Try.prog 137 #[.int .i64 n, .string s] w fun e w' => e = .returned (.tuple #[.agg (dig8 (chF n s)), .bool (goodC n s)]) ∧ Below w.heap.size w w' := by
  cases h : goodC n s
  · refine (changeDigits_no n s h w).mono ?_
    rintro e w' ⟨rfl, hb⟩
    refine ⟨?_, hb⟩
    unfold chF
    rw [h]
    rfl
  · obtain ⟨m, rfl, hg⟩ := goodC_stage h
    refine (changeDigits_yes m s hg w).mono ?_
    rintro e w' ⟨rfl, hb⟩
    rw [chF_yes hg]
    exact ⟨rfl, hb⟩

end Go.Proofs.Ytkhglknpcajmiaa
namespace Go.Proofs.Ytkhglknpcajmiaa

/-- the model's row of a change, from place p on (k: rounds left) -/
def mR (n : Nat) (l : List Nat) : Nat → Nat → (Nat → Nat) → (Nat → Nat)
  | 0, _, h => h
  | k + 1, p, h => if p < n then (if l.contains (48 + p) then mR n l k (p + 1) h else mR n l k (p + 2) (setF (setF h (p - 1) (49 + p)) p (48 + p))) else h
theorem mR_end (n : Nat) (l : List Nat) (k p : Nat) (h : Nat → Nat) (hp : ¬ p < n) : mR n l k p h = h := by
  cases k <;> simp [mR, hp]
/-- the model's places from p on -/
def mP (n : Nat) (l : List Nat) : Nat → Nat → List Nat
  | 0, _ => []
  | k + 1, p => if p ≤ n then (if l.contains (48 + p) then p :: mP n l k (p + 1) else mP n l k (p + 1)) else []
theorem mP_end (n : Nat) (l : List Nat) (k p : Nat) (hp : ¬ p ≤ n) : mP n l k p = [] := by
  cases k <;> simp [mP, hp]
/-- the model's swaps from p on -/
def mS (n : Nat) (l : List Nat) : Nat → Nat → List Nat
  | 0, _ => []
  | k + 1, p => if p < n then (if l.contains (48 + p) then mS n l k (p + 1) else p :: mS n l k (p + 2)) else []
theorem mS_end (n : Nat) (l : List Nat) (k p : Nat) (hp : ¬ p < n) : mS n l k p = [] := by
  cases k <;> simp [mS, hp]
/-- the program's places: from the digits -/
def iP (n : Nat) (f : Nat → Nat) : Nat → Nat → List Nat
  | 0, _ => []
  | k + 1, i => if i < n then (if f i = 49 + i then (i + 1) :: iP n f k (i + 1) else iP n f k (i + 1)) else []
theorem iP_end (n : Nat) (f : Nat → Nat) (k i : Nat) (hi : ¬ i < n) : iP n f k i = [] := by
  cases k <;> simp [iP, hi]
/-- the program's swaps: from the digits -/
def iS (n : Nat) (f : Nat → Nat) : Nat → Nat → List Nat
  | 0, _ => []
  | k + 1, i => if i < n - 1 then (if f (i + 1) < f i then (i + 1) :: iS n f k (i + 1) else iS n f k (i + 1)) else []
theorem iS_end (n : Nat) (f : Nat → Nat) (k i : Nat) (hi : ¬ i < n - 1) : iS n f k i = [] := by
  cases k <;> simp [iS, hi]
def placesOf (n : Nat) (l : List Nat) : List Nat := mP n l n 1
def swapsOf (n : Nat) (l : List Nat) : List Nat := mS n l n 1
theorem chs_roads (n : Nat) (h3 : 3 ≤ n) (h8 : n ≤ 8) : ∀ l ∈ chs n, to8 (mR n l n 1 (rdf n)) = to8 (cf n l) ∧ iP n (cf n l) n 0 = placesOf n l ∧ iS n (cf n l) n 0 = swapsOf n l ∧ (placesOf n l).length ≤ 8 ∧ (swapsOf n l).length ≤ 8 := by
  have : ∀ n, n < 9 → 3 ≤ n → ∀ l ∈ chs n, to8 (mR n l n 1 (rdf n)) = to8 (cf n l) ∧ iP n (cf n l) n 0 = placesOf n l ∧ iS n (cf n l) n 0 = swapsOf n l ∧ (placesOf n l).length ≤ 8 ∧ (swapsOf n l).length ≤ 8 := by decide +kernel
  exact this n (by omega) h3
end Go.Proofs.Ytkhglknpcajmiaa
namespace Go.Proofs.Ytkhglknpcajmiaa
open Go.RowKit

theorem isStr_rnds (n : Nat) (h8 : n ≤ 8) : IsStr n (rdf n) (rnds n) := by
  have e : rnds n = strOf n (rdf n) := strOf_congr (f := fun i => 49 + i) (g := rdf n) fun i hi => by simp [rdf, hi]
  rw [e]
  exact isStr_strOf n _ fun i hi => by simp only [rdf, hi, if_true]; omega

set_option maxRecDepth 100000 in
set_option maxHeartbeats 1000000 in
theorem l2Row_any (n : Nat) (s : ByteArray) (hs : s.size ≤ maxLen) (hg : goodL n (lets s) = true) (w : World) :
    Calls Try.prog 149 #[.int .i64 n, .string s] w fun e w' => e = .returned (.string (strOf n (cf n (lets s)))) ∧ Below w.heap.size w w' := by
  have h3 := goodL_three hg
  have h8 := goodL_eight hg
  have h3' : (3 : Int) ≤ n := by omega
  have h8' : (n : Int) ≤ 8 := by omega
  have hrd := (chs_roads n h3 h8 _ (mem_chs hg)).1
  generalize hres : mR n (lets s) n 1 (rdf n) = res at hrd
  have hstr : strOf n (cf n (lets s)) = strOf n res := strOf_congr fun i hi => (to8_at hrd i (by omega)).symm
  rw [hstr]
  clear hstr hrd hg
  have HS := Lib.hid hs
  have HRES := Lib.hid hres
  clear hs hres
  obtain ⟨cap, W1, hconv, hbytes, hbel⟩ := bytes_made (rnds n) w
  have hsz : (rnds n).size = n := by simp [rnds, ByteArray.size]
  have hdg : ∀ i, i < n → dg (rnds n) i = rdf n i := fun i hi => by
    have := (isStr_rnds n h8).2 i (by rw [hsz]; exact hi)
    simp only [dg, hsz, hi, dif_pos]
    exact this
  rw [hsz] at hconv hbytes
  have HY := Lib.hid (show BytesAt W1 w.heap.size n (rdf n) from ⟨hbytes.lt, fun i hi => by rw [← hdg i hi]; exact hbytes.cell i hi, hbytes.free⟩)
  have HB := Lib.hid hbel
  clear hbytes hbel hdg
  go_enter Try.func149, Try.ntmps149
  go_wp2_with (first | (go_at_call 101; refine (l1Rounds_any n h8 _).mono ?_; rintro e w' ⟨rfl, rfl⟩))
  clear hconv
  go_loopg [6] n (fun q i wr => ∃ (p : Nat) (h : Nat → Nat), n ≤ q + (p + 1) ∧ i = .int .i64 ((p : Int) + 1) ∧ p ≤ n ∧ mR n (lets s) q (p + 1) h = res ∧ BytesAt wr w.heap.size n h ∧ Below w.heap.size w wr)
  case atStart => exact ⟨0, rdf n, by omega, rfl, Nat.zero_le _, HRES.out, HY.out, HB.out⟩
  case round =>
    clear HY HB HRES
    obtain ⟨p, h, hq, rfl, hpn, hm, hY, hbel⟩ := hrel
    have HM := Lib.hid hm
    have HY := Lib.hid hY
    have HB := Lib.hid hbel
    clear hm hY hbel
    by_cases hlt : p + 1 < n
    · obtain ⟨q, rfl⟩ : ∃ q, gk = q + 1 := ⟨gk - 1, by omega⟩
      have hm := HM.out
      unfold mR at hm
      rw [if_pos hlt] at hm
      have hpi : (p : Int) + 1 < n := by omega
      cases hst : (lets s).contains (48 + (p + 1))
      · rw [hst] at hm
        have HM2 := Lib.hid hm
        have HST := Lib.hid hst
        clear hm HM hst
        have c1 := HY.out.cell p (by omega)
        have c2 := HY.out.cell (p + 1) hlt
        have f1 := HY.out.free p (by omega)
        have f2 := HY.out.free (p + 1) hlt
        go_wp2_with fail
        refine (l2Stays_any s HS.out (p + 1) _).mono ?_
        rintro e w' ⟨rfl, rfl⟩
        rw [HST.out]
        go_wp2
        go_roundg q
        case measure => omega
        case rel =>
          refine ⟨p + 2, setF (setF h p (49 + (p + 1))) (p + 1) (48 + (p + 1)), by omega, by go_num, by omega, HM2.out, ?_, (HB.out.setCell (by simp) _).setCell (by simp) _⟩
          rw [show (49 + ((p : Int) + 1)) = ((49 + (p + 1) : Nat) : Int) by omega, show (48 + ((p : Int) + 1)) = ((48 + (p + 1) : Nat) : Int) by omega]
          exact (HY.out.set p (49 + (p + 1)) (by omega)).set (p + 1) (48 + (p + 1)) hlt
      · rw [hst] at hm
        have HM2 := Lib.hid hm
        have HST := Lib.hid hst
        clear hm HM hst
        go_wp2_with fail
        refine (l2Stays_any s HS.out (p + 1) _).mono ?_
        rintro e w' ⟨rfl, rfl⟩
        rw [HST.out]
        go_wp2
        go_roundg q
        case measure => omega
        case rel => exact ⟨p + 1, h, by omega, by go_num, by omega, HM2.out, HY.out, HB.out⟩
    · have hpi : ¬ (p : Int) + 1 < n := by omega
      have hm := HM.out
      rw [mR_end n _ _ _ _ hlt] at hm
      subst hm
      have hconv := conv_dig wr w.heap.size n cap _ HY.out.cell
      go_wp2
      go_ret
      exact ⟨rfl, HB.out⟩

end Go.Proofs.Ytkhglknpcajmiaa
namespace Go.Proofs.Ytkhglknpcajmiaa
open Go.RowKit

/-- the row behind a change -/
def appF (r s : ByteArray) : ByteArray := strOf r.size (mulF (dg r) (cf r.size (lets s)))

set_option maxRecDepth 100000 in
set_option maxHeartbeats 1000000 in
theorem l2Apply_any (r s : ByteArray) (hs : s.size ≤ maxLen) (hr : goodB r = true) (hg : goodL r.size (lets s) = true) (w : World) :
    Calls Try.prog 119 #[.string r, .string s] w fun e w' => e = .returned (.string (appF r s)) ∧ Below w.heap.size w w' := by
  have HG := Lib.hid hg
  have HR := Lib.hid (goodB_row hr)
  have HC := Lib.hid (isRow_cf hg)
  clear hg hr
  go_enter Try.func119, Try.ntmps119
  go_wp2_with fail
  refine (l2Row_any r.size s hs HG.out _).mono ?_
  rintro e w1 ⟨rfl, hb1⟩
  go_wp2_with fail
  refine (l1Times_any r.size (dg r) (cf r.size (lets s)) r _ (isStr_dg r) (isStr_row HC.out) HC.out.eight (fun i hi => ⟨HC.out.lo i hi, HC.out.hi i hi⟩) _).mono ?_
  rintro e w2 ⟨rfl, rfl⟩
  go_wp2
  go_ret
  exact ⟨rfl, hb1⟩

set_option maxRecDepth 100000 in
set_option maxHeartbeats 1000000 in
theorem sApply_no (r s : ByteArray) (hr : r.size ≤ maxLen) (hs : s.size ≤ maxLen) (h : (goodB r && goodC r.size s) = false) (w : World) :
    Calls Try.prog 52 #[.string r, .string s] w fun e w' => e = .returned (.tuple #[.string ⟨#[]⟩, .bool false]) ∧ Below w.heap.size w w' := by
  cases hb : goodB r
  · have HB := Lib.hid hb
    clear h hb
    go_enter Try.func52, Try.ntmps52
    go_wp2_with fail
    refine (l1Row_any r hr _).mono ?_
    rintro e w1 ⟨rfl, hb1⟩
    rw [HB.out]
    go_wp2
    go_ret2
    exact ⟨rfl, hb1⟩
  · rw [hb] at h
    have HC := Lib.hid (show goodC r.size s = false from h)
    have HB := Lib.hid hb
    clear h hb
    go_enter Try.func52, Try.ntmps52
    go_wp2_with fail
    refine (l1Row_any r hr _).mono ?_
    rintro e w1 ⟨rfl, hb1⟩
    rw [HB.out]
    go_wp2_with fail
    refine (l2Change_any r.size s hs _).mono ?_
    rintro e w2 ⟨rfl, rfl⟩
    rw [HC.out]
    go_wp2
    go_ret2
    exact ⟨rfl, hb1⟩

set_option maxRecDepth 100000 in
set_option maxHeartbeats 1000000 in
theorem sApply_yes (r s : ByteArray) (hr : r.size ≤ maxLen) (hs : s.size ≤ maxLen) (hb : goodB r = true) (hg : goodL r.size (lets s) = true) (w : World) :
    Calls Try.prog 52 #[.string r, .string s] w fun e w' => e = .returned (.tuple #[.string (appF r s), .bool true]) ∧ Below w.heap.size w w' := by
  have HC := Lib.hid (show goodC r.size s = true by rw [goodC_in]; exact hg)
  have HB := Lib.hid hb
  have HG := Lib.hid hg
  clear hg hb
  go_enter Try.func52, Try.ntmps52
  go_wp2_with fail
  refine (l1Row_any r hr _).mono ?_
  rintro e w1 ⟨rfl, hb1⟩
  rw [HB.out]
  go_wp2_with fail
  refine (l2Change_any r.size s hs _).mono ?_
  rintro e w2 ⟨rfl, rfl⟩
  rw [HC.out]
  go_wp2_with fail
  refine (l2Apply_any r s hs HB.out HG.out _).mono ?_
  rintro e w3 ⟨rfl, hb3⟩
  go_wp2
  go_ret2
  exact ⟨rfl, hb1.trans (hb3.mono hb1.size)⟩

end Go.Proofs.Ytkhglknpcajmiaa
namespace Go.Proofs.Ytkhglknpcajmiaa
open Go.RowKit

/-- numbers as elements -/
def nums (xs : List Nat) : List Value := ints (xs.map fun (k : Nat) => (k : Int))
theorem nums_len (xs : List Nat) : (nums xs).length = xs.length := by simp [nums, ints]
theorem nums_snoc (xs : List Nat) (p : Nat) : nums xs ++ [.int .i64 p] = nums (xs ++ [p]) := by simp [nums, ints]

end Go.Proofs.Ytkhglknpcajmiaa
namespace Go.Proofs.Ytkhglknpcajmiaa
open Go.RowKit

end Go.Proofs.Ytkhglknpcajmiaa
namespace Go.Proofs.Ytkhglknpcajmiaa
open Go.RowKit

/-- new numbers, and a word -/
def NumsAny (xs : List Nat) (b : Bool) (w : World) (e : Ending) (w' : World) : Prop :=
  ∃ v, e = .returned (.tuple #[v, .bool b]) ∧ New w.heap.size w' 3 v (nums xs) ∧ Below w.heap.size w w'

/-- what SwapsOf gives, for whatever arguments -/
def anySwapsOf (n : Int) (s : ByteArray) : List Nat := if goodC n s = true then swapsOf n.toNat (lets s) else []
theorem anySwapsOf_len (n : Int) (s : ByteArray) : (anySwapsOf n s).length ≤ 8 := by
  unfold anySwapsOf
  split
  · rename_i h
    obtain ⟨m, rfl, hg⟩ := goodC_stage h
    have := chs_roads m (goodL_three hg) (goodL_eight hg) _ (mem_chs hg)
    exact this.2.2.2.2
  · simp

/-- what PlacesOf gives, for whatever arguments -/
def anyPlacesOf (n : Int) (s : ByteArray) : List Nat := if goodC n s = true then placesOf n.toNat (lets s) else []
theorem anyPlacesOf_len (n : Int) (s : ByteArray) : (anyPlacesOf n s).length ≤ 8 := by
  unfold anyPlacesOf
  split
  · rename_i h
    obtain ⟨m, rfl, hg⟩ := goodC_stage h
    have := chs_roads m (goodL_three hg) (goodL_eight hg) _ (mem_chs hg)
    exact this.2.2.2.1
  · simp

end Go.Proofs.Ytkhglknpcajmiaa
namespace Go.Proofs.Ytkhglknpcajmiaa

/-- the places that a row keeps, from place i (counted from 0) on, if its other bells swap in pairs -/
def ctx (n : Nat) (f : Nat → Nat) : Nat → Nat → Option (List Nat)
  | 0, _ => some []
  | k + 1, i => if i < n then (if f i = 49 + i then (ctx n f k (i + 1)).map ((49 + i) :: ·) else if i + 1 < n ∧ f i = 50 + i ∧ f (i + 1) = 49 + i then ctx n f k (i + 2) else none) else some []
theorem ctx_end (n : Nat) (f : Nat → Nat) (k i : Nat) (hi : ¬ i < n) : ctx n f k i = some [] := by
  cases k <;> simp [ctx, hi]
/-- the change that makes a row, as letters -/
def chText (n : Nat) (f : Nat → Nat) : Option (List Nat) :=
  if to8 f = to8 (rdf n) then none else match ctx n f n 0 with
    | none => none
    | some [] => some [45]
    | some (b :: t) => some (b :: t)
theorem ctx_spec (n : Nat) (f : Nat → Nat) : ∀ (k i : Nat) (t : List Nat), n ≤ i + k → i ≤ n → ctx n f k i = some t →
    (∀ b ∈ t, 49 + i ≤ b) ∧ (∀ last, last ≤ i → (i - last) % 2 = 0 → scanB n last t = true) ∧ ∀ j, i + j < n → (rowS n k i t).getD j 0 = f (i + j)
  | 0, i, t, h1, h2, h => by
    simp [ctx] at h
    subst h
    exact ⟨by simp, fun last hl hm => by have : i = n := by omega
                                         subst this; simp [scanB, hm], fun j hj => by omega⟩
  | k + 1, i, t, h1, h2, h => by
    unfold ctx at h
    by_cases hi : i < n
    · rw [if_pos hi] at h
      by_cases hp : f i = 49 + i
      · rw [if_pos hp, Option.map_eq_some_iff] at h
        obtain ⟨t', ht', rfl⟩ := h
        obtain ⟨a1, a2, a3⟩ := ctx_spec n f k (i + 1) t' (by omega) (by omega) ht'
        refine ⟨fun b hb => ?_, fun last hl hm => ?_, fun j hj => ?_⟩
        · rcases List.mem_cons.1 hb with rfl | hb
          · exact Nat.le_refl _
          · have := a1 b hb; omega
        · have := a2 (i + 1) (Nat.le_refl _) (by omega)
          simp only [scanB, Bool.and_eq_true, decide_eq_true_eq, beq_iff_eq]
          rw [show 49 + i - 48 = i + 1 by omega]
          exact ⟨⟨⟨by omega, by omega⟩, by omega⟩, this⟩
        · have hn : ¬ n ≤ i := by omega
          unfold rowS
          rw [if_neg hn]
          simp only [if_true]
          cases j with
          | zero => simp [hp]
          | succ j => have := a3 j (by omega); rw [show i + (j + 1) = i + 1 + j by omega]; simpa using this
      · rw [if_neg hp] at h
        by_cases hs : i + 1 < n ∧ f i = 50 + i ∧ f (i + 1) = 49 + i
        · rw [if_pos hs] at h
          obtain ⟨a1, a2, a3⟩ := ctx_spec n f k (i + 2) t (by omega) (by omega) h
          refine ⟨fun b hb => by have := a1 b hb; omega, fun last hl hm => a2 last (by omega) (by omega), fun j hj => ?_⟩
          have hn : ¬ n ≤ i := by omega
          have hrow : rowS n (k + 1) i t = (50 + i) :: (49 + i) :: rowS n k (i + 2) t := by
            unfold rowS
            rw [if_neg hn]
            cases t with
            | nil => cases k <;> rfl
            | cons b t' =>
              have := a1 b (by simp)
              have hb : ¬ b = 49 + i := by omega
              simp only [if_neg hb]
              cases k <;> rfl
          rw [hrow]
          match j, hj with
          | 0, _ => simp [hs.2.1]
          | 1, _ => simp [hs.2.2]
          | j + 2, hj => have := a3 j (by omega); rw [show i + (j + 2) = i + 2 + j by omega]; simpa using this
        · rw [if_neg hs] at h; cases h
    · rw [if_neg hi] at h
      cases h
      have : i = n := by omega
      subst this
      exact ⟨by simp, fun last hl hm => by simp [scanB, hm], fun j hj => by omega⟩
theorem to8_row {n : Nat} {f g : Nat → Nat} (hf : IsRow n f) (hg : IsRow n g) (h : to8 f = to8 g) : f = g :=
  row_ext hf hg fun i hi => to8_at h i (by have := hf.eight; omega)
theorem tails_rows (n : Nat) (h3 : 3 ≤ n) (h8 : n ≤ 8) : ∀ t ∈ tails n 8 0, t.length ≤ n - 2 ∨ ∀ j, j < n → (rowS n n 0 t).getD j 0 = rdf n j := by
  have : ∀ n, n < 9 → 3 ≤ n → ∀ t ∈ tails n 8 0, (decide (t.length ≤ n - 2) || (List.range n).all fun j => decide ((rowS n n 0 t).getD j 0 = rdf n j)) = true := by decide +kernel
  intro t ht
  have := this n (by omega) h3 t ht
  simpa using this
/-- the program's road from a row to a change is right -/
theorem chText_some {n : Nat} {f : Nat → Nat} (hf : IsRow n f) {l : List Nat} (h : chText n f = some l) : goodL n l = true ∧ cf n l = f := by
  have h3 := hf.three
  have h8 := hf.eight
  unfold chText at h
  by_cases hr : to8 f = to8 (rdf n)
  · rw [if_pos hr] at h; cases h
  · rw [if_neg hr] at h
    cases hc : ctx n f n 0 with
    | none => rw [hc] at h; cases h
    | some t =>
      rw [hc] at h
      obtain ⟨a1, a2, a3⟩ := ctx_spec n f n 0 t (by omega) (by omega) hc
      have hscan := a2 0 (Nat.le_refl _) rfl
      have hlen := scan_len n t 0 hscan (by omega)
      have hmem := mem_tails n t 8 0 (by omega) hscan
      have hsmall : t.length ≤ n - 2 := by
        rcases tails_rows n h3 h8 t hmem with q | q
        · exact q
        · refine absurd ?_ hr
          have : f = rdf n := row_ext hf (isRow_rdf h3 h8) fun i hi => by
            rw [← q i hi]; have := a3 i (by omega); simpa using this.symm
          rw [this]
      have key : ∀ l, goodL n l = true → (if l = [45] then [] else l) = t → cf n l = f := fun l hl e =>
        row_ext (isRow_cf hl) hf fun i hi => by
          unfold cf cl
          rw [e]
          have := a3 i (by omega); simpa using this
      cases t with
      | nil =>
        simp at h
        subst h
        have hg : goodL n [45] = true := by
          simp [scanB] at hscan
          simp [goodL, h3, h8, hscan]; omega
        exact ⟨hg, key _ hg (by simp)⟩
      | cons b t' =>
        simp at h
        subst h
        have hb : ¬ (b :: t') = [45] := fun e => by
          have := a1 b (by simp)
          injection e; omega
        have hg : goodL n (b :: t') = true := by
          simp only [goodL, h3, h8, decide_true, Bool.true_and, if_neg hb, hscan, Bool.and_true, ne_eq, reduceCtorEq, not_false_eq_true]
          simpa using hsmall
        exact ⟨hg, key _ hg (if_neg hb)⟩
def backOk (n : Nat) (l : List Nat) : Bool := chText n (cf n l) == some l
theorem chText_back {n : Nat} {l : List Nat} (h : goodL n l = true) : chText n (cf n l) = some l := by
  have : ∀ n, n < 9 → 3 ≤ n → ∀ l ∈ chs n, backOk n l = true := by decide +kernel
  have h3 := goodL_three h
  have := this n (by have := goodL_eight h; omega) h3 l (mem_chs h)
  simpa [backOk] using this

/-- the text of some places -/
def ofPlaces (ps : List Nat) : List Nat := if ps = [] then [45] else ps.map (48 + ·)
/-- mirrored places, in order -/
def mirP (n : Nat) (l : List Nat) : List Nat := ((placesOf n l).map (n + 1 - ·)).reverse
def mirL (n : Nat) (l : List Nat) : List Nat := ofPlaces (mirP n l)
/-- mirrored digits -/
def mirF (n : Nat) (f : Nat → Nat) (i : Nat) : Nat := if i < n then 49 + n - (f (n - 1 - i) - 48) else 0
def mirOk (n : Nat) (l : List Nat) : Bool :=
  (chText n (mirF n (cf n l)) == some (mirL n l)) && goodL n (mirL n l) && (mirL n (mirL n l) == l) && decide ((placesOf n l).length ≤ 8) && (placesOf n l).all (fun p => decide (1 ≤ p ∧ p ≤ n)) && decide ((placesOf n l).Pairwise (· < ·))
theorem mirrors (n : Nat) (h3 : 3 ≤ n) (h8 : n ≤ 8) : ∀ l ∈ chs n, mirOk n l = true := by
  have : ∀ n, n < 9 → 3 ≤ n → ∀ l ∈ chs n, mirOk n l = true := by decide +kernel
  exact this n (by omega) h3
end Go.Proofs.Ytkhglknpcajmiaa
namespace Go.Proofs.Ytkhglknpcajmiaa
open Go.RowKit

/-- bytes as elements -/
def byts (l : List Nat) : List Value := l.map fun (b : Nat) => .int .u8 b
theorem byts_len (l : List Nat) : (byts l).length = l.length := by simp [byts]
theorem byts_snoc (l : List Nat) (b : Nat) : byts l ++ [.int .u8 b] = byts (l ++ [b]) := by simp [byts]
theorem strOf_txt (l : List Nat) : strOf l.length (fun i => l.getD i 0) = txt l := by
  unfold strOf txt
  congr 2
  apply List.ext_getElem
  · simp
  · intro k h1 h2
    have hk : k < l.length := by simpa using h2
    simp [List.getD_eq_getElem?_getD, hk]

/-- the text of what was found: "-" where no place is made -/
def dashOf : Option (List Nat) → Option (List Nat)
  | none => none
  | some [] => some [45]
  | some (b :: t) => some (b :: t)
theorem chText_ne {n : Nat} {f : Nat → Nat} (h : ¬ to8 f = to8 (rdf n)) : chText n f = dashOf (ctx n f n 0) := by
  unfold chText
  rw [if_neg h]
  cases ctx n f n 0 with
  | none => rfl
  | some t => cases t <;> rfl
/-- the ending of changeText -/
def chEnd (r : Option (List Nat)) : Value := match r with
  | none => .tuple #[.string ⟨#[]⟩, .bool false]
  | some l => .tuple #[.string (txt l), .bool true]

end Go.Proofs.Ytkhglknpcajmiaa
namespace Go.Proofs.Ytkhglknpcajmiaa
open Go.RowKit

/-- mirrored digits, the last k of them laid -/
def mirTo (n : Nat) (f : Nat → Nat) (k j : Nat) : Nat := if n ≤ j + k ∧ j < n then 49 + n - (f (n - 1 - j) - 48) else 0
theorem mirTo_zero (n : Nat) (f : Nat → Nat) : dig8 (mirTo n f 0) = zero8 := by
  have : ∀ i, mirTo n f 0 i = 0 := fun i => by unfold mirTo; rw [if_neg (by omega)]
  simp [dig8, zero8, this]
theorem mirTo_succ {n : Nat} (f : Nat → Nat) {k : Nat} (hk : k < n) : setF (mirTo n f k) (n - 1 - k) (49 + n - (f k - 48)) = mirTo n f (k + 1) := by
  funext j
  unfold setF mirTo
  by_cases e : j = n - 1 - k
  · subst e
    rw [if_pos rfl, if_pos (by omega), show n - 1 - (n - 1 - k) = k by omega]
  · rw [if_neg e]
    by_cases h : n ≤ j + k ∧ j < n
    · rw [if_pos h, if_pos (by omega)]
    · rw [if_neg h, if_neg (by omega)]
theorem mirTo_all (n : Nat) (f : Nat → Nat) : mirTo n f n = mirF n f := by
  funext j
  unfold mirTo mirF
  by_cases h : j < n
  · rw [if_pos (by omega), if_pos h]
  · rw [if_neg (by omega), if_neg h]
theorem isRow_mir {n : Nat} {f : Nat → Nat} (h : IsRow n f) : IsRow n (mirF n f) := by
  have hm : ∀ i, i < n → mirF n f i = 49 + n - (f (n - 1 - i) - 48) := fun i hi => by simp [mirF, hi]
  refine isRow_mk h.three h.eight (fun i hi => ?_) (fun i hi => ?_) (fun i j hi hj e => ?_) (fun i hi => by simp [mirF]; omega)
  · rw [hm i hi]; have := h.lo (n - 1 - i) (by omega); have := h.hi (n - 1 - i) (by omega); omega
  · rw [hm i hi]; have := h.lo (n - 1 - i) (by omega); have := h.hi (n - 1 - i) (by omega); omega
  · rw [hm i hi, hm j hj] at e
    have := h.lo (n - 1 - i) (by omega); have := h.hi (n - 1 - i) (by omega)
    have := h.lo (n - 1 - j) (by omega); have := h.hi (n - 1 - j) (by omega)
    have := h.inj (n - 1 - i) (n - 1 - j) (by omega) (by omega) (by omega)
    omega

end Go.Proofs.Ytkhglknpcajmiaa
namespace Go.Proofs.Ytkhglknpcajmiaa
open Go.RowKit

theorem txt_app (l r : List Nat) : txt (l ++ r) = txt l ++ txt r := by
  apply ByteArray.ext
  rw [ByteArray.data_append]
  simp [txt]

set_option maxRecDepth 100000 in
set_option maxHeartbeats 1000000 in
theorem l1Num_digit (p : Nat) (hp : p ≤ 9) (w : World) :
    Calls Try.prog 163 #[.int .i64 p] w fun e w' => e = .returned (.string (txt [48 + p])) ∧ Below w.heap.size w w' := by
  have hp' : (p : Int) < 10 := by omega
  have hconv := conv_dig (w.alloc (.cells #[.int .u8 (48 + p)] 5)) w.heap.size 1 1 (fun _ => 48 + p) (fun i hi => by
    obtain rfl : i = 0 := by omega
    exact (RowAt.new w 5 #[.int .u8 (48 + p)]).cell 0 rfl)
  have e1 : strOf 1 (fun _ => 48 + p) = txt [48 + p] := by simp [strOf, txt, List.range_succ]
  rw [e1] at hconv
  go_enter Try.func163, Try.ntmps163
  go_wp2
  go_ret
  exact ⟨rfl, (Below.refl _ w).alloc (Nat.le_refl _) _⟩

set_option maxRecDepth 100000 in
set_option maxHeartbeats 1000000 in
theorem l2Of_any (v : Value) (ps : List Nat) (hl : ps.length ≤ 8) (hps : ∀ p ∈ ps, p ≤ 9) (w : World) (hv : Own w 3 v (nums ps)) :
    Calls Try.prog 167 #[v] w fun e w' => e = .returned (.string (txt (ofPlaces ps))) ∧ Below w.heap.size w w' := by
  obtain ⟨n, hn⟩ : ∃ n, ps.length = n := ⟨_, rfl⟩
  obtain ⟨a, cap, rfl, ha⟩ := hv.view
  rw [nums_len, hn] at ha
  rw [nums_len, hn] at hv ⊢
  rw [hn] at hl
  have hl' : (n : Int) ≤ 8 := by omega
  have HO := Lib.hid hv
  have HA := Lib.hid ha
  have HN := Lib.hid hn
  have HP := Lib.hid hps
  clear hv ha hn hps
  generalize hrs : ofPlaces ps = rs
  have HRS := Lib.hid hrs
  clear hrs
  go_enter Try.func167, Try.ntmps167
  go_wp2
  go_loopg [3, 5, 8] n (fun q t _ i wr => ∃ k : Nat, k ≤ n ∧ q + k = n ∧ i = .int .i64 k ∧ t = .string (txt ((ps.take k).map (48 + ·))) ∧ Below w.heap.size w wr)
  case atStart => exact ⟨0, Nat.zero_le _, rfl, rfl, rfl, Below.refl _ _⟩
  case round =>
    obtain ⟨k, hk, hq, rfl, rfl, hbel⟩ := hrel
    have HQ := Lib.hid hq
    have HB := Lib.hid hbel
    clear hq hbel
    by_cases hlt : k < n
    · obtain ⟨g, rfl⟩ := HA.out (by omega)
      have hkp : k < ps.length := by rw [HN.out]; exact hlt
      have c1 := (HO.out.kept HB.out).cell k (.int .i64 ps[k]) (by simp [nums, ints, hkp])
      have hp9 := HP.out _ (List.getElem_mem hkp)
      have htk : (ps.take (k + 1)).map (48 + ·) = (ps.take k).map (48 + ·) ++ [48 + ps[k]] := by
        rw [List.take_succ_eq_append_getElem hkp, List.map_append]; rfl
      have htx : txt ((ps.take (k + 1)).map (48 + ·)) = txt ((ps.take k).map (48 + ·)) ++ txt [48 + ps[k]] := by rw [htk, txt_app]
      have hs1 : (txt ((ps.take k).map (48 + ·))).size = k := by rw [txt_size]; simp; omega
      have hs2 : (txt [48 + ps[k]]).size = 1 := txt_size _
      have HTX := Lib.hid htx
      have hki : (k : Int) < n := by omega
      have HNUM := Lib.hid (l1Num_digit ps[k] hp9)
      generalize txt ((ps.take k).map (48 + ·)) = T at *
      generalize txt [48 + ps[k]] = U at *
      generalize ps[k] = p at *
      clear htk htx
      go_wp2_with fail
      refine (HNUM.out _).mono ?_
      rintro e w2 ⟨rfl, hb2⟩
      have HB2 := Lib.hid (HB.out.trans (hb2.mono HB.out.size))
      clear hb2
      go_wp2
      go_roundg (n - (k + 1))
      case measure => have := HQ.out; omega
      case rel => exact ⟨k + 1, by omega, by have := HQ.out; omega, by go_num, by rw [HTX.out], HB2.out⟩
    · obtain rfl : k = n := by omega
      have hall : ps.take k = ps := List.take_of_length_le (by rw [HN.out]; exact Nat.le_refl _)
      have hki : ¬ (k : Int) < k := by omega
      rw [hall] at *
      have hem : (txt (ps.map (48 + ·))).toList.isEmpty = decide (ps = []) := by
        rw [empty_lets, lets_txt _ (fun b hb => by
          obtain ⟨p, hp, rfl⟩ := List.mem_map.1 hb
          have := HP.out p hp; omega)]
        cases ps <;> simp
      by_cases hps : ps = []
      · have hres : rs = [45] := by rw [← HRS.out]; simp [ofPlaces, hps]
        rw [decide_eq_true hps] at hem
        generalize txt (ps.map (48 + ·)) = T at *
        clear hps
        go_wp2
        go_ret
        exact ⟨by first | rfl | (rw [hres]; rfl), HB.out⟩
      · have hres : txt rs = txt (ps.map (48 + ·)) := by rw [← HRS.out]; simp [ofPlaces, hps]
        rw [decide_eq_false hps] at hem
        generalize txt (ps.map (48 + ·)) = T at *
        clear hps
        go_wp2
        go_ret
        exact ⟨by first | rfl | (rw [hres]; rfl), HB.out⟩

end Go.Proofs.Ytkhglknpcajmiaa
