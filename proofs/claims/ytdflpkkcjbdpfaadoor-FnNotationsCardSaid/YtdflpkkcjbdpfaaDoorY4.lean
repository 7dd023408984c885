/- A good list's text reads back as the list. What is read from a list's texts; what is read is good. The law FnNotations. -/
import Derived.Test.YtdflpkkcjbdpfaaDoorX1
import Derived.Test.YtdflpkkcjbdpfaaDoorT4
import Derived.Test.YtdflpkkcjbdpfaaDoorR4
import Derived.Test.YtdflpkkcjbdpfaaDoorT6
import Derived.Test.YtdflpkkcjbdpfaaDoorX2
namespace Go.Proofs.YtdflpkkcjbdpfaaDoor
open Go.RowKit
set_option linter.unusedSimpArgs false
set_option linter.unusedVariables false

theorem spanD_all : ∀ (l t : List Nat), (∀ b ∈ l, isD b = true) → (t = [] ∨ isD (t.getD 0 0) = false) → spanD (l ++ t) = l.length
  | [], t, _, ht => by
    cases t with
    | nil => rfl
    | cons b t =>
      rcases ht with h | h
      · cases h
      · simp at h
        simp [spanD, h]
  | b :: l, t, hl, ht => by
    have h1 := hl b (by simp)
    have h2 := spanD_all l t (fun x hx => hl x (by simp [hx])) ht
    simp [spanD, h1, h2]
/-- a good change in letters: '-' or digits -/
def Chg (l : List Nat) : Prop := l = [45] ∨ (l ≠ [] ∧ ∀ b ∈ l, isD b = true)
theorem spanW_chg {l t : List Nat} (h : Chg l) (ht : l = [45] ∨ t = [] ∨ isD (t.getD 0 0) = false) : spanW (l ++ t) = l.length := by
  rcases h with rfl | ⟨hne, hd⟩
  · rfl
  · cases l with
    | nil => exact absurd rfl hne
    | cons b l =>
      have hb : isD b = true := hd b (by simp)
      have hx : isX b = false := by
        unfold isD at hb
        unfold isX
        simp at hb ⊢
        omega
      have ht2 : t = [] ∨ isD (t.getD 0 0) = false := by
        rcases ht with h | h
        · have : b = 45 := by simpa using (List.cons.inj h).1
          subst this
          exact absurd hb (by decide)
        · exact h
      show (if isX b then 1 else spanD (b :: (l ++ t))) = _
      rw [hx]
      exact spanD_all (b :: l) t hd ht2
/-- the word at p is the change that stands there -/
theorem wordP_chg {n : Nat} {L A l t : List Nat} (hL : L = A ++ (l ++ t)) (hg : goodL n l = true) (h : Chg l) (ht : l = [45] ∨ t = [] ∨ isD (t.getD 0 0) = false) :
    wordP n L A.length = l ∧ spanW (L.drop A.length) = l.length := by
  have e : L.drop A.length = l ++ t := by rw [hL, List.drop_left]
  have hs : spanW (L.drop A.length) = l.length := by rw [e]; exact spanW_chg h ht
  refine ⟨?_, hs⟩
  have hne : l ≠ [] := goodL_ne hg
  have hlen : l.length ≠ 0 := fun h0 => hne (List.eq_nil_of_length_eq_zero h0)
  unfold wordP
  rw [hs, if_neg hlen, e, List.take_left]
  refine tidyL_self hg ?_
  rintro rfl
  rcases h with h | ⟨-, h⟩
  · simp at h
  · exact absurd (h 120 (by simp)) (by decide)

theorem scanB_digits (n : Nat) : ∀ (l : List Nat) (last : Nat), scanB n last l = true → ∀ b ∈ l, 48 < b ∧ b ≤ 48 + n
  | [], _, _ => by simp
  | b :: t, last, h => by
    simp only [scanB, Bool.and_eq_true, decide_eq_true_eq, beq_iff_eq] at h
    intro x hx
    rcases List.mem_cons.1 hx with rfl | hx
    · omega
    · exact scanB_digits n t _ h.2 x hx
theorem goodL_digits {n : Nat} {l : List Nat} (hg : goodL n l = true) (hd : l ≠ [45]) : ∀ b ∈ l, 48 < b ∧ b ≤ 56 := by
  unfold goodL at hg
  rw [if_neg hd] at hg
  simp only [Bool.and_eq_true, decide_eq_true_eq] at hg
  intro b hb
  have := scanB_digits n l 0 hg.2 b hb
  omega
theorem chg_of_good {n : Nat} {l : List Nat} (hg : goodL n l = true) : Chg l := by
  by_cases hd : l = [45]
  · exact .inl hd
  · refine .inr ⟨goodL_ne hg, fun b hb => ?_⟩
    have h1 := goodL_digits hg hd b hb
    unfold isD
    simp
    omega
theorem chg_head {l : List Nat} (h : Chg l) (R : List Nat) : (l ++ R).getD 0 0 ≠ 44 ∧ (l ++ R).getD 0 0 ≠ 46 := by
  rcases h with rfl | ⟨hne, hd⟩
  · exact ⟨by simp, by simp⟩
  · cases l with
    | nil => exact absurd rfl hne
    | cons b l =>
      have hb : isD b = true := hd b (by simp)
      unfold isD at hb
      simp at hb
      simp
      omega
theorem chg_small {l : List Nat} (h : Chg l) : ∀ b ∈ l, b < 256 := by
  rcases h with rfl | ⟨-, hd⟩
  · simp
  · intro b hb
    have := hd b hb
    unfold isD at this
    simp at this
    omega
theorem isDash_chg {l : List Nat} (h : Chg l) : isDash l = decide (l = [45]) := by
  unfold isDash
  rw [dash_lets, lets_txt _ (chg_small h)]
theorem text_head (t : List (List Nat)) (T : List Nat) (hT : T = [] ∨ T.getD 0 0 = 44) (hc : ∀ c ∈ t, Chg c) : (textT false t ++ T) = [] ∨ isD ((textT false t ++ T).getD 0 0) = false := by
  cases t with
  | nil =>
    rcases hT with rfl | h
    · exact .inl rfl
    · refine .inr ?_
      show isD ((([] : List Nat) ++ T).getD 0 0) = false
      rw [List.nil_append, h]
      decide
  | cons c t =>
    refine .inr ?_
    have h := hc c (by simp)
    unfold textT
    rw [isDash_chg h]
    by_cases hd : c = [45]
    · subst hd
      rfl
    · simp [hd]
      decide
theorem text_len {n : Nat} : ∀ (t : List (List Nat)) (d : Bool), (∀ c ∈ t, goodL n c = true) → t.length ≤ (textT d t).length
  | [], _, _ => by simp
  | c :: t, d, h => by
    have h1 := text_len t (isDash c) (fun x hx => h x (by simp [hx]))
    have h2 : c.length ≠ 0 := fun h0 => goodL_ne (h c (by simp)) (List.eq_nil_of_length_eq_zero h0)
    unfold textT
    split
    · simp; omega
    · simp; omega
theorem moreP_text (n : Nat) (T : List Nat) (hT : T = [] ∨ T.getD 0 0 = 44) : ∀ (t : List (List Nat)) (A : List Nat) (d : Bool) (f : Nat) (L : List Nat), (∀ c ∈ t, goodL n c = true) → t.length ≤ f → L = A ++ (textT d t ++ T) →
    moreP n L f A.length = .ok (t, A.length + (textT d t).length)
  | [], A, d, 0, L, _, _, _ => by simp [moreP, textT]
  | [], A, d, f + 1, L, _, _, hL => by
    unfold moreP
    have e : textT d [] = [] := rfl
    rw [e, List.nil_append] at hL
    have : L.length ≤ A.length ∨ L.getD A.length 0 = 44 := by
      rcases hT with rfl | h
      · left; rw [hL]; simp
      · right
        rw [hL, List.getD_eq_getElem?_getD, List.getElem?_append_right (Nat.le_refl _), Nat.sub_self, ← List.getD_eq_getElem?_getD]
        exact h
    rw [if_pos this, e]
    simp
  | c :: t, A, d, 0, L, _, hf, _ => by simp at hf
  | c :: t, A, d, f + 1, L, hg, hf, hL => by
    have hgc := hg c (by simp)
    have hgt : ∀ x ∈ t, goodL n x = true := fun x hx => hg x (by simp [hx])
    have hch := chg_of_good hgc
    have hne : c ≠ [] := goodL_ne hgc
    have hcl : c.length ≠ 0 := fun h0 => hne (List.eq_nil_of_length_eq_zero h0)
    have hft : t.length ≤ f := by simp at hf; exact hf
    have hfol : c = [45] ∨ (textT (isDash c) t ++ T) = [] ∨ isD ((textT (isDash c) t ++ T).getD 0 0) = false := by
      by_cases hd : c = [45]
      · exact .inl hd
      · refine .inr ?_
        rw [isDash_chg hch, decide_eq_false hd]
        exact text_head t T hT (fun x hx => chg_of_good (hgt x hx))
    unfold moreP
    by_cases hp : (isDash c || d) = true
    · have e : textT d (c :: t) = c ++ textT (isDash c) t := by
        show (if (isDash c || d) then c else 46 :: c) ++ _ = _
        rw [if_pos hp]
      have hL1 : L = A ++ (c ++ (textT (isDash c) t ++ T)) := by rw [hL, e, List.append_assoc]
      have hget : L.getD A.length 0 = (c ++ (textT (isDash c) t ++ T)).getD 0 0 := by
        rw [hL1, List.getD_eq_getElem?_getD, List.getElem?_append_right (Nat.le_refl _), Nat.sub_self, ← List.getD_eq_getElem?_getD]
      obtain ⟨h44, h46⟩ := chg_head hch (textT (isDash c) t ++ T)
      have hcond : ¬ (L.length ≤ A.length ∨ L.getD A.length 0 = 44) := by
        rw [hget]
        rintro (h | h)
        · rw [hL1] at h; simp at h; omega
        · exact h44 h
      have hnx : nextP L A.length = A.length := by
        unfold nextP
        rw [hget, if_neg h46]
      obtain ⟨hw, hs⟩ := wordP_chg hL1 hgc hch hfol
      have hrec := moreP_text n T hT t (A ++ c) (isDash c) f L hgt hft (by rw [hL1, List.append_assoc])
      rw [List.length_append] at hrec
      rw [if_neg hcond, hnx, hw, if_neg hne, hs, hrec, e]
      simp [Blk.cat]
      omega
    · have e : textT d (c :: t) = 46 :: (c ++ textT (isDash c) t) := by
        show (if (isDash c || d) then c else 46 :: c) ++ _ = _
        rw [if_neg hp]
        rfl
      have hL0 : L = A ++ (46 :: (c ++ (textT (isDash c) t ++ T))) := by rw [hL, e]; simp
      have hL1 : L = (A ++ [46]) ++ (c ++ (textT (isDash c) t ++ T)) := by rw [hL0]; simp
      have hget : L.getD A.length 0 = 46 := by
        rw [hL0, List.getD_eq_getElem?_getD, List.getElem?_append_right (Nat.le_refl _), Nat.sub_self]
        rfl
      have hcond : ¬ (L.length ≤ A.length ∨ L.getD A.length 0 = 44) := by
        rw [hget]
        rintro (h | h)
        · rw [hL0] at h; simp at h; omega
        · omega
      have hnx : nextP L A.length = (A ++ [46]).length := by
        unfold nextP
        rw [hget, if_pos rfl]
        simp
      obtain ⟨hw, hs⟩ := wordP_chg hL1 hgc hch hfol
      have hrec := moreP_text n T hT t (A ++ [46] ++ c) (isDash c) f L hgt hft (by rw [hL1]; simp)
      rw [List.length_append] at hrec
      rw [if_neg hcond, hnx, hw, if_neg hne, hs, hrec, e]
      simp [Blk.cat]
      omega
theorem blockP_text (n : Nat) (T A L : List Nat) (hT : T = [] ∨ T.getD 0 0 = 44) (t : List (List Nat)) (hne : t ≠ []) (hg : ∀ c ∈ t, goodL n c = true) (hL : L = A ++ (textT true t ++ T)) :
    blockP n L A.length = .ok (t, A.length + (textT true t).length) := by
  cases t with
  | nil => exact absurd rfl hne
  | cons c t =>
    have hgc := hg c (by simp)
    have hgt : ∀ x ∈ t, goodL n x = true := fun x hx => hg x (by simp [hx])
    have hch := chg_of_good hgc
    have hcn : c ≠ [] := goodL_ne hgc
    have hfol : c = [45] ∨ (textT (isDash c) t ++ T) = [] ∨ isD ((textT (isDash c) t ++ T).getD 0 0) = false := by
      by_cases hd : c = [45]
      · exact .inl hd
      · refine .inr ?_
        rw [isDash_chg hch, decide_eq_false hd]
        exact text_head t T hT (fun x hx => chg_of_good (hgt x hx))
    have e : textT true (c :: t) = c ++ textT (isDash c) t := by
      show (if (isDash c || true) then c else 46 :: c) ++ _ = _
      rw [Bool.or_true, if_pos rfl]
    have hL1 : L = A ++ (c ++ (textT (isDash c) t ++ T)) := by rw [hL, e, List.append_assoc]
    obtain ⟨hw, hs⟩ := wordP_chg hL1 hgc hch hfol
    have htl := text_len t (isDash c) hgt
    have hrec := moreP_text n T hT t (A ++ c) (isDash c) L.length L hgt (by rw [hL1]; simp; omega) (by rw [hL1, List.append_assoc])
    rw [List.length_append] at hrec
    unfold blockP
    rw [hw, if_neg hcn, hs, hrec, e]
    simp [Blk.cat]
    omega
theorem moreB_end (n : Nat) (L : List Nat) (f p : Nat) (h : L.length ≤ p) : moreB n L f p = .ok [] := by
  cases f with
  | zero => rfl
  | succ f => unfold moreB; rw [if_pos (.inl h)]
theorem blocksP_text (n : Nat) (t : List (List Nat)) (hne : t ≠ []) (hg : ∀ c ∈ t, goodL n c = true) : blocksP n (textT true t) = .ok [t] := by
  have h := blockP_text n [] [] (textT true t) (.inl rfl) t hne hg (by simp)
  rw [List.length_nil, Nat.zero_add] at h
  unfold blocksP
  rw [h]
  simp only
  rw [moreB_end _ _ _ _ (Nat.le_refl _)]
  rfl
theorem blocksP_short (n : Nat) (a b : List (List Nat)) (ha : a ≠ []) (hb : b ≠ []) (hga : ∀ c ∈ a, goodL n c = true) (hgb : ∀ c ∈ b, goodL n c = true) : blocksP n (shortH a b) = .ok [a, b] := by
  have h := blockP_text n (44 :: textT true b) [] (shortH a b) (.inr rfl) a ha hga (by simp [shortH])
  rw [List.length_nil, Nat.zero_add] at h
  have h2 := blockP_text n [] (textT true a ++ [44]) (shortH a b) (.inl rfl) b hb hgb (by simp [shortH])
  have hl : (shortH a b).length = (textT true a).length + 1 + (textT true b).length := by simp [shortH]; omega
  rw [List.length_append, List.length_singleton] at h2
  unfold blocksP
  rw [h]
  simp only
  obtain ⟨f, hf⟩ : ∃ f, (shortH a b).length = f + 1 := ⟨(textT true a).length + (textT true b).length, by rw [hl]; omega⟩
  have hget : (shortH a b).getD (textT true a).length 0 = 44 := by
    unfold shortH
    rw [List.getD_eq_getElem?_getD, List.getElem?_append_right (Nat.le_refl _), Nat.sub_self]
    rfl
  have hm : moreB n (shortH a b) (shortH a b).length (textT true a).length = .ok [b] := by
    rw [hf]
    unfold moreB
    rw [if_neg (by rw [hget]; omega), h2]
    simp only
    rw [moreB_end _ _ _ _ (Nat.le_of_eq hl)]
    rfl
  rw [hm]
  rfl
end Go.Proofs.YtdflpkkcjbdpfaaDoor
namespace Go.Proofs.YtdflpkkcjbdpfaaDoor
open Go.RowKit
set_option linter.unusedSimpArgs false
set_option linter.unusedVariables false

/-- the letters of the texts -/
def clean (L : List (List Nat)) : List (List Nat) := L.map fun l => lets (txt l)
theorem clean_strs (L : List (List Nat)) : strs (clean L) = strs L := by simp [strs, clean, txt_lets]
theorem clean_len (L : List (List Nat)) : (clean L).length = L.length := by simp [clean]
theorem clean_small {L : List (List Nat)} {k : Nat} (h : ∀ l ∈ L, l.length ≤ k) : ∀ l ∈ clean L, l.length ≤ k := by
  intro l hl
  obtain ⟨x, hx, rfl⟩ := List.mem_map.1 hl
  rw [lets_len, txt_size]
  exact h x hx
theorem clean_self {L : List (List Nat)} : ∀ l ∈ clean L, lets (txt l) = l := by
  intro l hl
  obtain ⟨x, hx, rfl⟩ := List.mem_map.1 hl
  rw [txt_lets]
theorem goodAll_letters {n : Int} {L : List (List Nat)} (hc : ∀ l ∈ L, lets (txt l) = l) (h : goodAll n L = true) : (3 ≤ n ∧ n ≤ 8) ∧ L ≠ [] ∧ L.length ≤ 40 ∧ ∀ l ∈ L, goodL n.toNat l = true := by
  have hm := goodAll_mem h
  unfold goodAll at h
  simp at h
  have hne : L ≠ [] := by rintro rfl; simp at h
  obtain ⟨l0, hl0⟩ := List.exists_mem_of_ne_nil L hne
  have hr := goodC_range (hm l0 hl0)
  refine ⟨hr, hne, h.1.2, fun l hl => ?_⟩
  have hg := hm l hl
  rw [show n = ((n.toNat : Nat) : Int) by omega, goodC_in, hc l hl] at hg
  exact hg
theorem text_small {n : Nat} : ∀ (t : List (List Nat)) (d : Bool), (∀ c ∈ t, goodL n c = true) → ∀ b ∈ textT d t, b < 256
  | [], _, _ => by simp [textT]
  | c :: t, d, h => by
    have h1 := text_small t (isDash c) (fun x hx => h x (by simp [hx]))
    have h2 := chg_small (chg_of_good (h c (by simp)))
    intro b hb
    unfold textT at hb
    rcases List.mem_append.1 hb with h9 | h9
    · split at h9
      · exact h2 b h9
      · rcases List.mem_cons.1 h9 with rfl | h9
        · omega
        · exact h2 b h9
    · exact h1 b h9
theorem joinP_one (t : List (List Nat)) : joinP [t] = t := by simp [joinP]
theorem joinP_two (a b : List (List Nat)) : joinP [a, b] = pal a ++ pal b := by simp [joinP]
/-- the whole text reads as the list -/
theorem read_text {n : Int} {L : List (List Nat)} (hc : ∀ l ∈ L, lets (txt l) = l) (h : goodAll n L = true) (hs : (textT true L).length ≤ 200) : readP n (txt (textT true L)) = ⟨L, 0, 0, true⟩ := by
  obtain ⟨hr, hne, hl, hg⟩ := goodAll_letters hc h
  have hb := blocksP_text n.toNat L hne hg
  have htl := text_len L true hg
  have hll : L.length ≠ 0 := fun h0 => hne (List.eq_nil_of_length_eq_zero h0)
  have hlt : lets (txt (textT true L)) = textT true L := lets_txt _ (text_small L true hg)
  have := readP_ok (s := txt (textT true L)) hr (by rw [txt_size]; omega) (by rw [hlt]; exact hb) (by unfold joinOk; rw [joinP_one]; simp; omega)
  rw [this, joinP_one]
/-- the two halves read as the list -/
theorem read_short {n : Int} {L a b : List (List Nat)} (hc : ∀ l ∈ L, lets (txt l) = l) (h : goodAll n L = true) (hh : halves L = some (a, b)) (hs : (shortH a b).length ≤ 200) :
    ∃ X, strs X = strs L ∧ readP n (txt (shortH a b)) = ⟨X, 0, 0, true⟩ := by
  obtain ⟨hr, hne, hl, hg⟩ := goodAll_letters hc h
  have hR : halvesR n L = some (a, b) := by unfold halvesR; rw [if_pos h]; exact hh
  obtain ⟨hmk, -, -, -, ha1, hb1⟩ := halvesR_make hR
  obtain ⟨hsa, hsb, -, -⟩ := halvesF_sub L _ a b hh
  have hga : ∀ c ∈ a, goodL n.toNat c = true := fun c hc => hg c (hsa c hc)
  have hgb : ∀ c ∈ b, goodL n.toNat c = true := fun c hc => hg c (hsb c hc)
  have hbk := blocksP_short n.toNat a b (by rintro rfl; simp at ha1) (by rintro rfl; simp at hb1) hga hgb
  have hlt : lets (txt (shortH a b)) = shortH a b := lets_txt _ (fun x hx => by
    unfold shortH at hx
    rcases List.mem_append.1 hx with h9 | h9
    · exact text_small a true hga x h9
    · rcases List.mem_cons.1 h9 with rfl | h9
      · omega
      · exact text_small b true hgb x h9)
  have hlen : (pal a ++ pal b).length = L.length := by
    have := congrArg List.length hmk
    rwa [strs_len, strs_len] at this
  have h0 : (shortH a b).length ≠ 0 := by simp [shortH]
  have := readP_ok (s := txt (shortH a b)) hr (by rw [txt_size]; omega) (by rw [hlt]; exact hbk) (by unfold joinOk; rw [joinP_two, hlen]; simp; omega)
  exact ⟨_, hmk, by rw [this, joinP_two]⟩
/-- what ShortNotation gives reads as the list, and is no longer than the whole text -/
theorem short_facts {n : Int} {L : List (List Nat)} (hc : ∀ l ∈ L, lets (txt l) = l) (h : goodAll n L = true) :
    (shortG L).length ≤ (textT true L).length ∧ ((shortG L).length ≤ 200 → ∃ X, strs X = strs L ∧ readP n (txt (shortG L)) = ⟨X, 0, 0, true⟩) := by
  unfold shortG
  cases hh : halves L with
  | none => exact ⟨Nat.le_refl _, fun hs => ⟨L, rfl, read_text hc h hs⟩⟩
  | some x =>
    obtain ⟨a, b⟩ := x
    simp only
    split
    · rename_i hlt
      exact ⟨by omega, fun hs => read_short hc h hh hs⟩
    · exact ⟨Nat.le_refl _, fun hs => ⟨L, rfl, read_text hc h hs⟩⟩
/-- what is read is good, and its text is not empty -/
theorem read_good {n : Int} {s : ByteArray} (h : (readP n s).ok = true) : goodAll n (readP n s).list = true ∧ (textT true (readP n s).list).length ≠ 0 := by
  have hsz := readP_size n s
  by_cases hn : 3 ≤ n ∧ n ≤ 8
  · by_cases hl : s.size = 0 ∨ 200 < s.size
    · rw [readP_len hn hl] at h; cases h
    · cases hb : blocksP n.toNat (lets s) with
      | error q => rw [readP_bad hn hl hb] at h; cases h
      | ok bs =>
        cases hj : joinOk bs with
        | false => rw [readP_many hn hl hb hj] at h; cases h
        | true =>
          rw [readP_ok hn hl hb hj] at hsz ⊢
          show goodAll n (joinP bs) = true ∧ (textT true (joinP bs)).length ≠ 0
          obtain ⟨h1, -, h3⟩ := blocksP_len hb
          have hmem : ∀ c ∈ joinP bs, ∃ b ∈ bs, c ∈ b := by
            intro c hc
            unfold joinP at hc
            split at hc
            · obtain ⟨b, hb, hcb⟩ := List.mem_flatten.1 hc
              exact ⟨b, hb, hcb⟩
            · obtain ⟨b, hb, hcb⟩ := List.mem_flatMap.1 hc
              exact ⟨b, hb, pal_mem hcb⟩
          have hg : ∀ c ∈ joinP bs, goodL n.toNat c = true := fun c hc => by
            obtain ⟨b, hb, hcb⟩ := hmem c hc
            exact (h3 b hb).2.2 c hcb
          have hne : 1 ≤ (joinP bs).length := by
            cases bs with
            | nil => simp at h1
            | cons b t =>
              have hb := (h3 b (by simp)).1
              have hbl : b.length ≠ 0 := fun h0 => hb (List.eq_nil_of_length_eq_zero h0)
              have hpl := pal_len b
              unfold joinP
              split
              · simp; omega
              · simp; omega
          have htl := text_len (joinP bs) true hg
          refine ⟨?_, by omega⟩
          unfold goodAll
          simp only [Bool.and_eq_true, decide_eq_true_eq, List.all_eq_true]
          refine ⟨⟨hne, hsz⟩, fun c hc => ?_⟩
          rw [show n = ((n.toNat : Nat) : Int) by omega, goodC_in, lets_txt _ (fun b hb => by have := goodL_small (hg c hc) b hb; omega)]
          exact hg c hc
  · rw [readP_out hn] at h; cases h
end Go.Proofs.YtdflpkkcjbdpfaaDoor
namespace Go.Proofs.YtdflpkkcjbdpfaaDoor
open Go.RowKit
set_option linter.unusedSimpArgs false
set_option linter.unusedVariables false

set_option maxRecDepth 100000 in
set_option maxHeartbeats 8000000 in
theorem lawNotations (a1 : Option Addr) (l1 c1 : Nat) (z1 : List Int) (a2 : Option Addr) (l2 c2 : Nat) (z2 : List Int) (w : World) (hz1 : IsBytes w a1 l1 c1 z1) (hz2 : IsBytes w a2 l2 c2 z2) (_hB : 0 < w.heap.size) (_htab : Tab w) :
    Calls Tryd.prog 4 #[.slice a1 l1 c1, .slice a2 l2 c2] w fun e w' => e = .returned (.bool true) ∧ Below w.heap.size w w' := by
  have HZA := Lib.hid hz1
  have HZB := Lib.hid hz2
  clear hz1 hz2 _htab _hB
  go_enter Tryd.func4, Tryd.ntmps4
  go_wp2_with fail
  refine (big_any a1 a2 l1 l2 c1 c2 HZA.out.lenW HZB.out.lenW _).mono ?_
  rintro e w0 ⟨rfl, rfl⟩
  by_cases hbig : 1048576 < l1 + l2
  · rw [decide_eq_true hbig]
    go_wp2
    go_ret
    exact ⟨rfl, Below.refl _ _⟩
  · rw [decide_eq_false hbig]
    have HL1 := Lib.hid (show l1 ≤ 1048576 by omega)
    have HL2 := Lib.hid (show l2 ≤ 1048576 by omega)
    clear hbig
    go_wp2_with fail
    refine (DrawNotationText_any a1 l1 c1 z1 _ HZA.out HL1.out).mono ?_
    rintro e w1 ⟨n, v, L0, rfl, h3, h9, hn, hL, hs, hb1⟩
    have HB1 := Lib.hid hb1
    have HZ1 := Lib.hid (HZB.out.belowW hb1)
    obtain ⟨L, hLe⟩ : ∃ L, clean L0 = L := ⟨_, rfl⟩
    have OL1 : Hid (Own w1 9 v (strs L)) := Lib.hid (by rw [← hLe, clean_strs]; exact hn.own)
    have HCL : Hid (∀ l ∈ L, lets (txt l) = l) := Lib.hid (by rw [← hLe]; exact clean_self)
    have HS : Hid (∀ l ∈ L, l.length ≤ maxLen) := Lib.hid (by rw [← hLe]; exact fun l hl => Nat.le_trans (clean_small hs l hl) (by unfold maxLen; omega))
    have hLL : L.length ≤ 41 := by rw [← hLe, clean_len]; exact hL
    clear hn hs hb1 HZA HZB hL hLe
    have HNI := Lib.hid (fun w h => iNotationText_any n v L w h (by omega))
    have HNS := Lib.hid (fun w h => sNotationText_any n v L w h (by omega) HS.out)
    have HSI := Lib.hid (fun w h => iShortNotation_any n v L w h (by omega))
    have HSS := Lib.hid (fun w h => sShortNotation_any n v L w h (by omega) HS.out)
    have HF : Hid (goodAll n L = true → ((txt (shortT n L)).size ≤ (txt (noteT n L)).size ∧ (txt (noteT n L)).size ≤ 280 ∧ ((txt (noteT n L)).size ≤ 200 → readP n (txt (noteT n L)) = ⟨L, 0, 0, true⟩) ∧ ((txt (shortT n L)).size ≤ 200 → ∃ X, strs X = strs L ∧ readP n (txt (shortT n L)) = ⟨X, 0, 0, true⟩))) := Lib.hid (fun hg => by
      have e1 : noteT n L = textT true L := by unfold noteT; rw [if_pos hg]
      have e2 : shortT n L = shortG L := by unfold shortT; rw [if_pos hg]
      obtain ⟨f1, f2⟩ := short_facts HCL.out hg
      rw [e1, e2, txt_size, txt_size]
      exact ⟨f1, goodAll_text hg, fun hs => read_text HCL.out hg hs, f2⟩)
    unfold TextRes at HNI HNS HSI HSS
    generalize txt (noteT n L) = sT at *
    generalize txt (shortT n L) = sS at *
    clear HS HCL
    go_wp2_with fail
    refine (HNI.out w1 OL1.out.txts).mono ?_
    rintro e w2 ⟨rfl, hb2⟩
    have HB2 := Lib.hid (HB1.out.trans (hb2.mono HB1.out.size))
    have HZ2 := Lib.hid (HZ1.out.belowW hb2)
    have OL2 := Lib.hid (OL1.out.kept hb2)
    clear hb2 HB1 HZ1 OL1
    go_wp2_with fail
    refine (HNS.out w2 OL2.out.txts).mono ?_
    rintro e w3 ⟨rfl, hb3⟩
    have HB3 := Lib.hid (HB2.out.trans (hb3.mono HB2.out.size))
    have HZ3 := Lib.hid (HZ2.out.belowW hb3)
    have OL3 := Lib.hid (OL2.out.kept hb3)
    clear hb3 HB2 HZ2 OL2
    go_wp2_with fail
    refine (HSI.out w3 OL3.out.txts).mono ?_
    rintro e w4 ⟨rfl, hb4⟩
    have HB4 := Lib.hid (HB3.out.trans (hb4.mono HB3.out.size))
    have HZ4 := Lib.hid (HZ3.out.belowW hb4)
    have OL4 := Lib.hid (OL3.out.kept hb4)
    clear hb4 HB3 HZ3 OL3
    go_wp2_with fail
    refine (HSS.out w4 OL4.out.txts).mono ?_
    rintro e w5 ⟨rfl, hb5⟩
    have HB5 := Lib.hid (HB4.out.trans (hb5.mono HB4.out.size))
    have HZ5 := Lib.hid (HZ4.out.belowW hb5)
    have OL5 := Lib.hid (OL4.out.kept hb5)
    clear hb5 HB4 HZ4 OL4
    clear HNI HNS HSI HSS
    have hs1 : (sT.toList == sT.toList) = true := by simp
    have hs2 : (sS.toList == sS.toList) = true := by simp
    cases hg : goodAll n L
    · have HB := HB5
      have HZ := HZ5
      clear HB5 HZ5 OL5 HF hg
      go_wp2_with fail
      refine (DrawReadNotation_any a2 l2 c2 z2 _ HZ.out HL2.out).mono ?_
      rintro e t1 ⟨j, tt, rfl, -, -, htt, hbt1⟩
      have HB1 := Lib.hid (HB.out.trans (hbt1.mono HB.out.size))
      have HTT := Lib.hid (show tt.size ≤ maxLen from Nat.le_trans htt (by unfold maxLen; omega))
      have HCI := Lib.hid (fun w => iReadNotation_any j tt w HTT.out)
      have HCS := Lib.hid (fun w => sReadNotation_any j tt w HTT.out)
      have HCC := Lib.hid (fun w => iCountChanges_any j tt w HTT.out)
      have HG := Lib.hid (fun h => read_good (n := j) (s := tt) h)
      have hRl := readP_size j tt
      clear hbt1 htt HTT HB HZ
      generalize readP j tt = R at *
      obtain ⟨Rl, Rc, Ra, Rok⟩ := R
      dsimp only at HCC HG hRl
      go_wp2_with fail
      refine (HCI.out _).mono ?_
      rintro e t2 ⟨vx, rfl, hnx, hbt2⟩
      dsimp only at hnx ⊢
      have HB2 := Lib.hid (HB1.out.trans (hbt2.mono HB1.out.size))
      have OX2 := Lib.hid hnx.own
      clear hnx hbt2 HB1
      go_wp2_with fail
      refine (HCS.out _).mono ?_
      rintro e t3 ⟨vy, rfl, hny, hbt3⟩
      dsimp only at hny ⊢
      have HB3 := Lib.hid (HB2.out.trans (hbt3.mono HB2.out.size))
      have OX3 := Lib.hid (OX2.out.kept hbt3)
      have OY3 := Lib.hid hny.own
      clear hny hbt3 HB2 OX2
      go_wp2_with fail
      refine (sameTexts_any vx vy Rl t3 OX3.out OY3.out (by omega)).mono ?_
      rintro e t4 ⟨rfl, hbt4⟩
      have HB4 := Lib.hid (HB3.out.trans (hbt4.mono HB3.out.size))
      have OX4 := Lib.hid (OX3.out.kept hbt4)
      clear hbt4 HB3 OX3 OY3
      cases Rok
      · go_wp2
        go_ret
        exact ⟨rfl, HB4.out⟩
      · obtain ⟨hgd, hun⟩ := HG.out rfl
        obtain ⟨ax, cx, hvx, -⟩ := OX4.out.view
        rw [strs_len] at hvx
        subst hvx
        have HNT := iNotationText_any j _ Rl t4 OX4.out.txts (by omega)
        rw [show noteT j Rl = textT true Rl by unfold noteT; rw [if_pos hgd], hgd] at HNT
        unfold TextRes at HNT
        have hemp := empty_txt (textT true Rl)
        rw [decide_eq_false (show ¬ (textT true Rl = []) from fun h => hun (by rw [h]; rfl))] at hemp
        have hemp2 : ((txt (textT true Rl)).toList == []) = false := by
          rw [beq_eq_false_iff_ne]
          intro h
          rw [h] at hemp
          simp at hemp
        generalize txt (textT true Rl) = U at *
        clear hgd hun HG OX4
        generalize Rl.length = kk at *
        go_wp2_with fail
        refine HNT.mono ?_
        rintro e t5 ⟨rfl, hbt5⟩
        have HB5 := Lib.hid (HB4.out.trans (hbt5.mono HB4.out.size))
        clear hbt5 HB4 HNT
        go_wp2_with fail
        refine (HCC.out _).mono ?_
        rintro e t6 ⟨rfl, hbt6⟩
        have HB6 := Lib.hid (HB5.out.trans (hbt6.mono HB5.out.size))
        clear hbt6 HB5
        go_wp2
        go_ret
        exact ⟨rfl, HB6.out⟩
    · obtain ⟨f1, f2, f3, f4⟩ := HF.out hg
      clear HF hg
      have hRT := Lib.hid (fun w => iReadNotation_any n sT w (by unfold maxLen; omega))
      have hRS := Lib.hid (fun w => iReadNotation_any n sS w (by unfold maxLen; omega))
      have i3 : (sS.size : Int) ≤ sT.size := by omega
      by_cases hT : sT.size ≤ 200
      · have i1 : (sT.size : Int) ≤ 200 := by omega
        have i2 : (sS.size : Int) ≤ 200 := by omega
        rw [f3 hT] at hRT
        obtain ⟨X, hX, hrX⟩ := f4 (by omega)
        rw [hrX] at hRS
        have HX := Lib.hid hX
        clear f1 f2 f3 f4 hrX hX hT
        go_wp2_with fail
        refine (hRT.out _).mono ?_
        rintro e x1 ⟨vx, rfl, hnx, hbx1⟩
        try dsimp only at hnx ⊢
        have HB6 := Lib.hid (HB5.out.trans (hbx1.mono HB5.out.size))
        have HZ6 := Lib.hid (HZ5.out.belowW hbx1)
        have OL6 := Lib.hid (OL5.out.kept hbx1)
        have OX6 := Lib.hid hnx.own
        clear hnx hbx1 HB5 HZ5 OL5
        go_wp2_with fail
        refine (hRS.out _).mono ?_
        rintro e x2 ⟨vy, rfl, hny, hbx2⟩
        try dsimp only at hny ⊢
        have HB7 := Lib.hid (HB6.out.trans (hbx2.mono HB6.out.size))
        have HZ7 := Lib.hid (HZ6.out.belowW hbx2)
        have OL7 := Lib.hid (OL6.out.kept hbx2)
        have OX7 := Lib.hid (OX6.out.kept hbx2)
        have OY7 := Lib.hid hny.own
        clear hny hbx2 HB6 HZ6 OL6 OX6
        go_wp2_with fail
        refine (sameTexts_any vx v L x2 OX7.out OL7.out (by omega)).mono ?_
        rintro e x3 ⟨rfl, hbx3⟩
        have HB8 := Lib.hid (HB7.out.trans (hbx3.mono HB7.out.size))
        have HZ8 := Lib.hid (HZ7.out.belowW hbx3)
        have OL8 := Lib.hid (OL7.out.kept hbx3)
        have OY8 := Lib.hid (OY7.out.kept hbx3)
        clear hbx3 HB7 HZ7 OL7 OX7 OY7
        go_wp2_with fail
        rw [HX.out] at OY8
        refine (sameTexts_any vy v L _ OY8.out OL8.out (by omega)).mono ?_
        rintro e x4 ⟨rfl, hbx4⟩
        have HB := Lib.hid (HB8.out.trans (hbx4.mono HB8.out.size))
        have HZ := Lib.hid (HZ8.out.belowW hbx4)
        clear hbx4 HB8 HZ8 OL8 OY8 hRT hRS
        go_wp2_with fail
        refine (DrawReadNotation_any a2 l2 c2 z2 _ HZ.out HL2.out).mono ?_
        rintro e t1 ⟨j, tt, rfl, -, -, htt, hbt1⟩
        have HB1 := Lib.hid (HB.out.trans (hbt1.mono HB.out.size))
        have HTT := Lib.hid (show tt.size ≤ maxLen from Nat.le_trans htt (by unfold maxLen; omega))
        have HCI := Lib.hid (fun w => iReadNotation_any j tt w HTT.out)
        have HCS := Lib.hid (fun w => sReadNotation_any j tt w HTT.out)
        have HCC := Lib.hid (fun w => iCountChanges_any j tt w HTT.out)
        have HG := Lib.hid (fun h => read_good (n := j) (s := tt) h)
        have hRl := readP_size j tt
        clear hbt1 htt HTT HB HZ
        generalize readP j tt = R at *
        obtain ⟨Rl, Rc, Ra, Rok⟩ := R
        dsimp only at HCC HG hRl
        go_wp2_with fail
        refine (HCI.out _).mono ?_
        rintro e t2 ⟨vx, rfl, hnx, hbt2⟩
        dsimp only at hnx ⊢
        have HB2 := Lib.hid (HB1.out.trans (hbt2.mono HB1.out.size))
        have OX2 := Lib.hid hnx.own
        clear hnx hbt2 HB1
        go_wp2_with fail
        refine (HCS.out _).mono ?_
        rintro e t3 ⟨vy, rfl, hny, hbt3⟩
        dsimp only at hny ⊢
        have HB3 := Lib.hid (HB2.out.trans (hbt3.mono HB2.out.size))
        have OX3 := Lib.hid (OX2.out.kept hbt3)
        have OY3 := Lib.hid hny.own
        clear hny hbt3 HB2 OX2
        go_wp2_with fail
        refine (sameTexts_any vx vy Rl t3 OX3.out OY3.out (by omega)).mono ?_
        rintro e t4 ⟨rfl, hbt4⟩
        have HB4 := Lib.hid (HB3.out.trans (hbt4.mono HB3.out.size))
        have OX4 := Lib.hid (OX3.out.kept hbt4)
        clear hbt4 HB3 OX3 OY3
        cases Rok
        · go_wp2
          go_ret
          exact ⟨rfl, HB4.out⟩
        · obtain ⟨hgd, hun⟩ := HG.out rfl
          obtain ⟨ax, cx, hvx, -⟩ := OX4.out.view
          rw [strs_len] at hvx
          subst hvx
          have HNT := iNotationText_any j _ Rl t4 OX4.out.txts (by omega)
          rw [show noteT j Rl = textT true Rl by unfold noteT; rw [if_pos hgd], hgd] at HNT
          unfold TextRes at HNT
          have hemp := empty_txt (textT true Rl)
          rw [decide_eq_false (show ¬ (textT true Rl = []) from fun h => hun (by rw [h]; rfl))] at hemp
          have hemp2 : ((txt (textT true Rl)).toList == []) = false := by
            rw [beq_eq_false_iff_ne]
            intro h
            rw [h] at hemp
            simp at hemp
          generalize txt (textT true Rl) = U at *
          clear hgd hun HG OX4
          generalize Rl.length = kk at *
          go_wp2_with fail
          refine HNT.mono ?_
          rintro e t5 ⟨rfl, hbt5⟩
          have HB5 := Lib.hid (HB4.out.trans (hbt5.mono HB4.out.size))
          clear hbt5 HB4 HNT
          go_wp2_with fail
          refine (HCC.out _).mono ?_
          rintro e t6 ⟨rfl, hbt6⟩
          have HB6 := Lib.hid (HB5.out.trans (hbt6.mono HB5.out.size))
          clear hbt6 HB5
          go_wp2
          go_ret
          exact ⟨rfl, HB6.out⟩
      · have i1 : (200 : Int) < sT.size := by omega
        by_cases hS : sS.size ≤ 200
        · have i2 : (sS.size : Int) ≤ 200 := by omega
          obtain ⟨X, hX, hrX⟩ := f4 hS
          rw [hrX] at hRS
          have HX := Lib.hid hX
          clear f1 f2 f3 f4 hrX hX hT hS
          generalize readP n sT = rT at *
          obtain ⟨Tl, Tc, Ta, Tok⟩ := rT
          go_wp2_with fail
          refine (hRT.out _).mono ?_
          rintro e x1 ⟨vx, rfl, hnx, hbx1⟩
          try dsimp only at hnx ⊢
          have HB6 := Lib.hid (HB5.out.trans (hbx1.mono HB5.out.size))
          have HZ6 := Lib.hid (HZ5.out.belowW hbx1)
          have OL6 := Lib.hid (OL5.out.kept hbx1)
          have OX6 := Lib.hid hnx.own
          clear hnx hbx1 HB5 HZ5 OL5
          go_wp2_with fail
          refine (hRS.out _).mono ?_
          rintro e x2 ⟨vy, rfl, hny, hbx2⟩
          try dsimp only at hny ⊢
          have HB7 := Lib.hid (HB6.out.trans (hbx2.mono HB6.out.size))
          have HZ7 := Lib.hid (HZ6.out.belowW hbx2)
          have OL7 := Lib.hid (OL6.out.kept hbx2)
          have OX7 := Lib.hid (OX6.out.kept hbx2)
          have OY7 := Lib.hid hny.own
          clear hny hbx2 HB6 HZ6 OL6 OX6
          have HB8 := HB7
          have HZ8 := HZ7
          have OL8 := OL7
          have OY8 := OY7
          clear HB7 HZ7 OL7 OX7 OY7
          go_wp2_with fail
          rw [HX.out] at OY8
          refine (sameTexts_any vy v L _ OY8.out OL8.out (by omega)).mono ?_
          rintro e x4 ⟨rfl, hbx4⟩
          have HB := Lib.hid (HB8.out.trans (hbx4.mono HB8.out.size))
          have HZ := Lib.hid (HZ8.out.belowW hbx4)
          clear hbx4 HB8 HZ8 OL8 OY8 hRT hRS
          go_wp2_with fail
          refine (DrawReadNotation_any a2 l2 c2 z2 _ HZ.out HL2.out).mono ?_
          rintro e t1 ⟨j, tt, rfl, -, -, htt, hbt1⟩
          have HB1 := Lib.hid (HB.out.trans (hbt1.mono HB.out.size))
          have HTT := Lib.hid (show tt.size ≤ maxLen from Nat.le_trans htt (by unfold maxLen; omega))
          have HCI := Lib.hid (fun w => iReadNotation_any j tt w HTT.out)
          have HCS := Lib.hid (fun w => sReadNotation_any j tt w HTT.out)
          have HCC := Lib.hid (fun w => iCountChanges_any j tt w HTT.out)
          have HG := Lib.hid (fun h => read_good (n := j) (s := tt) h)
          have hRl := readP_size j tt
          clear hbt1 htt HTT HB HZ
          generalize readP j tt = R at *
          obtain ⟨Rl, Rc, Ra, Rok⟩ := R
          dsimp only at HCC HG hRl
          go_wp2_with fail
          refine (HCI.out _).mono ?_
          rintro e t2 ⟨vx, rfl, hnx, hbt2⟩
          dsimp only at hnx ⊢
          have HB2 := Lib.hid (HB1.out.trans (hbt2.mono HB1.out.size))
          have OX2 := Lib.hid hnx.own
          clear hnx hbt2 HB1
          go_wp2_with fail
          refine (HCS.out _).mono ?_
          rintro e t3 ⟨vy, rfl, hny, hbt3⟩
          dsimp only at hny ⊢
          have HB3 := Lib.hid (HB2.out.trans (hbt3.mono HB2.out.size))
          have OX3 := Lib.hid (OX2.out.kept hbt3)
          have OY3 := Lib.hid hny.own
          clear hny hbt3 HB2 OX2
          go_wp2_with fail
          refine (sameTexts_any vx vy Rl t3 OX3.out OY3.out (by omega)).mono ?_
          rintro e t4 ⟨rfl, hbt4⟩
          have HB4 := Lib.hid (HB3.out.trans (hbt4.mono HB3.out.size))
          have OX4 := Lib.hid (OX3.out.kept hbt4)
          clear hbt4 HB3 OX3 OY3
          cases Rok
          · go_wp2
            go_ret
            exact ⟨rfl, HB4.out⟩
          · obtain ⟨hgd, hun⟩ := HG.out rfl
            obtain ⟨ax, cx, hvx, -⟩ := OX4.out.view
            rw [strs_len] at hvx
            subst hvx
            have HNT := iNotationText_any j _ Rl t4 OX4.out.txts (by omega)
            rw [show noteT j Rl = textT true Rl by unfold noteT; rw [if_pos hgd], hgd] at HNT
            unfold TextRes at HNT
            have hemp := empty_txt (textT true Rl)
            rw [decide_eq_false (show ¬ (textT true Rl = []) from fun h => hun (by rw [h]; rfl))] at hemp
            have hemp2 : ((txt (textT true Rl)).toList == []) = false := by
              rw [beq_eq_false_iff_ne]
              intro h
              rw [h] at hemp
              simp at hemp
            generalize txt (textT true Rl) = U at *
            clear hgd hun HG OX4
            generalize Rl.length = kk at *
            go_wp2_with fail
            refine HNT.mono ?_
            rintro e t5 ⟨rfl, hbt5⟩
            have HB5 := Lib.hid (HB4.out.trans (hbt5.mono HB4.out.size))
            clear hbt5 HB4 HNT
            go_wp2_with fail
            refine (HCC.out _).mono ?_
            rintro e t6 ⟨rfl, hbt6⟩
            have HB6 := Lib.hid (HB5.out.trans (hbt6.mono HB5.out.size))
            clear hbt6 HB5
            go_wp2
            go_ret
            exact ⟨rfl, HB6.out⟩
        · have i2 : (200 : Int) < sS.size := by omega
          clear f1 f2 f3 f4 hT hS
          generalize readP n sT = rT at *
          obtain ⟨Tl, Tc, Ta, Tok⟩ := rT
          generalize readP n sS = rS at *
          obtain ⟨Sl, Sc, Sa, Sok⟩ := rS
          go_wp2_with fail
          refine (hRT.out _).mono ?_
          rintro e x1 ⟨vx, rfl, hnx, hbx1⟩
          try dsimp only at hnx ⊢
          have HB6 := Lib.hid (HB5.out.trans (hbx1.mono HB5.out.size))
          have HZ6 := Lib.hid (HZ5.out.belowW hbx1)
          have OL6 := Lib.hid (OL5.out.kept hbx1)
          have OX6 := Lib.hid hnx.own
          clear hnx hbx1 HB5 HZ5 OL5
          go_wp2_with fail
          refine (hRS.out _).mono ?_
          rintro e x2 ⟨vy, rfl, hny, hbx2⟩
          try dsimp only at hny ⊢
          have HB7 := Lib.hid (HB6.out.trans (hbx2.mono HB6.out.size))
          have HZ7 := Lib.hid (HZ6.out.belowW hbx2)
          have OL7 := Lib.hid (OL6.out.kept hbx2)
          have OX7 := Lib.hid (OX6.out.kept hbx2)
          have OY7 := Lib.hid hny.own
          clear hny hbx2 HB6 HZ6 OL6 OX6
          have HB8 := HB7
          have HZ8 := HZ7
          have OL8 := OL7
          have OY8 := OY7
          clear HB7 HZ7 OL7 OX7 OY7
          have HB := HB8
          have HZ := HZ8
          clear HB8 HZ8 OL8 OY8 hRT hRS
          go_wp2_with fail
          refine (DrawReadNotation_any a2 l2 c2 z2 _ HZ.out HL2.out).mono ?_
          rintro e t1 ⟨j, tt, rfl, -, -, htt, hbt1⟩
          have HB1 := Lib.hid (HB.out.trans (hbt1.mono HB.out.size))
          have HTT := Lib.hid (show tt.size ≤ maxLen from Nat.le_trans htt (by unfold maxLen; omega))
          have HCI := Lib.hid (fun w => iReadNotation_any j tt w HTT.out)
          have HCS := Lib.hid (fun w => sReadNotation_any j tt w HTT.out)
          have HCC := Lib.hid (fun w => iCountChanges_any j tt w HTT.out)
          have HG := Lib.hid (fun h => read_good (n := j) (s := tt) h)
          have hRl := readP_size j tt
          clear hbt1 htt HTT HB HZ
          generalize readP j tt = R at *
          obtain ⟨Rl, Rc, Ra, Rok⟩ := R
          dsimp only at HCC HG hRl
          go_wp2_with fail
          refine (HCI.out _).mono ?_
          rintro e t2 ⟨vx, rfl, hnx, hbt2⟩
          dsimp only at hnx ⊢
          have HB2 := Lib.hid (HB1.out.trans (hbt2.mono HB1.out.size))
          have OX2 := Lib.hid hnx.own
          clear hnx hbt2 HB1
          go_wp2_with fail
          refine (HCS.out _).mono ?_
          rintro e t3 ⟨vy, rfl, hny, hbt3⟩
          dsimp only at hny ⊢
          have HB3 := Lib.hid (HB2.out.trans (hbt3.mono HB2.out.size))
          have OX3 := Lib.hid (OX2.out.kept hbt3)
          have OY3 := Lib.hid hny.own
          clear hny hbt3 HB2 OX2
          go_wp2_with fail
          refine (sameTexts_any vx vy Rl t3 OX3.out OY3.out (by omega)).mono ?_
          rintro e t4 ⟨rfl, hbt4⟩
          have HB4 := Lib.hid (HB3.out.trans (hbt4.mono HB3.out.size))
          have OX4 := Lib.hid (OX3.out.kept hbt4)
          clear hbt4 HB3 OX3 OY3
          cases Rok
          · go_wp2
            go_ret
            exact ⟨rfl, HB4.out⟩
          · obtain ⟨hgd, hun⟩ := HG.out rfl
            obtain ⟨ax, cx, hvx, -⟩ := OX4.out.view
            rw [strs_len] at hvx
            subst hvx
            have HNT := iNotationText_any j _ Rl t4 OX4.out.txts (by omega)
            rw [show noteT j Rl = textT true Rl by unfold noteT; rw [if_pos hgd], hgd] at HNT
            unfold TextRes at HNT
            have hemp := empty_txt (textT true Rl)
            rw [decide_eq_false (show ¬ (textT true Rl = []) from fun h => hun (by rw [h]; rfl))] at hemp
            have hemp2 : ((txt (textT true Rl)).toList == []) = false := by
              rw [beq_eq_false_iff_ne]
              intro h
              rw [h] at hemp
              simp at hemp
            generalize txt (textT true Rl) = U at *
            clear hgd hun HG OX4
            generalize Rl.length = kk at *
            go_wp2_with fail
            refine HNT.mono ?_
            rintro e t5 ⟨rfl, hbt5⟩
            have HB5 := Lib.hid (HB4.out.trans (hbt5.mono HB4.out.size))
            clear hbt5 HB4 HNT
            go_wp2_with fail
            refine (HCC.out _).mono ?_
            rintro e t6 ⟨rfl, hbt6⟩
            have HB6 := Lib.hid (HB5.out.trans (hbt6.mono HB5.out.size))
            clear hbt6 HB5
            go_wp2
            go_ret
            exact ⟨rfl, HB6.out⟩
end Go.Proofs.YtdflpkkcjbdpfaaDoor
