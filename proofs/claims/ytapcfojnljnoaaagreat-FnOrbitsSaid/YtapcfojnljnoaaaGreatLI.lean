/- What is so of the rows that rows generate, and of cosets: what the drawn laws ask. -/
import Derived.Test.YtapcfojnljnoaaaGreatLAC
import Derived.Test.YtapcfojnljnoaaaGreatRC
namespace Go.Proofs.YtapcfojnljnoaaaGreat
open Go.RowKit
set_option linter.unusedSimpArgs false
set_option linter.unusedVariables false

theorem mem_sortF {n : Nat} {fs : List (Nat → Nat)} {x : Nat → Nat} : x ∈ sortF n fs ↔ x ∈ fs := (sortF_perm n fs).mem_iff
/-- what is so of closed rows -/
structure ClosedF (L : List (List Nat)) (n : Nat) (fs S : List (Nat → Nat)) : Prop where
  three : 3 ≤ n
  eight : n ≤ 8
  rows : Rows n fs
  txts : ∀ W v, Txts W v L → Txts W v (rowsL n fs)
  len : fs.length = L.length
  pos : 0 < fs.length
  srows : Rows n S
  spos : 0 < S.length
  slen : S.length ≤ 800
  isg : isG (rowsL n S) = true
  rise : riseB (rowsL n S) = true
  div : ∃ c, fact n = c * S.length
  has : ∀ k (h : k < fs.length), ∃ j, ∃ hj : j < S.length, S[j] = fs[k]
  ord : ∀ k (h : k < fs.length), ∃ m c, IsOrd n fs[k] m ∧ S.length = c * m ∧ 0 < m
  nE : n = firstN L
  fsE : fs = rF L
  nodup : S.Nodup
  grp : IsGrp n S
  gen : ∀ x ∈ S, Gen n fs x
theorem closedF {L : List (List Nat)} (h : clB L = true) : ∃ n fs S, ClosedF L n fs S ∧ clL L = rowsL n S := by
  have hL : clL L = closeT (firstN L) (clR L) := by unfold clL; rw [if_pos h]
  unfold clB at h
  simp only [Bool.and_eq_true, decide_eq_true_eq] at h
  obtain ⟨⟨hb, h0⟩, h1⟩ := h
  obtain ⟨h3, h8, hp⟩ := first_row hb h0
  have hr := rowsB_rows hb
  obtain ⟨G, hG⟩ := Option.isSome_iff_exists.1 h1
  rw [hG, closeT_some] at hL
  unfold clR at hG
  have hg := bfsR_spec hr
  rw [hG] at hg
  have hg : IsGen (firstN L) (rF L) G := hg
  have hgr := hg.grp h3 h8 hr
  have hrw := hg.rows h3 h8 hr
  have hsr := rows_sort hrw
  have hsg := grp_sort hgr
  have hsn : (sortF (firstN L) G).Nodup := ((sortF_perm _ G).nodup_iff).2 hg.nodup
  have hsl : (sortF (firstN L) G).length ≤ 800 := by rw [sortF_len]; exact hg.len
  have hri := rise_sort hrw hg.nodup
  have hmem : ∀ k (h : k < (rF L).length), (rF L)[k] ∈ sortF (firstN L) G := fun k h => mem_sortF.2 ((hg.mem _).2 (Gen.gen hr (List.getElem_mem h)))
  refine ⟨firstN L, rF L, sortF (firstN L) G, ⟨h3, h8, hr, fun W v h => Txts.rows h hb, rF_len L, hp, hsr, List.length_pos_of_mem hsg.1, hsl, isG_rowsL hsr hsl hri hsg, riseB_rowsL hsr hsl hri (List.length_pos_of_mem hsg.1), grp_divides h3 h8 hsr hsn hsg, fun k h => ?_, fun k h => ?_, rfl, rfl, hsn, hsg, fun x hx => (hg.mem x).1 (mem_sortF.1 hx)⟩, hL⟩
  · obtain ⟨j, hj, e⟩ := List.getElem_of_mem (hmem k h)
    exact ⟨j, hj, e⟩
  · obtain ⟨m, hm⟩ := ord_exists (hr _ (List.getElem_mem h))
    obtain ⟨c, hc⟩ := ord_divides hsr hsn hsg (hmem k h) hm
    exact ⟨m, c, hm, hc, hm.pos⟩

theorem row_text {s : ByteArray} {n : Nat} (h : goodB s = true) (hn : s.size = n) : IsRow n (dg s) ∧ s = strOf n (dg s) := by
  have h1 := goodB_row h
  rw [hn] at h1
  have e := strOf_of_isStr (isStr_dg s)
  rw [hn] at e
  exact ⟨h1, e⟩
/-- one coset's least row, alone -/
theorem ded_one {n : Nat} {x : Nat → Nat} (hx : IsRow n x) {fs : List (Nat → Nat)} (h0 : 0 < fs.length) (h : ∀ y ∈ fs, y = x) : dedF (sortF n fs) = [x] := by
  have hr : Rows n fs := fun y hy => h y hy ▸ hx
  have := ded_sort (S := [x]) hr (fun y hy => by simp at hy; rw [hy]; exact hx) (by simp) (fun y => by
    rw [List.mem_singleton]
    constructor
    · rintro rfl
      cases fs with
      | nil => simp at h0
      | cons a t => rw [← h a List.mem_cons_self]; exact List.mem_cons_self
    · exact h y)
  rw [this]
  exact sortF_short (fun y hy => by simp at hy; rw [hy]; exact hx) (by simp)
/-- what is so of one coset -/
structure CosetF (L : List (List Nat)) (s : ByteArray) (n : Nat) (gs : List (Nat → Nat)) (x : Nat → Nat) (C : List (Nat → Nat)) : Prop where
  three : 3 ≤ n
  eight : n ≤ 8
  grows : Rows n gs
  row : IsRow n x
  str : s = strOf n x
  txts : ∀ W v, Txts W v L → Txts W v (rowsL n gs)
  glen : gs.length = L.length
  gpos : 0 < gs.length
  crows : Rows n C
  clen : C.length = gs.length
  small : C.length ≤ 800
  inB : ciB L (rowsL n C) = true
  inL : ciL L (rowsL n C) = rowsL n [C.getD 0 x]
  turn : ∀ k (h : k < gs.length), csB L (strOf n (mulR n x gs[k])) = true ∧ csL L (strOf n (mulR n x gs[k])) = rowsL n C
theorem csB_of {L : List (List Nat)} (hg : isG L = true) {f : Nat → Nat} (hf : IsRow (firstN L) f) : csB L (strOf (firstN L) f) = true ∧ csL L (strOf (firstN L) f) = rowsL (firstN L) (cosF (firstN L) (rF L) f) := by
  have h1 : csB L (strOf (firstN L) f) = true := by
    unfold csB
    rw [hg, goodB_strOf hf, strOf_size]
    simp
  refine ⟨h1, ?_⟩
  rw [csL_yes h1]
  unfold csF cosF
  rw [dg_strOf hf]
theorem cosetF {L : List (List Nat)} {s : ByteArray} (h : csB L s = true) : ∃ n gs x C, CosetF L s n gs x C ∧ csL L s = rowsL n C := by
  have hL := csL_yes h
  unfold csB at h
  simp only [Bool.and_eq_true, decide_eq_true_eq] at h
  obtain ⟨hg, h1, h2⟩ := h
  obtain ⟨-, hb, h0, h3, h8, hr, hri, hG, hl⟩ := isG_facts hg
  obtain ⟨hx, hs⟩ := row_text h1 h2
  have hcr := cos_rows hx hr
  have hcl := cos_len (firstN L) (rF L) (dg s)
  have hcp := cos_pos (x := dg s) hG
  have hle : ∀ y ∈ (cosF (firstN L) (rF L) (dg s)).map (leastF (firstN L) (rF L)), y = leastF (firstN L) (rF L) (dg s) := fun y hy => by
    obtain ⟨z, hz, rfl⟩ := List.mem_map.1 hy
    exact least_eq hx hr hri.nodup hG hz
  have hrb : rowsB (firstN L) (rowsL (firstN L) (cosF (firstN L) (rF L) (dg s))) = true := rowsB_rowsL hcr (by omega)
  have hci : ciB L (rowsL (firstN L) (cosF (firstN L) (rF L) (dg s))) = true := by
    unfold ciB
    rw [hg, hrb]
    rfl
  refine ⟨firstN L, rF L, dg s, cosF (firstN L) (rF L) (dg s), ⟨h3, h8, hr, hx, hs, fun W v h => Txts.rows h hb, rF_len L, List.length_pos_of_mem hG.1, hcr, hcl, by omega, hci, ?_, fun k hk => ?_⟩, hL⟩
  · rw [ciL_yes hci]
    unfold ciF
    rw [rF_rowsL hcr, ded_one (least_row hx hr hG) (by rw [List.length_map]; exact hcp) hle]
    rfl
  · have hk := hr _ (List.getElem_mem hk)
    have hm := List.getElem_mem ‹k < (rF L).length›
    obtain ⟨q1, q2⟩ := csB_of hg (isRow_mul hx hk)
    refine ⟨q1, ?_⟩
    rw [q2, cos_eq hx hr hri.nodup hG (cos_mem.2 ⟨_, hm, rfl⟩)]
/-- what is so of the least rows of cosets -/
structure LeastF (L : List (List Nat)) (n : Nat) (Z : List (Nat → Nat)) : Prop where
  eight : n ≤ 8
  rows : Rows n Z
  head : ∀ k (h : k < Z.length), csB L (strOf n Z[k]) = true ∧ ∃ C, csL L (strOf n Z[k]) = rowsL n (Z[k] :: C) ∧ C.length ≤ 800
  up : ∀ k (h : k + 1 < Z.length), Op.bytesLess (strOf n (Z[k]'(by omega))).toList (strOf n Z[k + 1]).toList = true
theorem leastsF {L M : List (List Nat)} (h : ciB L M = true) : ∃ n Z, LeastF L n Z ∧ ciL L M = rowsL n Z ∧ Z.length ≤ M.length := by
  have hL := ciL_yes h
  unfold ciB at h
  simp only [Bool.and_eq_true] at h
  obtain ⟨hg, hm⟩ := h
  obtain ⟨-, hb, h0, h3, h8, hr, hri, hG, hl⟩ := isG_facts hg
  have hM := rowsB_rows hm
  have hlr := least_rows hM hr hG
  obtain ⟨q1, q2⟩ := ded_all (sortF (firstN L) ((rF M).map (leastF (firstN L) (rF L)))) [] (rows_sort hlr) (fun x hx => by simp at hx) List.Pairwise.nil (sortF_ord _ _) (fun x hx => by simp at hx)
  have q1 : Up (firstN L) (ciF L M) := q1
  have hz : ∀ x ∈ ciF L M, ∃ y, IsRow (firstN L) y ∧ x = leastF (firstN L) (rF L) y := fun x hx => by
    rcases (q2 x).1 hx with h | h
    · simp at h
    · obtain ⟨y, hy, e⟩ := List.mem_map.1 (mem_sortF.1 h)
      exact ⟨y, hM y hy, e.symm⟩
  have hzr : Rows (firstN L) (ciF L M) := fun x hx => by
    obtain ⟨y, hy, rfl⟩ := hz x hx
    exact least_row hy hr hG
  refine ⟨firstN L, ciF L M, ⟨h8, hzr, fun k hk => ?_, fun k hk => ?_⟩, hL, ?_⟩
  · obtain ⟨y, hy, e⟩ := hz _ (List.getElem_mem hk)
    have hzk := hzr _ (List.getElem_mem hk)
    obtain ⟨c1, c2⟩ := csB_of hg hzk
    refine ⟨c1, (cosF (firstN L) (rF L) (ciF L M)[k]).tail, ?_, ?_⟩
    · rw [c2]
      congr 1
      have hp := cos_pos (x := (ciF L M)[k]) hG
      have h1 := least_get hp
      have h2 : leastF (firstN L) (rF L) (ciF L M)[k] = (ciF L M)[k] := by
        have := least_eq hy hr hri.nodup hG (least_mem (x := y) hG)
        rw [e]
        exact this
      rw [h2] at h1
      generalize cosF (firstN L) (rF L) (ciF L M)[k] = cs at *
      cases cs with
      | nil => simp at hp
      | cons a t => simp at h1; rw [h1]; rfl
    · rw [List.length_tail, cos_len]; omega
  · rw [less_rows (hzr _ (List.getElem_mem _)) (hzr _ (List.getElem_mem _))]
    have := List.pairwise_iff_getElem.1 q1 k (k + 1) (by omega) hk (by omega)
    simpa [ltF] using this
  · have := ded_len (sortF (firstN L) ((rF M).map (leastF (firstN L) (rF L)))) []
    rw [sortF_len, List.length_map, rF_len] at this
    unfold ciF dedF
    simpa using this
theorem leastsAll {L M : List (List Nat)} : ∃ n Z, LeastF L n Z ∧ ciL L M = rowsL n Z ∧ Z.length ≤ M.length := by
  by_cases h : ciB L M = true
  · exact leastsF h
  · exact ⟨3, [], ⟨by omega, fun x hx => by simp at hx, fun k hk => by simp at hk, fun k hk => by simp at hk⟩, ciL_no (by simpa using h), by simp⟩
end Go.Proofs.YtapcfojnljnoaaaGreat
