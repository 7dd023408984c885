/- Lagrange: a group's size divides that of what its products keep; orders divide it; it divides the number of all rows. -/
import Derived.Test.YtapcfojnljnoaaaLA
namespace Go.Proofs.Ytapcfojnljnoaaa
open Go.RowKit
set_option linter.unusedSimpArgs false
set_option linter.unusedVariables false

open Classical in
theorem lagrange {n : Nat} {gs : List (Nat → Nat)} (hg : Rows n gs) (hn : gs.Nodup) (hG : IsGrp n gs) : ∀ (N : Nat) (S : List (Nat → Nat)), S.length ≤ N → S.Nodup → Rows n S → (∀ x ∈ S, ∀ h ∈ gs, mulR n x h ∈ S) → ∃ c, S.length = c * gs.length
  | N, [], _, _, _, _ => ⟨0, by simp⟩
  | 0, x :: S, hl, _, _, _ => by simp at hl
  | N + 1, x :: S, hl, hnd, hr, hc => by
    have hx := hr x List.mem_cons_self
    have hcn : (cosF n gs x).Nodup := ((sortF_perm n _).nodup_iff).2 (map_nodup hx hg hn)
    have hin : ∀ z ∈ cosF n gs x, z ∈ x :: S := fun z hz => by
      obtain ⟨h, hh, rfl⟩ := cos_mem.1 hz
      exact hc x List.mem_cons_self h hh
    have hp : ((x :: S).filter fun z => decide (z ∈ cosF n gs x)).Perm (cosF n gs x) := (List.perm_ext_iff_of_nodup (hnd.filter _) hcn).2 fun z => by
      rw [List.mem_filter, decide_eq_true_eq]
      exact ⟨fun h => h.2, fun h => ⟨hin z h, h⟩⟩
    have hsum := List.length_eq_countP_add_countP (fun z => decide (z ∈ cosF n gs x)) (l := x :: S)
    rw [List.countP_eq_length_filter, List.countP_eq_length_filter, hp.length_eq, cos_len] at hsum
    have hpos : 0 < gs.length := List.length_pos_of_mem hG.1
    obtain ⟨c, hcc⟩ := lagrange hg hn hG N ((x :: S).filter fun z => decide ¬ (decide (z ∈ cosF n gs x)) = true) (by omega) (hnd.filter _) (fun z hz => hr z (List.mem_filter.1 hz).1) (fun z hz h hh => by
      obtain ⟨h1, h2⟩ := List.mem_filter.1 hz
      have h2 : z ∉ cosF n gs x := by simpa using h2
      refine List.mem_filter.2 ⟨hc z h1 h hh, ?_⟩
      have hzr := hr z h1
      have : mulR n z h ∉ cosF n gs x := fun hm => by
        have e1 := cos_eq hx hg hn hG hm
        have e2 := cos_eq hzr hg hn hG (z := mulR n z h) (cos_mem.2 ⟨h, hh, rfl⟩)
        rw [e2] at e1
        exact h2 (e1 ▸ cos_self hzr hG)
      simpa using this)
    refine ⟨c + 1, ?_⟩
    rw [Nat.succ_mul, ← hcc]
    omega

/-- all rows of a stage -/
noncomputable def allRows (n : Nat) : List (Nat → Nat) := (List.range (fact n)).map (rankF n)
theorem allRows_len (n : Nat) : (allRows n).length = fact n := by simp [allRows]
theorem allRows_nodup (n : Nat) : (allRows n).Nodup := by
  unfold allRows List.Nodup
  rw [List.pairwise_map]
  refine List.Pairwise.imp_of_mem ?_ List.nodup_range
  intro a b ha hb hne e
  have h1 := place_rank (n := n) (List.mem_range.1 ha)
  have h2 := place_rank (n := n) (List.mem_range.1 hb)
  rw [e, h2] at h1
  exact hne h1.symm
theorem mem_allRows {n : Nat} (h3 : 3 ≤ n) (h8 : n ≤ 8) {f : Nat → Nat} : f ∈ allRows n ↔ IsRow n f := by
  unfold allRows
  rw [List.mem_map]
  constructor
  · rintro ⟨k, hk, rfl⟩
    exact isRow_rank h3 h8 (List.mem_range.1 hk)
  · intro hf
    refine ⟨plR n f, List.mem_range.2 (plR_lt n f), ?_⟩
    exact plR_inj (isRow_rank h3 h8 (plR_lt n f)) hf (place_rank (plR_lt n f))
/-- a group's size divides the number of rows -/
theorem grp_divides {n : Nat} (h3 : 3 ≤ n) (h8 : n ≤ 8) {gs : List (Nat → Nat)} (hg : Rows n gs) (hn : gs.Nodup) (hG : IsGrp n gs) : ∃ c, fact n = c * gs.length := by
  have := lagrange hg hn hG _ (allRows n) (Nat.le_refl _) (allRows_nodup n) (fun x hx => (mem_allRows h3 h8).1 hx) (fun x hx h hh => (mem_allRows h3 h8).2 (isRow_mul ((mem_allRows h3 h8).1 hx) (hg h hh)))
  rwa [allRows_len] at this
/-- what a group generates: it is one -/
theorem IsGen.grp {n : Nat} {gens G : List (Nat → Nat)} (h3 : 3 ≤ n) (h8 : n ≤ 8) (hg : Rows n gens) (h : IsGen n gens G) : IsGrp n G :=
  ⟨(h.mem _).2 .one, fun a ha b hb => (h.mem _).2 (((h.mem a).1 ha).times h3 h8 hg ((h.mem b).1 hb))⟩
/-- a row's order divides a group that has it -/
theorem ord_divides {n : Nat} {G : List (Nat → Nat)} (hg : Rows n G) (hn : G.Nodup) (hG : IsGrp n G) {f : Nat → Nat} (hf : f ∈ G) {m : Nat} (hm : IsOrd n f m) : ∃ c, G.length = c * m := by
  have hr := hg f hf
  have hmp := hm.pos
  have hpow : ∀ k, powR n f k ∈ G := fun k => by
    induction k with
    | zero => exact hG.1
    | succ k ih => exact hG.2 _ ih _ hf
  have hgr : IsGrp n ((List.range m).map (powR n f)) := by
    refine ⟨List.mem_map.2 ⟨0, List.mem_range.2 hmp, rfl⟩, fun a ha b hb => ?_⟩
    obtain ⟨i, hi, rfl⟩ := List.mem_map.1 ha
    obtain ⟨j, hj, rfl⟩ := List.mem_map.1 hb
    rw [← pow_add hr, ← pow_mod hr hm.back]
    exact List.mem_map.2 ⟨(i + j) % m, List.mem_range.2 (Nat.mod_lt _ hmp), rfl⟩
  have hrw : Rows n ((List.range m).map (powR n f)) := fun x hx => by
    obtain ⟨i, _, rfl⟩ := List.mem_map.1 hx
    exact hg _ (hpow i)
  have hnd : ((List.range m).map (powR n f)).Nodup := by
    unfold List.Nodup
    rw [List.pairwise_map]
    refine List.Pairwise.imp_of_mem ?_ List.pairwise_lt_range
    intro a b ha hb hab e
    have ha := List.mem_range.1 ha
    have hb := List.mem_range.1 hb
    have e2 : powR n f (b - a) = rdf n := by
      have h1 : powR n f (a + (b - a)) = mulR n (powR n f a) (powR n f (b - a)) := pow_add hr a (b - a)
      rw [show a + (b - a) = b by omega, ← e] at h1
      have h2 : mulR n (powR n f a) (rdf n) = powR n f a := mul_rounds (hg _ (hpow a))
      exact mulR_cancel (hg _ (hpow a)) (hg _ (hpow (b - a))) (isRow_rdf hr.three hr.eight) (h1.symm.trans h2.symm)
    exact hm.least (b - a) (by omega) (by omega) e2
  have := lagrange hrw hnd hgr _ G (Nat.le_refl _) hn hg (fun x hx h hh => by
    obtain ⟨i, _, rfl⟩ := List.mem_map.1 hh
    exact hG.2 _ hx _ (hpow i))
  simpa using this
end Go.Proofs.Ytapcfojnljnoaaa
