/- Place notation on letters: sizes; what is read. -/
import Derived.Test.YtdflpkkcjbdpfaaDoorR1
namespace Go.Proofs.YtdflpkkcjbdpfaaDoor

theorem spanW_pos' {n : Nat} {L : List Nat} {p : Nat} (h : wordP n L p ≠ []) : 0 < spanW (L.drop p) := by
  rcases Nat.eq_zero_or_pos (spanW (L.drop p)) with h0 | h0
  · exact absurd (by unfold wordP; rw [if_pos h0]) h
  · exact h0
theorem nextP_ge (L : List Nat) (p : Nat) : p ≤ nextP L p := by unfold nextP; split <;> omega
theorem moreP_len (n : Nat) (L : List Nat) : ∀ (f p : Nat) (cs : List (List Nat)) (p' : Nat), moreP n L f p = .ok (cs, p') → p + cs.length ≤ p' ∧ ∀ c ∈ cs, goodL n c = true
  | 0, p, cs, p', h => by
    simp only [moreP, Except.ok.injEq, Prod.mk.injEq] at h
    obtain ⟨rfl, rfl⟩ := h
    simp
  | f + 1, p, cs, p', h => by
    conv at h => lhs; unfold moreP
    split at h
    · simp only [Except.ok.injEq, Prod.mk.injEq] at h
      obtain ⟨rfl, rfl⟩ := h
      simp
    · split at h
      · cases h
      · rename_i hw
        have hp := spanW_pos' hw
        have hg := wordP_good n L _ hw
        have hn := nextP_ge L p
        cases hm : moreP n L f (nextP L p + spanW (L.drop (nextP L p))) with
        | error e => rw [hm] at h; cases h
        | ok x =>
          obtain ⟨cs2, p2⟩ := x
          rw [hm] at h
          simp only [Blk.cat, Except.ok.injEq, Prod.mk.injEq] at h
          obtain ⟨rfl, rfl⟩ := h
          obtain ⟨h1, h2⟩ := moreP_len n L f _ _ _ hm
          refine ⟨by simp; omega, fun c hc => ?_⟩
          rcases List.mem_append.1 hc with h3 | h3
          · simp at h3; subst h3; exact hg
          · exact h2 c h3
theorem blockP_len (n : Nat) (L : List Nat) (p : Nat) (cs : List (List Nat)) (p' : Nat) (h : blockP n L p = .ok (cs, p')) : p + cs.length ≤ p' ∧ ∀ c ∈ cs, goodL n c = true := by
  unfold blockP at h
  split at h
  · cases h
  · rename_i hw
    have hp := spanW_pos' hw
    have hg := wordP_good n L _ hw
    cases hm : moreP n L L.length (p + spanW (L.drop p)) with
    | error e => rw [hm] at h; cases h
    | ok x =>
      obtain ⟨cs2, p2⟩ := x
      rw [hm] at h
      simp only [Blk.cat, Except.ok.injEq, Prod.mk.injEq] at h
      obtain ⟨rfl, rfl⟩ := h
      obtain ⟨h1, h2⟩ := moreP_len n L _ _ _ _ hm
      refine ⟨by simp; omega, fun c hc => ?_⟩
      rcases List.mem_append.1 hc with h3 | h3
      · simp at h3; subst h3; exact hg
      · exact h2 c h3
theorem moreB_len (n : Nat) (L : List Nat) : ∀ (f p : Nat) (bs : List (List (List Nat))), p ≤ L.length → moreB n L f p = .ok bs → p + bs.length ≤ L.length ∧ ∀ b ∈ bs, b ≠ [] ∧ b.length ≤ L.length ∧ ∀ c ∈ b, goodL n c = true
  | 0, p, bs, hp, h => by
    simp only [moreB, Except.ok.injEq] at h
    subst h
    simpa using hp
  | f + 1, p, bs, hp, h => by
    conv at h => lhs; unfold moreB
    split at h
    · simp only [Except.ok.injEq] at h
      subst h
      simpa using hp
    · rename_i hc
      cases hb : blockP n L (p + 1) with
      | error e => rw [hb] at h; cases h
      | ok x =>
        obtain ⟨cs, p1⟩ := x
        rw [hb] at h
        simp only at h
        obtain ⟨e1, e2, _, e4⟩ := blockP_end n L _ _ _ hb
        obtain ⟨e5, e6⟩ := blockP_len n L _ _ _ hb
        cases hm : moreB n L f p1 with
        | error e => rw [hm] at h; cases h
        | ok bs2 =>
          rw [hm] at h
          simp only [Blks.cat, Except.ok.injEq] at h
          subst h
          obtain ⟨h1, h2⟩ := moreB_len n L f p1 bs2 e2 hm
          refine ⟨by simp; omega, fun b hb9 => ?_⟩
          rcases List.mem_append.1 hb9 with h3 | h3
          · simp at h3; subst h3; exact ⟨e4, by omega, e6⟩
          · exact h2 b h3
theorem blocksP_len {n : Nat} {L : List Nat} {bs : List (List (List Nat))} (h : blocksP n L = .ok bs) : 1 ≤ bs.length ∧ bs.length ≤ L.length ∧ ∀ b ∈ bs, b ≠ [] ∧ b.length ≤ L.length ∧ ∀ c ∈ b, goodL n c = true := by
  unfold blocksP at h
  cases hb : blockP n L 0 with
  | error e => rw [hb] at h; cases h
  | ok x =>
    obtain ⟨cs, p1⟩ := x
    rw [hb] at h
    simp only at h
    obtain ⟨e1, e2, _, e4⟩ := blockP_end n L _ _ _ hb
    obtain ⟨e5, e6⟩ := blockP_len n L _ _ _ hb
    cases hm : moreB n L L.length p1 with
    | error e => rw [hm] at h; cases h
    | ok bs2 =>
      rw [hm] at h
      simp only [Blks.cat, Except.ok.injEq] at h
      subst h
      obtain ⟨h1, h2⟩ := moreB_len n L _ p1 bs2 e2 hm
      refine ⟨by simp, by simp; omega, fun b hb9 => ?_⟩
      rcases List.mem_append.1 hb9 with h3 | h3
      · simp at h3; subst h3; exact ⟨e4, by omega, e6⟩
      · exact h2 b h3
end Go.Proofs.YtdflpkkcjbdpfaaDoor
