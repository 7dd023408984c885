/- CosetsIn, the program. -/
import Derived.Test.YtapcfojnljnoaaaGreatRB
namespace Go.Proofs.YtapcfojnljnoaaaGreat
open Go.RowKit
set_option linter.unusedSimpArgs false
set_option linter.unusedVariables false

theorem belowOnly {B b : Nat} {A W W' : World} (h : Below B A W) (ho : Only b W W') (hb : B ≤ b) (hs : B ≤ W.heap.size) : Below B A W' :=
  h.trans ⟨ho.os, ho.tape, ho.output, ho.size, fun k hk => ho.block k (by omega) (by omega)⟩
theorem onlyGrown {b : Nat} {W W' : World} (hg : W.grownBy W' (some b)) : Only b W W' := ⟨hg.os, hg.tape, hg.output, hg.size, fun k hk hne => hg.block k hk (fun e => by injection e with e; exact hne e)⟩
theorem SetAt.only {W W' : World} {n b c : Nat} {S : List (Nat → Nat)} (h : SetAt W n b S) (ho : Only c W W') (hne : b ≠ c) : SetAt W' n b S := h.block (ho.block b h.lt hne)
theorem NewD.only {B c : Nat} {W W' : World} {v : Value} {fs : List (Nat → Nat)} (h : NewD B W v fs) (ho : Only c W W') (hne : v.ownBlock ≠ some c) : NewD B W' v fs := h.blockK fun g hg => ho.block g (h.lt g hg).2 (fun e => hne (by rw [← e]; exact hg))
theorem NewD.apartSet {W : World} {n b B : Nat} {S fs : List (Nat → Nat)} {v : Value} (h : NewD B W v fs) (hs : SetAt W n b S) : v.ownBlock ≠ some b := by
  obtain ⟨h1, h2⟩ := h
  rcases h2 with ⟨rfl, h0⟩ | ⟨g, cap, cur, rfl, hBg, hb, _⟩
  · simp [Value.ownBlock]
  · obtain ⟨_, _, es, ⟨xs, clock, e1, _⟩, _⟩ := hs
    intro e
    have e : g = b := by simpa [Value.ownBlock] using e
    subst e
    rw [hb] at e1
    cases e1
theorem NewD.at8 {W : World} {B g m cap : Nat} {fs : List (Nat → Nat)} (h : NewD B W (.slice (some ⟨g, 0, none⟩) m cap) fs) (i : Nat) (hi : i < fs.length) : W.rangeAt g (i * 8) (cells8 fs[i]) := by
  obtain ⟨a', cap', e1, _, hcc⟩ := h.digs
  obtain ⟨g', off', e2, _, hc⟩ := hcc (by omega)
  injection e1 with e1
  rw [← e1] at e2
  injection e2 with e2
  injection e2 with e2 e3
  subst e2 e3
  have := hc i hi
  rwa [Nat.zero_add] at this
theorem dropF_take {S fs : List (Nat → Nat)} {j : Nat} (hj : j < fs.length) : dropF' S (fs.take (j + 1)) = lessF (dropF' S (fs.take j)) fs[j] := by
  unfold dropF'
  rw [List.take_add_one, List.getElem?_eq_getElem hj, List.foldl_append]
  rfl

/-- what the walk through the rows knows -/
structure Inv (n : Nat) (gs list left S : List (Nat → Nat)) (j : Nat) : Prop where
  away : ∀ x ∈ list, x ∉ left → leastF n gs x ∈ S
  done : ∀ x ∈ list.take j, leastF n gs x ∈ S
  only : ∀ y ∈ S, ∃ x ∈ list, leastF n gs x = y
  len : S.length ≤ j
theorem Inv.start (n : Nat) (gs list : List (Nat → Nat)) : Inv n gs list (rowsIn list) [] 0 := ⟨fun x hx hn => absurd ((mem_rowsIn list x).2 hx) hn, fun x hx => by simp at hx, fun y hy => by simp at hy, by simp⟩
theorem Inv.skip {n : Nat} {gs list left S : List (Nat → Nat)} {j : Nat} (h : Inv n gs list left S j) (hj : j < list.length) (hout : list[j] ∉ left) : Inv n gs list left S (j + 1) :=
  ⟨h.away, fun x hx => by
    rw [List.take_add_one, List.getElem?_eq_getElem hj] at hx
    rcases List.mem_append.1 hx with hx | hx
    · exact h.done x hx
    · simp at hx; rw [hx]; exact h.away _ (List.getElem_mem hj) hout, h.only, Nat.le_succ_of_le h.len⟩
theorem Inv.take {n : Nat} {gs list left S : List (Nat → Nat)} {j : Nat} (h : Inv n gs list left S j) (hj : j < list.length) (hl : Rows n list) (hg : Rows n gs) (hn : gs.Nodup) (hG : IsGrp n gs) :
    Inv n gs list (dropF' left (cosF n gs list[j])) (withF S (leastF n gs list[j])) (j + 1) :=
  ⟨fun x hx hno => by
    rw [mem_dropF] at hno
    by_cases hxl : x ∈ left
    · have hxc : x ∈ cosF n gs list[j] := Classical.byContradiction fun h => hno ⟨hxl, h⟩
      rw [least_eq (hl _ (List.getElem_mem hj)) hg hn hG hxc]
      exact mem_with.2 (.inr rfl)
    · exact mem_with.2 (.inl (h.away x hx hxl)), fun x hx => by
    rw [List.take_add_one, List.getElem?_eq_getElem hj] at hx
    rcases List.mem_append.1 hx with hx | hx
    · exact mem_with.2 (.inl (h.done x hx))
    · simp at hx; rw [hx]; exact mem_with.2 (.inr rfl), fun y hy => by
    rcases mem_with.1 hy with hy | rfl
    · exact h.only y hy
    · exact ⟨_, List.getElem_mem hj, rfl⟩, by have := h.len; have := with_len S (leastF n gs list[j]); omega⟩
theorem Inv.fin {n : Nat} {gs list left S : List (Nat → Nat)} {j : Nat} (h : Inv n gs list left S j) (hj : list.length ≤ j) (x : Nat → Nat) : x ∈ S ↔ x ∈ list.map (leastF n gs) := by
  constructor
  · intro hx
    obtain ⟨y, hy, rfl⟩ := h.only x hx
    exact List.mem_map.2 ⟨y, hy, rfl⟩
  · intro hx
    obtain ⟨y, hy, rfl⟩ := List.mem_map.1 hx
    exact h.done y (by rw [List.take_of_length_le hj]; exact hy)

noncomputable def ciB (L M : List (List Nat)) : Bool := isG L && rowsB (firstN L) M
noncomputable def ciF (L M : List (List Nat)) : List (Nat → Nat) := dedF (sortF (firstN L) ((rF M).map (leastF (firstN L) (rF L))))
noncomputable def ciL (L M : List (List Nat)) : List (List Nat) := if ciB L M = true then rowsL (firstN L) (ciF L M) else []
theorem ciL_no {L M : List (List Nat)} (h : ciB L M = false) : ciL L M = [] := by unfold ciL; simp [h]
theorem ciL_yes {L M : List (List Nat)} (h : ciB L M = true) : ciL L M = rowsL (firstN L) (ciF L M) := by unfold ciL; simp [h]
theorem least_rows {n : Nat} {gs list : List (Nat → Nat)} (hl : Rows n list) (hg : Rows n gs) (hG : IsGrp n gs) : Rows n (list.map (leastF n gs)) := fun y hy => by
  obtain ⟨x, hx, rfl⟩ := List.mem_map.1 hy
  exact least_row (hl x hx) hg hG

end Go.Proofs.YtapcfojnljnoaaaGreat
