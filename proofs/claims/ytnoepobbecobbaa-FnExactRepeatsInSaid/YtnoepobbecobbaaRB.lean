/- Cosets of a group of rows, purely. -/
import Derived.Test.YtnoepobbecobbaaRA
namespace Go.Proofs.Ytnoepobbecobbaa
open Go.RowKit
set_option linter.unusedSimpArgs false
set_option linter.unusedVariables false

theorem nodup_perm {α : Type} [DecidableEq α] {a b : List α} (ha : a.Nodup) (hb : b.Nodup) (hs : ∀ x ∈ a, x ∈ b) (hl : b.length ≤ a.length) : a.Perm b :=
  (List.perm_ext_iff_of_nodup ha hb).2 fun x => ⟨hs x, fun hx => by
    by_cases hxa : x ∈ a
    · exact hxa
    · have := (List.nodup_cons.2 ⟨hxa, ha⟩).length_le_of_subset (l₂ := b) fun y hy => by
        rcases List.mem_cons.1 hy with rfl | hy
        · exact hx
        · exact hs y hy
      rw [List.length_cons] at this
      omega⟩
theorem mulR_cancel {n : Nat} {x a b : Nat → Nat} (hx : IsRow n x) (ha : IsRow n a) (hb : IsRow n b) (e : mulR n x a = mulR n x b) : a = b := by
  rw [← quo_mul hx ha, ← quo_mul hx hb, e]

/-- the coset of a row, in order; its least -/
def cosF (n : Nat) (gs : List (Nat → Nat)) (x : Nat → Nat) : List (Nat → Nat) := sortF n (gs.map (mulR n x))
def leastF (n : Nat) (gs : List (Nat → Nat)) (x : Nat → Nat) : Nat → Nat := (cosF n gs x).getD 0 x
theorem cos_mem {n : Nat} {gs : List (Nat → Nat)} {x z : Nat → Nat} : z ∈ cosF n gs x ↔ ∃ g ∈ gs, mulR n x g = z := by
  unfold cosF
  rw [(sortF_perm n _).mem_iff, List.mem_map]
theorem cos_len (n : Nat) (gs : List (Nat → Nat)) (x : Nat → Nat) : (cosF n gs x).length = gs.length := by unfold cosF; rw [sortF_len, List.length_map]
theorem cos_rows {n : Nat} {gs : List (Nat → Nat)} {x : Nat → Nat} (hx : IsRow n x) (hg : Rows n gs) : Rows n (cosF n gs x) := rows_sort (rows_map hx hg)
theorem cos_self {n : Nat} {gs : List (Nat → Nat)} {x : Nat → Nat} (hx : IsRow n x) (hG : IsGrp n gs) : x ∈ cosF n gs x := cos_mem.2 ⟨rdf n, hG.1, mul_rounds hx⟩
theorem map_nodup {n : Nat} {x : Nat → Nat} (hx : IsRow n x) : ∀ {gs : List (Nat → Nat)}, Rows n gs → gs.Nodup → (gs.map (mulR n x)).Nodup
  | [], _, _ => List.nodup_nil
  | g :: gs, hr, hn => by
    obtain ⟨h1, h2⟩ := List.nodup_cons.1 hn
    rw [List.map_cons, List.nodup_cons]
    refine ⟨fun hm => ?_, map_nodup hx hr.tail h2⟩
    obtain ⟨y, hy, e⟩ := List.mem_map.1 hm
    have := mulR_cancel hx (hr.tail y hy) hr.head e
    exact h1 (this ▸ hy)
open Classical in
theorem cos_eq {n : Nat} {gs : List (Nat → Nat)} {x z : Nat → Nat} (hx : IsRow n x) (hg : Rows n gs) (hn : gs.Nodup) (hG : IsGrp n gs) (hz : z ∈ cosF n gs x) : cosF n gs z = cosF n gs x := by
  obtain ⟨g0, hg0, rfl⟩ := cos_mem.1 hz
  have hz' : IsRow n (mulR n x g0) := isRow_mul hx (hg g0 hg0)
  refine sortF_congr (rows_map hx hg) ?_
  refine nodup_perm (map_nodup hz' hg hn) (map_nodup hx hg hn) (fun y hy => ?_) (by simp)
  obtain ⟨g, hgm, rfl⟩ := List.mem_map.1 hy
  exact List.mem_map.2 ⟨mulR n g0 g, hG.2 _ hg0 _ hgm, (mulR_assoc hx (hg g0 hg0) (hg g hgm)).symm⟩
theorem ord_first {n : Nat} {fs : List (Nat → Nat)} (ho : Ord n fs) (h0 : 0 < fs.length) : ∀ z ∈ fs, rowKey n fs[0] ≤ rowKey n z := by
  cases fs with
  | nil => simp at h0
  | cons f fs =>
    intro z hz
    rcases List.mem_cons.1 hz with rfl | hz
    · exact Nat.le_refl _
    · exact (List.pairwise_cons.1 ho).1 z hz
theorem least_get {n : Nat} {gs : List (Nat → Nat)} {x : Nat → Nat} (h : 0 < (cosF n gs x).length) : leastF n gs x = (cosF n gs x)[0] := by
  unfold leastF
  rw [List.getD_eq_getElem?_getD, List.getElem?_eq_getElem h, Option.getD_some]
theorem cos_pos {n : Nat} {gs : List (Nat → Nat)} {x : Nat → Nat} (hG : IsGrp n gs) : 0 < (cosF n gs x).length := by
  rw [cos_len]; exact List.length_pos_of_mem hG.1
theorem least_mem {n : Nat} {gs : List (Nat → Nat)} {x : Nat → Nat} (hG : IsGrp n gs) : leastF n gs x ∈ cosF n gs x := by
  rw [least_get (cos_pos hG)]; exact List.getElem_mem _
theorem least_le {n : Nat} {gs : List (Nat → Nat)} {x z : Nat → Nat} (hG : IsGrp n gs) (hz : z ∈ cosF n gs x) : rowKey n (leastF n gs x) ≤ rowKey n z := by
  rw [least_get (cos_pos hG)]; exact ord_first (sortF_ord _ _) _ z hz
theorem least_row {n : Nat} {gs : List (Nat → Nat)} {x : Nat → Nat} (hx : IsRow n x) (hg : Rows n gs) (hG : IsGrp n gs) : IsRow n (leastF n gs x) := cos_rows hx hg _ (least_mem hG)
theorem least_eq {n : Nat} {gs : List (Nat → Nat)} {x z : Nat → Nat} (hx : IsRow n x) (hg : Rows n gs) (hn : gs.Nodup) (hG : IsGrp n gs) (hz : z ∈ cosF n gs x) : leastF n gs z = leastF n gs x := by
  have hz0 := cos_rows hx hg z hz
  have e := cos_eq hx hg hn hG hz
  rw [least_get (cos_pos hG), least_get (cos_pos hG)]
  simp only [e]

/-- what is left of a set -/
noncomputable def dropF' (S fs : List (Nat → Nat)) : List (Nat → Nat) := fs.foldl lessF S
theorem mem_dropF : ∀ (fs S : List (Nat → Nat)) (z : Nat → Nat), z ∈ dropF' S fs ↔ z ∈ S ∧ z ∉ fs
  | [], S, z => by simp [dropF']
  | f :: fs, S, z => by
    show z ∈ dropF' (lessF S f) fs ↔ _
    rw [mem_dropF fs, mem_less, List.mem_cons, not_or, and_assoc]

/-- each row once, of rows in order -/
noncomputable def dedS (out : List (Nat → Nat)) (r : Nat → Nat) : List (Nat → Nat) := open Classical in if out.getLast? = some r then out else out ++ [r]
noncomputable def dedF (fs : List (Nat → Nat)) : List (Nat → Nat) := fs.foldl dedS []
def Up (n : Nat) (fs : List (Nat → Nat)) : Prop := fs.Pairwise fun f g => rowKey n f < rowKey n g
theorem Up.nodup {n : Nat} {fs : List (Nat → Nat)} (h : Up n fs) : fs.Nodup := h.imp fun {a b} h e => by rw [e] at h; omega
theorem Up.ord {n : Nat} {fs : List (Nat → Nat)} (h : Up n fs) : Ord n fs := h.imp fun {a b} h => Nat.le_of_lt h
theorem ded_all {n : Nat} : ∀ (fs out : List (Nat → Nat)), Rows n fs → Rows n out → Up n out → Ord n fs → (∀ x ∈ out, ∀ y ∈ fs, rowKey n x ≤ rowKey n y) →
    Up n (fs.foldl dedS out) ∧ ∀ x, x ∈ fs.foldl dedS out ↔ x ∈ out ∨ x ∈ fs
  | [], out, _, _, hu, _, _ => ⟨hu, fun x => by simp⟩
  | y :: fs, out, hr, ho, hu, hf, hle => by
    obtain ⟨hy, hf2⟩ := List.pairwise_cons.1 hf
    rw [List.foldl_cons]
    by_cases hl : out.getLast? = some y
    · have hym : y ∈ out := List.mem_of_getLast? hl
      rw [show dedS out y = out by simp [dedS, hl]]
      obtain ⟨h1, h2⟩ := ded_all fs out hr.tail ho hu hf2 fun x hx z hz => hle x hx z (List.mem_cons_of_mem _ hz)
      refine ⟨h1, fun x => (h2 x).trans ?_⟩
      rw [List.mem_cons]
      constructor
      · rintro (h | h)
        · exact .inl h
        · exact .inr (.inr h)
      · rintro (h | h | h)
        · exact .inl h
        · exact .inl (h ▸ hym)
        · exact .inr h
    · rw [show dedS out y = out ++ [y] by simp [dedS, hl]]
      have hlt : ∀ x ∈ out, rowKey n x < rowKey n y := by
        intro x hx
        have h1 := hle x hx y List.mem_cons_self
        refine Nat.lt_of_le_of_ne h1 fun e => ?_
        have e : x = y := rowKey_inj (ho x hx) hr.head e
        subst e
        obtain ⟨i, hi, e⟩ := List.getElem_of_mem hx
        have hu' := List.pairwise_iff_getElem.1 hu
        by_cases hil : i = out.length - 1
        · refine hl ?_
          rw [List.getLast?_eq_getElem?, ← hil, List.getElem?_eq_getElem hi, e]
        · have h2 := hu' i (out.length - 1) hi (by omega) (by omega)
          have h3 := hle _ (List.getElem_mem (show out.length - 1 < out.length by omega)) x List.mem_cons_self
          rw [e] at h2
          omega
      obtain ⟨h1, h2⟩ := ded_all fs (out ++ [y]) hr.tail (fun x hx => by
          rcases List.mem_append.1 hx with h | h
          · exact ho x h
          · simp at h; rw [h]; exact hr.head) (List.pairwise_append.2 ⟨hu, by simp, fun a ha b hb => by simp at hb; rw [hb]; exact hlt a ha⟩) hf2 (fun x hx z hz => by
          rcases List.mem_append.1 hx with h | h
          · exact hle x h z (List.mem_cons_of_mem _ hz)
          · simp at h; rw [h]; exact hy z hz)
      refine ⟨h1, fun x => (h2 x).trans ?_⟩
      simp [or_assoc]
/-- the two ways to the least rows -/
theorem ded_sort {n : Nat} {fs S : List (Nat → Nat)} (hf : Rows n fs) (hS : Rows n S) (hn : S.Nodup) (hm : ∀ x, x ∈ S ↔ x ∈ fs) : dedF (sortF n fs) = sortF n S := by
  obtain ⟨h1, h2⟩ := ded_all (sortF n fs) [] (rows_sort hf) (fun x hx => by simp at hx) List.Pairwise.nil (sortF_ord n fs) (fun x hx => by simp at hx)
  have hp : (dedF (sortF n fs)).Perm S := (List.perm_ext_iff_of_nodup (Up.nodup h1) hn).2 fun x => by
    rw [hm x]
    refine (h2 x).trans ?_
    rw [(sortF_perm n fs).mem_iff]
    simp
  exact sortF_unique hS hp (Up.ord h1)
theorem ded_len : ∀ (fs out : List (Nat → Nat)), (fs.foldl dedS out).length ≤ out.length + fs.length
  | [], out => by simp
  | f :: fs, out => by
    rw [List.foldl_cons]
    have := ded_len fs (dedS out f)
    have h2 : (dedS out f).length ≤ out.length + 1 := by unfold dedS; split <;> simp
    rw [List.length_cons]
    omega
end Go.Proofs.Ytnoepobbecobbaa
