/- Orbits of rows, purely: found number by number; spread as least labels. slices.Sort and slices.Contains on numbers; orbits in the program. Orbits in the program. -/
import Derived.Test.YtapcfojnljnoaaaGreatSN
import Derived.Shelf.SortM.Plain
import Derived.Shelf.SortM.SortNone
import Derived.Shelf.SlicesE.Index
import Derived.Sort.OwnSortedInts
import Derived.Test.YtapcfojnljnoaaaGreatSB
namespace Go.Proofs.YtapcfojnljnoaaaGreat
open Go.RowKit

/-- where a row moves a number -/
def act (f : Nat → Nat) (x : Nat) : Nat := f (x - 1) - 48
theorem act_rng {n : Nat} {f : Nat → Nat} (hf : IsRow n f) {x : Nat} (h1 : 1 ≤ x) (h2 : x ≤ n) : 1 ≤ act f x ∧ act f x ≤ n := by
  have h3 := hf.lo (x - 1) (by omega)
  have h4 := hf.hi (x - 1) (by omega)
  unfold act
  omega
theorem act_inj {n : Nat} {f : Nat → Nat} (hf : IsRow n f) {x y : Nat} (hx : 1 ≤ x ∧ x ≤ n) (hy : 1 ≤ y ∧ y ≤ n) (e : act f x = act f y) : x = y := by
  have h3 := hf.lo (x - 1) (by omega)
  have h5 := hf.lo (y - 1) (by omega)
  unfold act at e
  have := hf.inj (x - 1) (y - 1) (by omega) (by omega) (by omega)
  omega
def withN (o : List Nat) (y : Nat) : List Nat := if y ∈ o then o else o ++ [y]
def stepO (fs : List (Nat → Nat)) (x : Nat) (out : List Nat) : List Nat := fs.foldl (fun o f => withN o (act f x)) out
def bfsO (fs : List (Nat → Nat)) : Nat → Nat → List Nat → List Nat
  | 0, _, out => out
  | q + 1, k, out => if h : k < out.length then bfsO fs q (k + 1) (stepO fs out[k] out) else out
def orbF (n : Nat) (fs : List (Nat → Nat)) (s : Nat) : List Nat := bfsO fs (n + 1) 0 [s]
def InN (n : Nat) (l : List Nat) : Prop := ∀ x ∈ l, 1 ≤ x ∧ x ≤ n
def Chain (fs : List (Nat → Nat)) (out : List Nat) : Prop := ∀ i y, 0 < i → out[i]? = some y → ∃ k x f, k < i ∧ out[k]? = some x ∧ f ∈ fs ∧ y = act f x
/-- what is known on the way -/
structure OWay (n : Nat) (fs : List (Nat → Nat)) (s : Nat) (out : List Nat) : Prop where
  head : out[0]? = some s
  nodup : out.Nodup
  rng : InN n out
  chain : Chain fs out
theorem inN_len {n : Nat} {l : List Nat} (hn : l.Nodup) (h : InN n l) : l.length ≤ n := by
  have := hn.length_le_of_subset (l₂ := (List.range n).map (· + 1)) fun x hx => by
    have := h x hx
    exact List.mem_map.2 ⟨x - 1, List.mem_range.2 (by omega), by omega⟩
  simpa using this
theorem OWay.snoc {n : Nat} {fs : List (Nat → Nat)} {s : Nat} {out : List Nat} (h : OWay n fs s out) {k x : Nat} {f : Nat → Nat} (hx : out[k]? = some x) (hf : f ∈ fs) (hr : IsRow n f) : OWay n fs s (withN out (act f x)) := by
  unfold withN
  split
  · exact h
  · rename_i hno
    have hk : k < out.length := (List.getElem?_eq_some_iff.1 hx).1
    have hxm : x ∈ out := List.mem_of_getElem? hx
    refine ⟨by rw [List.getElem?_append_left (by omega)]; exact h.head, List.nodup_append.2 ⟨h.nodup, by simp, fun a ha b hb => by rintro rfl; simp at hb; exact hno (hb ▸ ha)⟩, fun y hy => ?_, fun i y hi hy => ?_⟩
    · rcases List.mem_append.1 hy with hy | hy
      · exact h.rng y hy
      · simp at hy; rw [hy]; exact act_rng hr (h.rng x hxm).1 (h.rng x hxm).2
    · by_cases hil : i < out.length
      · rw [List.getElem?_append_left hil] at hy
        obtain ⟨k', x', f', q1, q2, q3, q4⟩ := h.chain i y hi hy
        exact ⟨k', x', f', q1, by rw [List.getElem?_append_left (by omega)]; exact q2, q3, q4⟩
      · have hie : i = out.length := by
          have := (List.getElem?_eq_some_iff.1 hy).1
          rw [List.length_append] at this
          simp at this
          omega
        subst hie
        rw [List.getElem?_append_right (Nat.le_refl _), Nat.sub_self] at hy
        simp at hy
        exact ⟨k, x, f, hk, by rw [List.getElem?_append_left hk]; exact hx, hf, hy.symm⟩
theorem withN_prefix (o : List Nat) (y : Nat) : ∃ t, withN o y = o ++ t := by
  unfold withN
  split
  · exact ⟨[], by simp⟩
  · exact ⟨_, rfl⟩
theorem stepO_all {n : Nat} {all : List (Nat → Nat)} (hr : Rows n all) {s k x : Nat} : ∀ (fs : List (Nat → Nat)) (out : List Nat), (∀ f ∈ fs, f ∈ all) → OWay n all s out → out[k]? = some x →
    OWay n all s (stepO fs x out) ∧ (∃ t, stepO fs x out = out ++ t) ∧ ∀ f ∈ fs, act f x ∈ stepO fs x out
  | [], out, _, h, _ => ⟨h, ⟨[], by simp [stepO]⟩, fun f hf => by simp at hf⟩
  | f :: fs, out, hs, h, hx => by
    have h1 := h.snoc hx (hs f List.mem_cons_self) (hr f (hs f List.mem_cons_self))
    obtain ⟨t, ht⟩ := withN_prefix out (act f x)
    have hx1 : (withN out (act f x))[k]? = some x := by rw [ht, List.getElem?_append_left (List.getElem?_eq_some_iff.1 hx).1]; exact hx
    obtain ⟨q1, ⟨t2, q2⟩, q3⟩ := stepO_all hr fs _ (fun g hg => hs g (List.mem_cons_of_mem _ hg)) h1 hx1
    refine ⟨q1, ⟨t ++ t2, ?_⟩, fun g hg => ?_⟩
    · show stepO fs x (withN out (act f x)) = _
      rw [q2, ht, List.append_assoc]
    · rcases List.mem_cons.1 hg with rfl | hg
      · show act g x ∈ stepO fs x (withN out (act g x))
        rw [q2]
        refine List.mem_append_left _ ?_
        unfold withN
        split
        · assumption
        · simp
      · exact q3 g hg
/-- an orbit -/
structure Orb (n : Nat) (fs : List (Nat → Nat)) (s : Nat) (out : List Nat) : Prop extends OWay n fs s out where
  closed : ∀ x ∈ out, ∀ f ∈ fs, act f x ∈ out
theorem bfsO_spec {n : Nat} {fs : List (Nat → Nat)} (hr : Rows n fs) {s : Nat} : ∀ (q k : Nat) (out : List Nat), k + q = n + 1 → k ≤ out.length → OWay n fs s out → (∀ i x, i < k → out[i]? = some x → ∀ f ∈ fs, act f x ∈ out) → Orb n fs s (bfsO fs q k out)
  | 0, k, out, hq, hk, h, _ => by have := inN_len h.nodup h.rng; omega
  | q + 1, k, out, hq, hk, h, hc => by
    unfold bfsO
    by_cases hlt : k < out.length
    · rw [dif_pos hlt]
      obtain ⟨q1, ⟨t, q2⟩, q3⟩ := stepO_all hr fs out (fun f hf => hf) h (List.getElem?_eq_getElem hlt)
      refine bfsO_spec hr q (k + 1) _ (by omega) (by rw [q2, List.length_append]; omega) q1 fun i x hi hx f hf => ?_
      rw [q2, List.getElem?_append_left (by omega)] at hx
      by_cases hik : i = k
      · subst hik
        rw [List.getElem?_eq_getElem hlt] at hx
        injection hx with hx
        rw [← hx]
        exact q3 f hf
      · rw [q2]
        exact List.mem_append_left _ (hc i x (by omega) hx f hf)
    · rw [dif_neg hlt]
      refine ⟨h, fun x hx f hf => ?_⟩
      obtain ⟨i, hi, e⟩ := List.getElem_of_mem hx
      exact hc i x (by omega) (by rw [List.getElem?_eq_getElem hi, e]) f hf
theorem orb_spec {n : Nat} {fs : List (Nat → Nat)} (hr : Rows n fs) {s : Nat} (h1 : 1 ≤ s) (h2 : s ≤ n) : Orb n fs s (orbF n fs s) :=
  bfsO_spec hr (n + 1) 0 [s] (by omega) (by simp) ⟨rfl, by simp, fun x hx => by simp at hx; omega, fun i y hi hy => by
    rw [List.getElem?_eq_none (by simp; omega)] at hy
    cases hy⟩ (fun i x hi => by omega)
theorem Orb.self {n : Nat} {fs : List (Nat → Nat)} {s : Nat} {out : List Nat} (h : Orb n fs s out) : s ∈ out := List.mem_of_getElem? h.head
theorem Orb.len {n : Nat} {fs : List (Nat → Nat)} {s : Nat} {out : List Nat} (h : Orb n fs s out) : out.length ≤ n := inN_len h.nodup h.rng
/-- a row leads back too -/
theorem Orb.back {n : Nat} {fs : List (Nat → Nat)} (hr : Rows n fs) {s : Nat} {out : List Nat} (h : Orb n fs s out) {f : Nat → Nat} (hf : f ∈ fs) {x : Nat} (hx : 1 ≤ x ∧ x ≤ n) (hm : act f x ∈ out) : x ∈ out := by
  have hnd : (out.map (act f)).Nodup := by
    have : ∀ l : List Nat, InN n l → l.Nodup → (l.map (act f)).Nodup := by
      intro l
      induction l with
      | nil => intro _ _; simp
      | cons a l ih =>
        intro hl hn
        obtain ⟨n1, n2⟩ := List.nodup_cons.1 hn
        rw [List.map_cons, List.nodup_cons]
        refine ⟨fun hm => ?_, ih (fun y hy => hl y (List.mem_cons_of_mem _ hy)) n2⟩
        obtain ⟨y, hy, e⟩ := List.mem_map.1 hm
        have := act_inj (hr f hf) (hl y (List.mem_cons_of_mem _ hy)) (hl a List.mem_cons_self) e
        exact n1 (this ▸ hy)
    exact this out h.rng h.nodup
  by_cases hin : act f x ∈ out.map (act f)
  · obtain ⟨y, hy, e⟩ := List.mem_map.1 hin
    have := act_inj (hr f hf) (h.rng y hy) hx e
    exact this ▸ hy
  · have := (List.nodup_cons.2 ⟨hin, hnd⟩).length_le_of_subset (l₂ := out) fun y hy => by
      rcases List.mem_cons.1 hy with rfl | hy
      · exact hm
      · obtain ⟨z, hz, rfl⟩ := List.mem_map.1 hy
        exact h.closed z hz f hf
    rw [List.length_cons, List.length_map] at this
    omega
theorem Orb.iff {n : Nat} {fs : List (Nat → Nat)} (hr : Rows n fs) {s : Nat} {out : List Nat} (h : Orb n fs s out) {f : Nat → Nat} (hf : f ∈ fs) {x : Nat} (hx : 1 ≤ x ∧ x ≤ n) : act f x ∈ out ↔ x ∈ out := ⟨h.back hr hf hx, fun hm => h.closed x hm f hf⟩
/-- what lies in an orbit has its orbit in it -/
theorem Orb.sub {n : Nat} {fs : List (Nat → Nat)} {s t : Nat} {o p : List Nat} (h : Orb n fs s o) (k : Orb n fs t p) (ht : t ∈ o) : ∀ x ∈ p, x ∈ o := by
  have key : ∀ (i x : Nat), p[i]? = some x → x ∈ o := by
    intro i
    induction i using Nat.strongRecOn with
    | ind i ih =>
      intro x hx
      by_cases hi : i = 0
      · subst hi
        rw [k.head] at hx
        injection hx with hx
        exact hx ▸ ht
      · obtain ⟨j, y, f, hj, hy, hf, rfl⟩ := k.chain i x (by omega) hx
        exact h.closed y (ih j hj y hy) f hf
  intro x hx
  obtain ⟨i, hi, e⟩ := List.getElem_of_mem hx
  exact key i x (by rw [List.getElem?_eq_getElem hi, e])
theorem Orb.symm {n : Nat} {fs : List (Nat → Nat)} (hr : Rows n fs) {s t : Nat} {o p : List Nat} (h : Orb n fs s o) (k : Orb n fs t p) (ht : t ∈ o) : s ∈ p := by
  have key : ∀ (i x : Nat), o[i]? = some x → x ∈ p → s ∈ p := by
    intro i
    induction i using Nat.strongRecOn with
    | ind i ih =>
      intro x hx hxp
      by_cases hi : i = 0
      · subst hi
        rw [h.head] at hx
        injection hx with hx
        exact hx ▸ hxp
      · obtain ⟨j, y, f, hj, hy, hf, rfl⟩ := h.chain i x (by omega) hx
        exact ih j hj y hy (k.back hr hf (h.rng y (List.mem_of_getElem? hy)) hxp)
  obtain ⟨i, hi, e⟩ := List.getElem_of_mem ht
  exact key i t (by rw [List.getElem?_eq_getElem hi, e]) k.self

/-! labels -/
def edgeL (g : Nat → Nat) (part : Nat → Nat) (p : Nat) : Nat → Nat := fun x => if x = act g p ∨ x = p then min (part p) (part (act g p)) else part x
def sweepTo (g : Nat → Nat) (part : Nat → Nat) : Nat → Nat → Nat
  | 0 => part
  | k + 1 => edgeL g (sweepTo g part k) (k + 1)
def roundL (n : Nat) (fs : List (Nat → Nat)) (part : Nat → Nat) : Nat → Nat := fs.foldl (fun pt g => sweepTo g pt n) part
def labs (n : Nat) (fs : List (Nat → Nat)) : Nat → Nat → Nat
  | 0 => id
  | r + 1 => roundL n fs (labs n fs r)
def Lo (m : Nat) (o : List Nat) (part : Nat → Nat) : Prop := ∀ x ∈ o, m ≤ part x
/-- what is at m stays, and nothing falls below -/
theorem edge_keep {n : Nat} {fs : List (Nat → Nat)} (hr : Rows n fs) {m s : Nat} {o : List Nat} (h : Orb n fs s o) {g : Nat → Nat} (hg : g ∈ fs) {part : Nat → Nat} (hlo : Lo m o part) {p : Nat} (hp : 1 ≤ p ∧ p ≤ n) :
    Lo m o (edgeL g part p) ∧ (∀ x ∈ o, part x = m → edgeL g part p x = m) ∧ (p ∈ o → part p = m → edgeL g part p (act g p) = m) := by
  have hiff := h.iff hr hg hp
  refine ⟨fun x hx => ?_, fun x hx e => ?_, fun hpo e => ?_⟩
  · unfold edgeL
    split
    · rename_i hc
      have hpo : p ∈ o := by
        rcases hc with rfl | rfl
        · exact hiff.1 hx
        · exact hx
      have h1 := hlo p hpo
      have h2 := hlo _ (hiff.2 hpo)
      omega
    · exact hlo x hx
  · unfold edgeL
    split
    · rename_i hc
      have hpo : p ∈ o := by
        rcases hc with rfl | rfl
        · exact hiff.1 hx
        · exact hx
      have h1 := hlo p hpo
      have h2 := hlo _ (hiff.2 hpo)
      rcases hc with rfl | rfl <;> omega
    · exact e
  · unfold edgeL
    rw [if_pos (.inl rfl)]
    have h2 := hlo _ (hiff.2 hpo)
    omega
theorem sweep_keep {n : Nat} {fs : List (Nat → Nat)} (hr : Rows n fs) {m s : Nat} {o : List Nat} (h : Orb n fs s o) {g : Nat → Nat} (hg : g ∈ fs) {part : Nat → Nat} (hlo : Lo m o part) : ∀ k, k ≤ n →
    Lo m o (sweepTo g part k) ∧ (∀ x ∈ o, part x = m → sweepTo g part k x = m) ∧ (∀ p ∈ o, p ≤ k → part p = m → sweepTo g part k (act g p) = m)
  | 0, _ => ⟨hlo, fun x _ e => e, fun p hp h0 => by have := (h.rng p hp).1; omega⟩
  | k + 1, hk => by
    obtain ⟨q1, q2, q3⟩ := sweep_keep hr h hg hlo k (by omega)
    obtain ⟨r1, r2, r3⟩ := edge_keep hr h hg q1 (p := k + 1) ⟨by omega, hk⟩
    refine ⟨r1, fun x hx e => r2 x hx (q2 x hx e), fun p hp hpk e => ?_⟩
    by_cases hpe : p = k + 1
    · subst hpe
      exact r3 hp (q2 _ hp e)
    · exact r2 _ (h.closed p hp g hg) (q3 p hp (by omega) e)
theorem round_keep {n : Nat} {all : List (Nat → Nat)} (hr : Rows n all) {m s : Nat} {o : List Nat} (h : Orb n all s o) : ∀ (fs : List (Nat → Nat)) (part : Nat → Nat), (∀ f ∈ fs, f ∈ all) → Lo m o part →
    Lo m o (roundL n fs part) ∧ (∀ x ∈ o, part x = m → roundL n fs part x = m) ∧ (∀ p ∈ o, part p = m → ∀ f ∈ fs, roundL n fs part (act f p) = m)
  | [], part, _, hlo => ⟨hlo, fun x _ e => e, fun p _ _ f hf => by simp at hf⟩
  | g :: fs, part, hs, hlo => by
    obtain ⟨q1, q2, q3⟩ := sweep_keep hr h (hs g List.mem_cons_self) hlo n (Nat.le_refl _)
    obtain ⟨r1, r2, r3⟩ := round_keep hr h fs (sweepTo g part n) (fun f hf => hs f (List.mem_cons_of_mem _ hf)) q1
    refine ⟨r1, fun x hx e => r2 x hx (q2 x hx e), fun p hp e f hf => ?_⟩
    rcases List.mem_cons.1 hf with rfl | hf
    · exact r2 _ (h.closed p hp f (hs f List.mem_cons_self)) (q3 p hp (h.rng p hp).2 e)
    · exact r3 p hp (q2 p hp e) f hf
theorem labs_at {n : Nat} {fs : List (Nat → Nat)} (hr : Rows n fs) {m : Nat} {o : List Nat} (h : Orb n fs m o) (hmin : ∀ x ∈ o, m ≤ x) : ∀ r, Lo m o (labs n fs r) ∧ ∀ i x, i ≤ r → o[i]? = some x → labs n fs r x = m
  | 0 => ⟨fun x hx => hmin x hx, fun i x hi hx => by
    obtain rfl : i = 0 := by omega
    rw [h.head] at hx
    injection hx with hx
    exact hx.symm⟩
  | r + 1 => by
    obtain ⟨q1, q2⟩ := labs_at hr h hmin r
    obtain ⟨r1, r2, r3⟩ := round_keep hr h fs (labs n fs r) (fun f hf => hf) q1
    refine ⟨r1, fun i x hi hx => ?_⟩
    by_cases hir : i ≤ r
    · exact r2 x (List.mem_of_getElem? hx) (q2 i x hir hx)
    · obtain ⟨k, y, f, hk, hy, hf, rfl⟩ := h.chain i x (by omega) hx
      exact r3 y (List.mem_of_getElem? hy) (q2 k y (by omega) hy) f hf
/-- the last labels -/
theorem labs_end {n : Nat} {fs : List (Nat → Nat)} (hr : Rows n fs) {m : Nat} {o : List Nat} (h : Orb n fs m o) (hmin : ∀ x ∈ o, m ≤ x) : ∀ x ∈ o, labs n fs n x = m := by
  intro x hx
  obtain ⟨i, hi, e⟩ := List.getElem_of_mem hx
  have := h.len
  exact (labs_at hr h hmin n).2 i x (by omega) (by rw [List.getElem?_eq_getElem hi, e])
theorem min_of : ∀ (l : List Nat), l ≠ [] → ∃ m ∈ l, ∀ x ∈ l, m ≤ x
  | [], h => absurd rfl h
  | [a], _ => ⟨a, by simp, fun x hx => by simp at hx; omega⟩
  | a :: b :: l, _ => by
    obtain ⟨m, hm, hle⟩ := min_of (b :: l) (by simp)
    by_cases h : a ≤ m
    · exact ⟨a, by simp, fun x hx => by
        rcases List.mem_cons.1 hx with rfl | hx
        · exact Nat.le_refl _
        · exact Nat.le_trans h (hle x hx)⟩
    · exact ⟨m, List.mem_cons_of_mem _ hm, fun x hx => by
        rcases List.mem_cons.1 hx with rfl | hx
        · omega
        · exact hle x hx⟩
def leastIn (n : Nat) (fs : List (Nat → Nat)) (k : Nat) : Prop := ∀ x ∈ orbF n fs k, k ≤ x
/-- whose label is k -/
theorem lab_iff {n : Nat} {fs : List (Nat → Nat)} (hr : Rows n fs) {k p : Nat} (hk : 1 ≤ k ∧ k ≤ n) (hp : 1 ≤ p ∧ p ≤ n) : labs n fs n p = k ↔ leastIn n fs k ∧ p ∈ orbF n fs k := by
  have hok := orb_spec hr hk.1 hk.2
  have hop := orb_spec hr hp.1 hp.2
  constructor
  · intro e
    obtain ⟨m, hm, hle⟩ := min_of (orbF n fs p) (List.ne_nil_of_mem hop.self)
    have hmr := hop.rng m hm
    have hom := orb_spec hr hmr.1 hmr.2
    have hpm := hop.symm hr hom hm
    have hmin : ∀ x ∈ orbF n fs m, m ≤ x := fun x hx => hle x (hop.sub hom hm x hx)
    have := labs_end hr hom hmin p hpm
    rw [e] at this
    subst this
    exact ⟨hmin, hpm⟩
  · rintro ⟨h1, h2⟩
    exact labs_end hr hok h1 p h2
end Go.Proofs.YtapcfojnljnoaaaGreat
namespace Go.Proofs.YtapcfojnljnoaaaGreat
open Go.RowKit
set_option linter.unusedSimpArgs false
set_option linter.unusedVariables false
def laysSortI_ren : Go.Shelf.Ren := ⟨fun | 5 => 49 | 8 => 56 | 7 => 65 | 19 => 79 | 20 => 80 | 10 => 82 | 11 => 83 | 12 => 84 | 13 => 85 | 14 => 86 | 15 => 87 | 16 => 88 | 17 => 89 | 18 => 90 | 30 => 99 | 31 => 94 | 32 => 95 | 33 => 100 | 34 => 101 | 35 => 102 | 40 => 112 | n => n, fun | 23 => 31 | 25 => 3 | 3 => 3 | 32 => 83 | 22 => 31 | 0 => 0 | 44 => 103 | 46 => 41 | 4 => 4 | 36 => 95 | 35 => 94 | 41 => 100 | 5 => 5 | 9 => 9 | 53 => 113 | 57 => 117 | 63 => 126 | 64 => 127 | n => n, fun | n => n⟩
theorem laysSortI : Go.Proofs.SlLaysM.n5 Tryz.prog laysSortI_ren := {
  mixed := by kernel_rfl
  f5 := ⟨Tryz.f49.name, by decide, Tryz.func49.trans (congrArg some (by kernel_rfl))⟩
  f7 := ⟨Tryz.f65.name, by decide, Tryz.func65.trans (congrArg some (by kernel_rfl))⟩
  f8 := Tryz.func56.trans (congrArg some (by kernel_rfl))
  f10 := ⟨Tryz.f82.name, by decide, Tryz.func82.trans (congrArg some (by kernel_rfl))⟩
  f11 := ⟨Tryz.f83.name, by decide, Tryz.func83.trans (congrArg some (by kernel_rfl))⟩
  f12 := ⟨Tryz.f84.name, by decide, Tryz.func84.trans (congrArg some (by kernel_rfl))⟩
  f13 := ⟨Tryz.f85.name, by decide, Tryz.func85.trans (congrArg some (by kernel_rfl))⟩
  f14 := ⟨Tryz.f86.name, by decide, Tryz.func86.trans (congrArg some (by kernel_rfl))⟩
  f15 := ⟨Tryz.f87.name, by decide, Tryz.func87.trans (congrArg some (by kernel_rfl))⟩
  f16 := ⟨Tryz.f88.name, by decide, Tryz.func88.trans (congrArg some (by kernel_rfl))⟩
  f17 := ⟨Tryz.f89.name, by decide, Tryz.func89.trans (congrArg some (by kernel_rfl))⟩
  f18 := ⟨Tryz.f90.name, by decide, Tryz.func90.trans (congrArg some (by kernel_rfl))⟩
  f19 := Tryz.func79.trans (congrArg some (by kernel_rfl))
  f20 := Tryz.func80.trans (congrArg some (by kernel_rfl))
  f30 := ⟨Tryz.f99.name, by decide, Tryz.func99.trans (congrArg some (by kernel_rfl))⟩
  f31 := Tryz.func94.trans (congrArg some (by kernel_rfl))
  f32 := Tryz.func95.trans (congrArg some (by kernel_rfl))
  f33 := ⟨Tryz.f100.name, by decide, Tryz.func100.trans (congrArg some (by kernel_rfl))⟩
  f34 := ⟨Tryz.f101.name, by decide, Tryz.func101.trans (congrArg some (by kernel_rfl))⟩
  f35 := ⟨Tryz.f102.name, by decide, Tryz.func102.trans (congrArg some (by kernel_rfl))⟩
  f40 := ⟨Tryz.f112.name, by decide, Tryz.func112.trans (congrArg some (by kernel_rfl))⟩
  t0 := Tryz.underlying0
  a0 := Tryz.isAgg0
  z0 := Tryz.sizeOf0
  v0 := Tryz.zeroValue0
  t3 := Tryz.underlying3
  a3 := Tryz.isAgg3
  z3 := Tryz.sizeOf3
  v3 := Tryz.zeroValue3
  t4 := Tryz.underlying4
  a4 := Tryz.isAgg4
  z4 := Tryz.sizeOf4
  v4 := Tryz.zeroValue4
  t5 := Tryz.underlying5
  a5 := Tryz.isAgg5
  z5 := Tryz.sizeOf5
  v5 := Tryz.zeroValue5
  t9 := Tryz.underlying9
  a9 := Tryz.isAgg9
  z9 := Tryz.sizeOf9
  v9 := Tryz.zeroValue9
  t22 := Tryz.underlying31
  a22 := Tryz.isAgg31
  z22 := Tryz.sizeOf31
  v22 := Tryz.zeroValue31
  t23 := Tryz.underlying31
  a23 := Tryz.isAgg31
  z23 := Tryz.sizeOf31
  v23 := Tryz.zeroValue31
  t25 := Tryz.underlying3
  a25 := Tryz.isAgg3
  z25 := Tryz.sizeOf3
  v25 := Tryz.zeroValue3
  t32 := Tryz.underlying83
  a32 := Tryz.isAgg83
  z32 := Tryz.sizeOf83
  v32 := Tryz.zeroValue83
  t35 := Tryz.underlying94
  a35 := Tryz.isAgg94
  z35 := Tryz.sizeOf94
  v35 := Tryz.zeroValue94
  t36 := Tryz.underlying95
  a36 := Tryz.isAgg95
  z36 := Tryz.sizeOf95
  v36 := Tryz.zeroValue95
  t41 := Tryz.underlying100
  a41 := Tryz.isAgg100
  z41 := Tryz.sizeOf100
  v41 := Tryz.zeroValue100
  t44 := Tryz.underlying103
  a44 := Tryz.isAgg103
  z44 := Tryz.sizeOf103
  v44 := Tryz.zeroValue103
  t46 := Tryz.underlying41
  a46 := Tryz.isAgg41
  z46 := Tryz.sizeOf41
  v46 := Tryz.zeroValue41
  t53 := Tryz.underlying113
  a53 := Tryz.isAgg113
  z53 := Tryz.sizeOf113
  v53 := Tryz.zeroValue113
  t57 := Tryz.underlying117
  a57 := Tryz.isAgg117
  z57 := Tryz.sizeOf117
  v57 := Tryz.zeroValue117
  t63 := Tryz.underlying126
  a63 := Tryz.isAgg126
  z63 := Tryz.sizeOf126
  v63 := Tryz.zeroValue126
  t64 := Tryz.underlying127
  a64 := Tryz.isAgg127
  z64 := Tryz.sizeOf127
  v64 := Tryz.zeroValue127 }
def laysHasI_ren : Go.Shelf.Ren := ⟨fun | 31 => 48 | 29 => 64 | n => n, fun | 22 => 31 | 23 => 3 | 4 => 4 | 3 => 3 | 0 => 0 | n => n, fun | n => n⟩
theorem laysHasI : Go.Proofs.SlLaysE.n31 Tryz.prog laysHasI_ren := {
  mixed := by kernel_rfl
  f29 := ⟨Tryz.f64.name, by decide, Tryz.func64.trans (congrArg some (by kernel_rfl))⟩
  f31 := ⟨Tryz.f48.name, by decide, Tryz.func48.trans (congrArg some (by kernel_rfl))⟩
  t0 := Tryz.underlying0
  a0 := Tryz.isAgg0
  z0 := Tryz.sizeOf0
  v0 := Tryz.zeroValue0
  t3 := Tryz.underlying3
  a3 := Tryz.isAgg3
  z3 := Tryz.sizeOf3
  v3 := Tryz.zeroValue3
  t4 := Tryz.underlying4
  a4 := Tryz.isAgg4
  z4 := Tryz.sizeOf4
  v4 := Tryz.zeroValue4
  t22 := Tryz.underlying31
  a22 := Tryz.isAgg31
  z22 := Tryz.sizeOf31
  v22 := Tryz.zeroValue31
  a23 := Tryz.isAgg3
  z23 := Tryz.sizeOf3 }
def numsV (l : List Nat) : List Int := l.map fun x : Nat => (x : Int)
theorem numsV_len (l : List Nat) : (numsV l).length = l.length := by simp [numsV]
/-- the numbers of 1 to n that lie in l, in order -/
def incL (n : Nat) (l : List Nat) : List Nat := ((List.range n).map (· + 1)).filter fun x => decide (x ∈ l)
theorem mem_incL {n : Nat} {l : List Nat} {x : Nat} : x ∈ incL n l ↔ (1 ≤ x ∧ x ≤ n) ∧ x ∈ l := by
  unfold incL
  rw [List.mem_filter, List.mem_map, decide_eq_true_eq]
  constructor
  · rintro ⟨⟨i, hi, rfl⟩, h⟩
    have := List.mem_range.1 hi
    exact ⟨by omega, h⟩
  · rintro ⟨⟨h1, h2⟩, h⟩
    exact ⟨⟨x - 1, List.mem_range.2 (by omega), by omega⟩, h⟩
theorem incL_up (n : Nat) (l : List Nat) : (incL n l).Pairwise (· < ·) := by
  unfold incL
  refine List.Pairwise.filter _ ?_
  rw [List.pairwise_map]
  exact List.Pairwise.imp (fun {a b} h => by omega) List.pairwise_lt_range
theorem ints_unique : ∀ {a b : List Int}, a.Perm b → a.Pairwise (· ≤ ·) → b.Pairwise (· ≤ ·) → a = b
  | [], b, p, _, _ => (List.perm_nil.1 p.symm).symm
  | x :: a, b, p, ha, hb => by
    cases b with
    | nil => exact absurd (List.perm_nil.1 p) (by simp)
    | cons y b =>
      obtain ⟨f1, f2⟩ := List.pairwise_cons.1 ha
      obtain ⟨g1, g2⟩ := List.pairwise_cons.1 hb
      have hxy : x ≤ y := by
        rcases List.mem_cons.1 (p.mem_iff.2 (List.mem_cons_self (a := y) (l := b))) with e | e
        · omega
        · exact f1 y e
      have hyx : y ≤ x := by
        rcases List.mem_cons.1 (p.mem_iff.1 (List.mem_cons_self (a := x) (l := a))) with e | e
        · omega
        · exact g1 x e
      obtain rfl : x = y := by omega
      rw [ints_unique ((List.perm_cons x).1 p) f2 g2]
theorem sort_incL {n : Nat} {l : List Nat} (hn : l.Nodup) (h : InN n l) : ((numsV l).mergeSort fun x y => decide (x ≤ y)) = numsV (incL n l) := by
  have hp : l.Perm (incL n l) := (List.perm_ext_iff_of_nodup hn ((incL_up n l).imp fun {a b} h => by omega)).2 fun x => by
    rw [mem_incL]
    exact ⟨fun hx => ⟨h x hx, hx⟩, fun hx => hx.2⟩
  refine ints_unique ((List.mergeSort_perm _ _).trans (hp.map _)) ?_ ?_
  · have := List.pairwise_mergeSort (le := fun x y : Int => decide (x ≤ y)) (fun a b c h1 h2 => by simp at h1 h2 ⊢; omega) (fun a b => by simp; omega) (numsV l)
    exact this.imp fun {a b} h => by simpa using h
  · unfold numsV
    rw [List.pairwise_map]
    exact (incL_up n l).imp fun {a b} h => by omega
theorem sortI_any (n : Nat) (l : List Nat) (hn : l.Nodup) (hr : InN n l) (hl : l.length ≤ 1000) (B : Nat) (v : Value) (w : World) (hB : B ≤ w.heap.size) (h : New B w 3 v (ints (numsV l))) (h0 : 0 < l.length) :
    Calls Tryz.prog 49 #[v] w fun e w' => e = .returned (.tuple #[]) ∧ New B w' 3 v (ints (numsV (incL n l))) ∧ Below B w w' := by
  have hlen : (ints (numsV l)).length = l.length := by rw [ints_len, numsV_len]
  obtain ⟨⟨h1, h2⟩, hbase⟩ := h
  rcases h2 with ⟨rfl, h00⟩ | ⟨g, cap, cur, rfl, _, hb, hle, hcap, hsz, ht⟩
  · omega
  · rw [hlen] at hle ⊢
    have hg : g < w.heap.size := (Array.getElem?_eq_some_iff.1 hb).1
    have hBg := hbase g rfl
    have hlm : (numsV l).length = l.length := numsV_len l
    have hH := holds_of_blockI (g := g) (ss := numsV l) hb (by rw [hlm]; rw [hlen, Nat.mul_one] at ht; exact ht)
    have hc := AnyM.slices_Sort_int (P := Tryz.prog) laysSortI g 0 cap (numsV l) w hH hg (by rw [hlm]; omega)
    rw [hlm] at hc
    refine hc.mono ?_
    rintro e w' ⟨rfl, q, os, rfl⟩
    rw [sort_incL hn hr]
    have hsl : (numsV (incL n l)).length = (numsV l).length := by rw [← sort_incL hn hr, List.length_mergeSort]
    have ho := ownsRow_sortedI (w := w) (base := 0) (g := g) (cap := cap) (n := q) (os := os) hsl (Nat.zero_le _) hb (by rw [hlm]; exact hle) hcap hsz
    rw [hlm] at ho
    have hlen2 : (ints (numsV (incL n l))).length = l.length := by rw [ints_len, hsl, hlm]
    refine ⟨rfl, ⟨by unfold Own; rw [hlen2]; exact ho, hbase⟩, ?_⟩
    exact (Below.refl _ _).grown (grownBy_sortedI _) hB (fun k hk => by cases hk; exact hBg)
theorem hasI_any (l : List Nat) (y : Nat) (v : Value) (w : World) (h : Own w 3 v (ints (numsV l))) (h0 : 0 < l.length) (hl : l.length ≤ 1000) :
    Calls Tryz.prog 48 #[v, .int .i64 y] w fun e w' => e = .returned (.bool (decide (y ∈ l))) ∧ w' = w := by
  have hlen : (ints (numsV l)).length = l.length := by rw [ints_len, numsV_len]
  obtain ⟨a, cap, rfl, ha⟩ := h.view
  rw [hlen] at h ha ⊢
  obtain ⟨g, rfl⟩ := ha h0
  have hc := AnyE.slices_Contains (P := Tryz.prog) laysHasI (Value.int .i64) (fun x y => x == y) (EqlAt.int _ _ _) g 0 l.length cap (numsV l) (y : Int) w (by rw [numsV_len]; omega) (by omega) (fun j hj => by
    rw [Nat.zero_add, getElem!_pos (numsV l) j hj]
    exact h.cell j _ (ints_at (numsV l) j hj))
  refine hc.mono ?_
  rintro e w' ⟨rfl, rfl⟩
  refine ⟨?_, rfl⟩
  congr 2
  rw [List.take_of_length_le (by rw [numsV_len]; omega), Bool.eq_iff_iff, List.any_eq_true, decide_eq_true_eq]
  unfold numsV
  constructor
  · rintro ⟨x, hx, e⟩
    obtain ⟨z, hz, rfl⟩ := List.mem_map.1 hx
    have e : (y : Int) = z := by simpa using e
    have : y = z := by omega
    exact this ▸ hz
  · intro hy
    exact ⟨(y : Int), List.mem_map.2 ⟨y, hy, rfl⟩, by simp⟩
theorem act_sub {n : Nat} {f : Nat → Nat} (hf : IsRow n f) {y : Nat} (hy : y < n) : IntKind.u8.wrap ((f y : Int) - 48) = ((act f (y + 1) : Nat) : Int) := by
  have h1 := hf.lo y hy
  have h2 := hf.hi y hy
  have h3 := hf.eight
  have e : ((act f (y + 1) : Nat) : Int) = (f y : Int) - 48 := by unfold act; rw [Nat.add_sub_cancel]; omega
  rw [e]
  exact IntWalk.u8_in _ ⟨by omega, by omega⟩
end Go.Proofs.YtapcfojnljnoaaaGreat
namespace Go.Proofs.YtapcfojnljnoaaaGreat
open Go.RowKit
set_option linter.unusedSimpArgs false
set_option linter.unusedVariables false

def NumOut (l : List Nat) (w : World) (e : Ending) (w' : World) : Prop := ∃ v, e = .returned v ∧ New w.heap.size w' 3 v (ints (numsV l)) ∧ Below w.heap.size w w'
theorem withN_no {o : List Nat} {y : Nat} (h : decide (y ∈ o) = false) : withN o y = o ++ [y] := by simp only [decide_eq_false_iff_not] at h; simp [withN, h]
theorem withN_yes {o : List Nat} {y : Nat} (h : decide (y ∈ o) = true) : withN o y = o := by simp only [decide_eq_true_eq] at h; simp [withN, h]
theorem numsV_snoc (o : List Nat) (y : Nat) : ints (numsV o) ++ [.int .i64 (y : Int)] = ints (numsV (o ++ [y])) := by simp [ints, numsV]

set_option maxRecDepth 100000 in
set_option maxHeartbeats 1000000 in
theorem orbitOf_any (n : Nat) (h3 : 3 ≤ n) (h8 : n ≤ 8) (v : Value) (fs : List (Nat → Nat)) (hg : Rows n fs) (hl : fs.length ≤ 1000) (s : Nat) (hs1 : 1 ≤ s) (hs2 : s ≤ n) (w : World) (h : Digs w v fs) :
    Calls Tryz.prog 22 #[.int .i64 s, v] w (NumOut (incL n (orbF n fs s)) w) := by
  obtain ⟨m, hm⟩ : ∃ m, fs.length = m := ⟨_, rfl⟩
  obtain ⟨a, cap, rfl, hcap, ha⟩ := h
  have ha : 0 < m → ∃ g off, a = some ⟨g, off, none⟩ ∧ g < w.heap.size ∧ ∀ i (h : i < fs.length), w.rangeAt g (off + i * 8) (cells8 fs[i]) := fun h0 => ha (by rw [hm]; exact h0)
  rw [hm] at hl ⊢
  have hl' : (m : Int) ≤ 1000 := by omega
  have hos := orb_spec hg hs1 hs2
  have hway : OWay n fs s [s] := ⟨rfl, by simp, fun x hx => by simp at hx; omega, fun i y hi hy => by
    rw [List.getElem?_eq_none (by simp; omega)] at hy
    cases hy⟩
  have hres0 : orbF n fs s = bfsO fs (n + 1) 0 [s] := rfl
  generalize orbF n fs s = res at *
  have hn1 : New w.heap.size (w.alloc (.cells #[.int .i64 (s : Int)] 3)) 3 (.slice (some ⟨w.heap.size, 0, none⟩) 1 1) (ints (numsV [s])) := by
    have := Own.lit w 3 [.int .i64 (s : Int)] (by simp)
    exact ⟨this, fun g hg => by simp [Value.ownBlock] at hg; omega⟩
  have HN1 := Lib.hid hn1
  have HB1 := Lib.hid ((Below.refl _ w).alloc (Nat.le_refl _) (.cells #[.int .i64 (s : Int)] 3))
  have HA := Lib.hid ha
  have HM := Lib.hid hm
  have HG := Lib.hid hg
  have HRES := Lib.hid hres0.symm
  have HOS := Lib.hid hos
  have HWAY := Lib.hid hway
  obtain ⟨i0, hi0, hz0, hz1, hz2⟩ := info_parts infoInt
  have I0 := Lib.hid (⟨hi0, hz0, hz1, hz2⟩ : _ ∧ _ ∧ _ ∧ _)
  clear ha hm hcap hg hres0 hos hway hn1 hi0 hz0 hz1 hz2
  unfold NumOut
  go_enter Tryz.func22, Tryz.ntmps22
  go_wp2
  go_loopg [5, 6] (n + 1) (fun q wv i wr => ∃ (k : Nat) (out : List Nat), q + k = n + 1 ∧ i = .int .i64 k ∧ k ≤ out.length ∧ OWay n fs s out ∧ New w.heap.size wr 3 wv (ints (numsV out)) ∧ bfsO fs q k out = res ∧ Below w.heap.size w wr)
  case atStart => exact ⟨0, [s], by omega, rfl, by simp, HWAY.out, HN1.out, HRES.out, HB1.out⟩
  case round =>
    clear HN1 HRES HB1 HWAY
    obtain ⟨k, out, hq, rfl, hk, hw, hn, hr, hb⟩ := hrel
    have hlen := inN_len hw.nodup hw.rng
    have HQQ := Lib.hid hq
    have HN := Lib.hid hn
    have HB := Lib.hid hb
    have HWY := Lib.hid hw
    have h0 : 0 < out.length := (List.getElem?_eq_some_iff.1 hw.head).1
    obtain ⟨qq, rfl⟩ : ∃ q', gk = q' + 1 := ⟨gk - 1, by omega⟩
    unfold bfsO at hr
    obtain ⟨ol, hol⟩ : ∃ k', out.length = k' := ⟨_, rfl⟩
    obtain ⟨ua, uc, rfl, hua⟩ := hn.own.view
    have hsl : (ints (numsV out)).length = ol := by rw [ints_len, numsV_len, hol]
    rw [hsl] at HN hua ⊢
    obtain ⟨gu, rfl⟩ := hua (by omega)
    have HOL := Lib.hid hol
    clear hq hn hb hw hua
    by_cases hlt : k < out.length
    · rw [dif_pos hlt] at hr
      have hkx : out[k]? = some out[k] := List.getElem?_eq_getElem hlt
      have hkr := HWY.out.rng _ (List.getElem_mem hlt)
      obtain ⟨y, hy⟩ : ∃ y, out[k] = y + 1 := ⟨out[k] - 1, by omega⟩
      rw [hy] at hkx hkr hr
      have HR := Lib.hid hr
      have HLT := Lib.hid hlt
      have HKX : Hid (∀ t, (out ++ t)[k]? = some (y + 1)) := Lib.hid (fun t => by rw [List.getElem?_append_left hlt]; exact hkx)
      have hpos : (k : Int) < (ol : Int) := by omega
      have hy8 : y < n := by omega
      clear hr hkx hkr hlt hy hol hsl hlen
      go_wp2
      clear hpos
      go_loopg [5, 20] m (fun q wv i wr => ∃ (j : Nat) (o2 t2 : List Nat), q + j = m ∧ i = .int .i64 j ∧ o2 = out ++ t2 ∧ OWay n fs s o2 ∧ New w.heap.size wr 3 wv (ints (numsV o2)) ∧ stepO (fs.drop j) (y + 1) o2 = stepO fs (y + 1) out ∧ Below w.heap.size w wr)
      case atStart => exact ⟨0, out, [], by omega, rfl, by simp, HWY.out, HN.out, rfl, HB.out⟩
      case round =>
        clear HN HB
        obtain ⟨j, o2, t2, hq, rfl, ho2, hw, hn, hst, hb⟩ := hrel
        have HQI := Lib.hid hq
        have HN := Lib.hid hn
        have HB := Lib.hid hb
        have HST := Lib.hid hst
        have HO2 := Lib.hid ho2
        have HW2 := Lib.hid hw
        have hk2 : o2[k]? = some (y + 1) := by rw [ho2]; exact HKX.out t2
        have hlen2 := inN_len hw.nodup hw.rng
        obtain ⟨o2l, ho2l⟩ : ∃ k', o2.length = k' := ⟨_, rfl⟩
        obtain ⟨ua, uc, rfl, hua⟩ := hn.own.view
        have hsl : (ints (numsV o2)).length = o2l := by rw [ints_len, numsV_len, ho2l]
        have hklt : k < o2.length := (List.getElem?_eq_some_iff.1 hk2).1
        rw [hsl] at HN hua ⊢
        obtain ⟨gu, rfl⟩ := hua (by omega)
        have hcell : (ints (numsV o2))[k]? = some (.int .i64 ((y : Int) + 1)) := by
          simp only [ints, numsV, List.getElem?_map, hk2, Option.map_some]
          rfl
        have HCELL := Lib.hid hcell
        have hki : (k : Int) < (o2l : Int) := by omega
        have HOL2 := Lib.hid ho2l
        have HK2 := Lib.hid hk2
        have hol8 : o2l ≤ 8 := by omega
        have hop : 0 < o2l := by omega
        clear hq hn hb hst ho2 hw hk2 hlen2 hcell hsl hklt ho2l hua
        by_cases hlt : j < m
        · obtain ⟨gb, off, rfl, hgb, hc⟩ := HA.out (by omega)
          have hjx : j < fs.length := by rw [HM.out]; exact hlt
          have hrow := HG.out _ (List.getElem_mem hjx)
          have hload := hc j hjx
          have hmem := List.getElem_mem hjx
          have hst := HST.out
          rw [List.drop_eq_getElem_cons hjx] at hst
          generalize fs[j] = f at *
          have hst : stepO (fs.drop (j + 1)) (y + 1) (withN o2 (act f (y + 1))) = stepO fs (y + 1) out := hst
          have HL : Hid (wr.rangeAt gb (off + j * 8) (cells8 f)) := Lib.hid (fun k u hu => (HB.out.cell (p := ⟨gb, off + j * 8 + k, none⟩) hgb).trans (hload k u hu))
          have hji : (j : Int) < m := by omega
          have hu8 := act_sub hrow hy8
          have HXX := Lib.hid (RowAt.new wr 70 (dig8 f))
          have hal : Below wr.heap.size wr (wr.alloc (.cells (dig8 f) 70)) := (Below.refl _ wr).alloc (Nat.le_refl _) _
          have HBX := Lib.hid (HB.out.trans (hal.mono HB.out.size))
          have HNX := Lib.hid (HN.out.kept hal)
          have cx := HXX.out.cell y (dig8_get f y (by omega))
          have ck := HNX.out.own.cell k _ HCELL.out
          have hwy : IntKind.i64.wrap (y : Int) = y := IntWalk.i64_in _ ⟨by omega, by omega⟩
          have hyp : (0 : Int) ≤ (y : Int) := by omega
          have hyi : (y : Int) < 8 := by omega
          have HS3 := Lib.hid hst
          have HOW : Hid (OWay n fs s (withN o2 (act f (y + 1)))) := Lib.hid (HW2.out.snoc HK2.out hmem hrow)
          have hact8 := act_rng hrow (x := y + 1) (by omega) (by omega)
          have HHAS := Lib.hid (fun W (hW : Own W 3 (.slice (some ⟨gu, 0, none⟩) o2l uc) (ints (numsV o2))) => hasI_any o2 (act f (y + 1)) (.slice (some ⟨gu, 0, none⟩) o2l uc) W hW (by rw [HOL2.out]; exact hop) (by rw [HOL2.out]; omega))
          generalize act f (y + 1) = z at *
          have hz8 : (z : Int) ≤ 8 := by omega
          have HZ8 : Hid ((wr.alloc (.cells (dig8 f) 70)).heap.size = wr.heap.size + 1) := Lib.hid (by simp)
          clear hc hload hst HST hrow hal hmem HB HN
          cases hin : decide (z ∈ o2)
          · have HWT := Lib.hid (withN_no hin)
            rw [hin] at HHAS
            clear hin
            go_wp2_with (first | (refine wpList_store_row rfl 70 _ _ rfl _ _ rfl rfl 70 _ (heap_at _ _ _ (by simp)) (by kernel_rfl) rfl (by kernel_rfl) ?_; rw [setRow_at _ _ _ _ _ (by simp)]) | (refine wpList_load8 rfl _ rfl gb (off + j * 8) rfl f HL.out ?_) | fail)
            refine (HHAS.out _ HNX.out.own).mono ?_
            rintro e w5 ⟨rfl, rfl⟩
            go_wp2_with (at_builtin; refine wpList_app1 rfl (.tmp 37) (.tmp 39) 31 rfl 3 i0 (.int .i64 0) 8 Tryz.underlying31 I0.out.1 I0.out.2.1 I0.out.2.2.1 I0.out.2.2.2 rfl w.heap.size w _ (ints (numsV o2)) rfl HNX.out (by rw [HZ8.out]; rfl) rfl HBX.out.size HBX.out (by rw [ints_len, numsV_len, HOL2.out]; omega) (by omega) ?_)
            intro v7 w7 hn7 _ hb7 _
            rw [numsV_snoc, ← HWT.out] at hn7
            have HN7 := Lib.hid hn7
            have HB7 := Lib.hid hb7
            obtain ⟨ua7, uc7, rfl, -⟩ := hn7.own.view
            clear hn7 hb7 HNX HBX HXX cx ck
            go_wp2
            go_roundg (gk - 1)
            case measure => have := HQI.out; omega
            case rel => exact ⟨j + 1, withN o2 z, t2 ++ [z], by have := HQI.out; omega, by go_num, by rw [HWT.out, HO2.out, List.append_assoc], HOW.out, HN7.out, HS3.out, HB7.out⟩
          · have HWT := Lib.hid (withN_yes hin)
            rw [hin] at HHAS
            clear hin
            go_wp2_with (first | (refine wpList_store_row rfl 70 _ _ rfl _ _ rfl rfl 70 _ (heap_at _ _ _ (by simp)) (by kernel_rfl) rfl (by kernel_rfl) ?_; rw [setRow_at _ _ _ _ _ (by simp)]) | (refine wpList_load8 rfl _ rfl gb (off + j * 8) rfl f HL.out ?_) | fail)
            refine (HHAS.out _ HNX.out.own).mono ?_
            rintro e w5 ⟨rfl, rfl⟩
            go_wp2
            go_roundg (gk - 1)
            case measure => have := HQI.out; omega
            case rel => exact ⟨j + 1, o2, t2, by have := HQI.out; omega, by go_num, HO2.out, HW2.out, HNX.out, by have := HS3.out; rwa [HWT.out] at this, HBX.out⟩
        · obtain rfl : j = m := by have := HQI.out; omega
          have hst := HST.out
          rw [List.drop_eq_nil_of_le (by rw [HM.out]; exact Nat.le_refl _)] at hst
          have hst : o2 = stepO fs (y + 1) out := hst
          have hr := HR.out
          rw [← hst] at hr
          have HR2 := Lib.hid hr
          have hkl : k + 1 ≤ o2.length := by rw [HO2.out, List.length_append]; have := HLT.out; omega
          clear hst hr HST HR
          go_wp2
          go_roundg qq
          case measure => omega
          case rel => exact ⟨k + 1, o2, by have := HQQ.out; omega, by go_num, hkl, HW2.out, HN.out, HR2.out, HB.out⟩
    · rw [dif_neg hlt] at hr
      have hki : ¬ (k : Int) < (ol : Int) := by omega
      subst hr
      have HSI := Lib.hid (fun B w hB h => sortI_any n out HWY.out.nodup HWY.out.rng (by omega) B (.slice (some ⟨gu, 0, none⟩) ol uc) w hB h h0)
      clear hlt hol hsl hk hlen h0
      go_wp2_with fail
      refine (HSI.out w.heap.size _ HB.out.size HN.out).mono ?_
      rintro e w9 ⟨rfl, hn9, hb9⟩
      have HN9 := Lib.hid hn9
      have HB9 := Lib.hid (HB.out.trans hb9)
      clear hn9 hb9
      go_wp2
      go_ret
      exact ⟨_, rfl, HN9.out, HB9.out⟩
end Go.Proofs.YtapcfojnljnoaaaGreat
