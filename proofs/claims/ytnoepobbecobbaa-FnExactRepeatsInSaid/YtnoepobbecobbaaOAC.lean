/- Orbits of rows, purely: found number by number; spread as least labels. slices.Sort and slices.Contains on numbers; orbits in the program. Orbits in the program. -/
import Derived.Test.YtnoepobbecobbaaSN
import Derived.Shelf.SortM.Plain
import Derived.Shelf.SortM.SortNone
import Derived.Shelf.SlicesE.Index
import Derived.Sort.OwnSortedInts
import Derived.Test.YtnoepobbecobbaaSB
namespace Go.Proofs.Ytnoepobbecobbaa
open Go.RowKit

/-- where a row moves a number -/
def act (f : Nat → Nat) (x : Nat) : Nat := f (x - 1) - 48
theorem act_rng {n : Nat} {f : Nat → Nat} (hf : IsRow n f) {x : Nat} (h1 : 1 ≤ x) (h2 : x ≤ n) : 1 ≤ act f x ∧ act f x ≤ n := by
  have h3 := hf.lo (x - 1) (by omega)
  have h4 := hf.hi (x - 1) (by omega)
  unfold act
  omega
theorem act_inj {n : Nat} {f : Nat → Nat} (hf : IsRow n f) {x y : Nat} (hx : 1 ≤ x ∧ x ≤ n) (hy : 1 ≤ y ∧ y ≤ n) (e : act f x = act f y) : x = y := by
  have h3 := hf.lo (x - 1) (by omega)
  have h5 := hf.lo (y - 1) (by omega)
  unfold act at e
  have := hf.inj (x - 1) (y - 1) (by omega) (by omega) (by omega)
  omega
def withN (o : List Nat) (y : Nat) : List Nat := if y ∈ o then o else o ++ [y]
def stepO (fs : List (Nat → Nat)) (x : Nat) (out : List Nat) : List Nat := fs.foldl (fun o f => withN o (act f x)) out
def bfsO (fs : List (Nat → Nat)) : Nat → Nat → List Nat → List Nat
  | 0, _, out => out
  | q + 1, k, out => if h : k < out.length then bfsO fs q (k + 1) (stepO fs out[k] out) else out
def orbF (n : Nat) (fs : List (Nat → Nat)) (s : Nat) : List Nat := bfsO fs (n + 1) 0 [s]
def InN (n : Nat) (l : List Nat) : Prop := ∀ x ∈ l, 1 ≤ x ∧ x ≤ n
def Chain (fs : List (Nat → Nat)) (out : List Nat) : Prop := ∀ i y, 0 < i → out[i]? = some y → ∃ k x f, k < i ∧ out[k]? = some x ∧ f ∈ fs ∧ y = act f x
/-- what is known on the way -/
structure OWay (n : Nat) (fs : List (Nat → Nat)) (s : Nat) (out : List Nat) : Prop where
  head : out[0]? = some s
  nodup : out.Nodup
  rng : InN n out
  chain : Chain fs out
theorem inN_len {n : Nat} {l : List Nat} (hn : l.Nodup) (h : InN n l) : l.length ≤ n := by
  have := hn.length_le_of_subset (l₂ := (List.range n).map (· + 1)) fun x hx => by
    have := h x hx
    exact List.mem_map.2 ⟨x - 1, List.mem_range.2 (by omega), by omega⟩
  simpa using this
theorem OWay.snoc {n : Nat} {fs : List (Nat → Nat)} {s : Nat} {out : List Nat} (h : OWay n fs s out) {k x : Nat} {f : Nat → Nat} (hx : out[k]? = some x) (hf : f ∈ fs) (hr : IsRow n f) : OWay n fs s (withN out (act f x)) := by
  unfold withN
  split
  · exact h
  · rename_i hno
    have hk : k < out.length := (List.getElem?_eq_some_iff.1 hx).1
    have hxm : x ∈ out := List.mem_of_getElem? hx
    refine ⟨by rw [List.getElem?_append_left (by omega)]; exact h.head, List.nodup_append.2 ⟨h.nodup, by simp, fun a ha b hb => by rintro rfl; simp at hb; exact hno (hb ▸ ha)⟩, fun y hy => ?_, fun i y hi hy => ?_⟩
    · rcases List.mem_append.1 hy with hy | hy
      · exact h.rng y hy
      · simp at hy; rw [hy]; exact act_rng hr (h.rng x hxm).1 (h.rng x hxm).2
    · by_cases hil : i < out.length
      · rw [List.getElem?_append_left hil] at hy
        obtain ⟨k', x', f', q1, q2, q3, q4⟩ := h.chain i y hi hy
        exact ⟨k', x', f', q1, by rw [List.getElem?_append_left (by omega)]; exact q2, q3, q4⟩
      · have hie : i = out.length := by
          have := (List.getElem?_eq_some_iff.1 hy).1
          rw [List.length_append] at this
          simp at this
          omega
        subst hie
        rw [List.getElem?_append_right (Nat.le_refl _), Nat.sub_self] at hy
        simp at hy
        exact ⟨k, x, f, hk, by rw [List.getElem?_append_left hk]; exact hx, hf, hy.symm⟩
theorem withN_prefix (o : List Nat) (y : Nat) : ∃ t, withN o y = o ++ t := by
  unfold withN
  split
  · exact ⟨[], by simp⟩
  · exact ⟨_, rfl⟩
theorem stepO_all {n : Nat} {all : List (Nat → Nat)} (hr : Rows n all) {s k x : Nat} : ∀ (fs : List (Nat → Nat)) (out : List Nat), (∀ f ∈ fs, f ∈ all) → OWay n all s out → out[k]? = some x →
    OWay n all s (stepO fs x out) ∧ (∃ t, stepO fs x out = out ++ t) ∧ ∀ f ∈ fs, act f x ∈ stepO fs x out
  | [], out, _, h, _ => ⟨h, ⟨[], by simp [stepO]⟩, fun f hf => by simp at hf⟩
  | f :: fs, out, hs, h, hx => by
    have h1 := h.snoc hx (hs f List.mem_cons_self) (hr f (hs f List.mem_cons_self))
    obtain ⟨t, ht⟩ := withN_prefix out (act f x)
    have hx1 : (withN out (act f x))[k]? = some x := by rw [ht, List.getElem?_append_left (List.getElem?_eq_some_iff.1 hx).1]; exact hx
    obtain ⟨q1, ⟨t2, q2⟩, q3⟩ := stepO_all hr fs _ (fun g hg => hs g (List.mem_cons_of_mem _ hg)) h1 hx1
    refine ⟨q1, ⟨t ++ t2, ?_⟩, fun g hg => ?_⟩
    · show stepO fs x (withN out (act f x)) = _
      rw [q2, ht, List.append_assoc]
    · rcases List.mem_cons.1 hg with rfl | hg
      · show act g x ∈ stepO fs x (withN out (act g x))
        rw [q2]
        refine List.mem_append_left _ ?_
        unfold withN
        split
        · assumption
        · simp
      · exact q3 g hg
/-- an orbit -/
structure Orb (n : Nat) (fs : List (Nat → Nat)) (s : Nat) (out : List Nat) : Prop extends OWay n fs s out where
  closed : ∀ x ∈ out, ∀ f ∈ fs, act f x ∈ out
theorem bfsO_spec {n : Nat} {fs : List (Nat → Nat)} (hr : Rows n fs) {s : Nat} : ∀ (q k : Nat) (out : List Nat), k + q = n + 1 → k ≤ out.length → OWay n fs s out → (∀ i x, i < k → out[i]? = some x → ∀ f ∈ fs, act f x ∈ out) → Orb n fs s (bfsO fs q k out)
  | 0, k, out, hq, hk, h, _ => by have := inN_len h.nodup h.rng; omega
  | q + 1, k, out, hq, hk, h, hc => by
    unfold bfsO
    by_cases hlt : k < out.length
    · rw [dif_pos hlt]
      obtain ⟨q1, ⟨t, q2⟩, q3⟩ := stepO_all hr fs out (fun f hf => hf) h (List.getElem?_eq_getElem hlt)
      refine bfsO_spec hr q (k + 1) _ (by omega) (by rw [q2, List.length_append]; omega) q1 fun i x hi hx f hf => ?_
      rw [q2, List.getElem?_append_left (by omega)] at hx
      by_cases hik : i = k
      · subst hik
        rw [List.getElem?_eq_getElem hlt] at hx
        injection hx with hx
        rw [← hx]
        exact q3 f hf
      · rw [q2]
        exact List.mem_append_left _ (hc i x (by omega) hx f hf)
    · rw [dif_neg hlt]
      refine ⟨h, fun x hx f hf => ?_⟩
      obtain ⟨i, hi, e⟩ := List.getElem_of_mem hx
      exact hc i x (by omega) (by rw [List.getElem?_eq_getElem hi, e]) f hf
theorem orb_spec {n : Nat} {fs : List (Nat → Nat)} (hr : Rows n fs) {s : Nat} (h1 : 1 ≤ s) (h2 : s ≤ n) : Orb n fs s (orbF n fs s) :=
  bfsO_spec hr (n + 1) 0 [s] (by omega) (by simp) ⟨rfl, by simp, fun x hx => by simp at hx; omega, fun i y hi hy => by
    rw [List.getElem?_eq_none (by simp; omega)] at hy
    cases hy⟩ (fun i x hi => by omega)
theorem Orb.self {n : Nat} {fs : List (Nat → Nat)} {s : Nat} {out : List Nat} (h : Orb n fs s out) : s ∈ out := List.mem_of_getElem? h.head
theorem Orb.len {n : Nat} {fs : List (Nat → Nat)} {s : Nat} {out : List Nat} (h : Orb n fs s out) : out.length ≤ n := inN_len h.nodup h.rng
/-- a row leads back too -/
theorem Orb.back {n : Nat} {fs : List (Nat → Nat)} (hr : Rows n fs) {s : Nat} {out : List Nat} (h : Orb n fs s out) {f : Nat → Nat} (hf : f ∈ fs) {x : Nat} (hx : 1 ≤ x ∧ x ≤ n) (hm : act f x ∈ out) : x ∈ out := by
  have hnd : (out.map (act f)).Nodup := by
    have : ∀ l : List Nat, InN n l → l.Nodup → (l.map (act f)).Nodup := by
      intro l
      induction l with
      | nil => intro _ _; simp
      | cons a l ih =>
        intro hl hn
        obtain ⟨n1, n2⟩ := List.nodup_cons.1 hn
        rw [List.map_cons, List.nodup_cons]
        refine ⟨fun hm => ?_, ih (fun y hy => hl y (List.mem_cons_of_mem _ hy)) n2⟩
        obtain ⟨y, hy, e⟩ := List.mem_map.1 hm
        have := act_inj (hr f hf) (hl y (List.mem_cons_of_mem _ hy)) (hl a List.mem_cons_self) e
        exact n1 (this ▸ hy)
    exact this out h.rng h.nodup
  by_cases hin : act f x ∈ out.map (act f)
  · obtain ⟨y, hy, e⟩ := List.mem_map.1 hin
    have := act_inj (hr f hf) (h.rng y hy) hx e
    exact this ▸ hy
  · have := (List.nodup_cons.2 ⟨hin, hnd⟩).length_le_of_subset (l₂ := out) fun y hy => by
      rcases List.mem_cons.1 hy with rfl | hy
      · exact hm
      · obtain ⟨z, hz, rfl⟩ := List.mem_map.1 hy
        exact h.closed z hz f hf
    rw [List.length_cons, List.length_map] at this
    omega
theorem Orb.iff {n : Nat} {fs : List (Nat → Nat)} (hr : Rows n fs) {s : Nat} {out : List Nat} (h : Orb n fs s out) {f : Nat → Nat} (hf : f ∈ fs) {x : Nat} (hx : 1 ≤ x ∧ x ≤ n) : act f x ∈ out ↔ x ∈ out := ⟨h.back hr hf hx, fun hm => h.closed x hm f hf⟩
/-- what lies in an orbit has its orbit in it -/
theorem Orb.sub {n : Nat} {fs : List (Nat → Nat)} {s t : Nat} {o p : List Nat} (h : Orb n fs s o) (k : Orb n fs t p) (ht : t ∈ o) : ∀ x ∈ p, x ∈ o := by
  have key : ∀ (i x : Nat), p[i]? = some x → x ∈ o := by
    intro i
    induction i using Nat.strongRecOn with
    | ind i ih =>
      intro x hx
      by_cases hi : i = 0
      · subst hi
        rw [k.head] at hx
        injection hx with hx
        exact hx ▸ ht
      · obtain ⟨j, y, f, hj, hy, hf, rfl⟩ := k.chain i x (by omega) hx
        exact h.closed y (ih j hj y hy) f hf
  intro x hx
  obtain ⟨i, hi, e⟩ := List.getElem_of_mem hx
  exact key i x (by rw [List.getElem?_eq_getElem hi, e])
theorem Orb.symm {n : Nat} {fs : List (Nat → Nat)} (hr : Rows n fs) {s t : Nat} {o p : List Nat} (h : Orb n fs s o) (k : Orb n fs t p) (ht : t ∈ o) : s ∈ p := by
  have key : ∀ (i x : Nat), o[i]? = some x → x ∈ p → s ∈ p := by
    intro i
    induction i using Nat.strongRecOn with
    | ind i ih =>
      intro x hx hxp
      by_cases hi : i = 0
      · subst hi
        rw [h.head] at hx
        injection hx with hx
        exact hx ▸ hxp
      · obtain ⟨j, y, f, hj, hy, hf, rfl⟩ := h.chain i x (by omega) hx
        exact ih j hj y hy (k.back hr hf (h.rng y (List.mem_of_getElem? hy)) hxp)
  obtain ⟨i, hi, e⟩ := List.getElem_of_mem ht
  exact key i t (by rw [List.getElem?_eq_getElem hi, e]) k.self

/-! labels -/
def edgeL (g : Nat → Nat) (part : Nat → Nat) (p : Nat) : Nat → Nat := fun x => if x = act g p ∨ x = p then min (part p) (part (act g p)) else part x
def sweepTo (g : Nat → Nat) (part : Nat → Nat) : Nat → Nat → Nat
  | 0 => part
  | k + 1 => edgeL g (sweepTo g part k) (k + 1)
def roundL (n : Nat) (fs : List (Nat → Nat)) (part : Nat → Nat) : Nat → Nat := fs.foldl (fun pt g => sweepTo g pt n) part
def labs (n : Nat) (fs : List (Nat → Nat)) : Nat → Nat → Nat
  | 0 => id
  | r + 1 => roundL n fs (labs n fs r)
def Lo (m : Nat) (o : List Nat) (part : Nat → Nat) : Prop := ∀ x ∈ o, m ≤ part x
/-- what is at m stays, and nothing falls below -/
theorem edge_keep {n : Nat} {fs : List (Nat → Nat)} (hr : Rows n fs) {m s : Nat} {o : List Nat} (h : Orb n fs s o) {g : Nat → Nat} (hg : g ∈ fs) {part : Nat → Nat} (hlo : Lo m o part) {p : Nat} (hp : 1 ≤ p ∧ p ≤ n) :
    Lo m o (edgeL g part p) ∧ (∀ x ∈ o, part x = m → edgeL g part p x = m) ∧ (p ∈ o → part p = m → edgeL g part p (act g p) = m) := by
  have hiff := h.iff hr hg hp
  refine ⟨fun x hx => ?_, fun x hx e => ?_, fun hpo e => ?_⟩
  · unfold edgeL
    split
    · rename_i hc
      have hpo : p ∈ o := by
        rcases hc with rfl | rfl
        · exact hiff.1 hx
        · exact hx
      have h1 := hlo p hpo
      have h2 := hlo _ (hiff.2 hpo)
      omega
    · exact hlo x hx
  · unfold edgeL
    split
    · rename_i hc
      have hpo : p ∈ o := by
        rcases hc with rfl | rfl
        · exact hiff.1 hx
        · exact hx
      have h1 := hlo p hpo
      have h2 := hlo _ (hiff.2 hpo)
      rcases hc with rfl | rfl <;> omega
    · exact e
  · unfold edgeL
    rw [if_pos (.inl rfl)]
    have h2 := hlo _ (hiff.2 hpo)
    omega
theorem sweep_keep {n : Nat} {fs : List (Nat → Nat)} (hr : Rows n fs) {m s : Nat} {o : List Nat} (h : Orb n fs s o) {g : Nat → Nat} (hg : g ∈ fs) {part : Nat → Nat} (hlo : Lo m o part) : ∀ k, k ≤ n →
    Lo m o (sweepTo g part k) ∧ (∀ x ∈ o, part x = m → sweepTo g part k x = m) ∧ (∀ p ∈ o, p ≤ k → part p = m → sweepTo g part k (act g p) = m)
  | 0, _ => ⟨hlo, fun x _ e => e, fun p hp h0 => by have := (h.rng p hp).1; omega⟩
  | k + 1, hk => by
    obtain ⟨q1, q2, q3⟩ := sweep_keep hr h hg hlo k (by omega)
    obtain ⟨r1, r2, r3⟩ := edge_keep hr h hg q1 (p := k + 1) ⟨by omega, hk⟩
    refine ⟨r1, fun x hx e => r2 x hx (q2 x hx e), fun p hp hpk e => ?_⟩
    by_cases hpe : p = k + 1
    · subst hpe
      exact r3 hp (q2 _ hp e)
    · exact r2 _ (h.closed p hp g hg) (q3 p hp (by omega) e)
theorem round_keep {n : Nat} {all : List (Nat → Nat)} (hr : Rows n all) {m s : Nat} {o : List Nat} (h : Orb n all s o) : ∀ (fs : List (Nat → Nat)) (part : Nat → Nat), (∀ f ∈ fs, f ∈ all) → Lo m o part →
    Lo m o (roundL n fs part) ∧ (∀ x ∈ o, part x = m → roundL n fs part x = m) ∧ (∀ p ∈ o, part p = m → ∀ f ∈ fs, roundL n fs part (act f p) = m)
  | [], part, _, hlo => ⟨hlo, fun x _ e => e, fun p _ _ f hf => by simp at hf⟩
  | g :: fs, part, hs, hlo => by
    obtain ⟨q1, q2, q3⟩ := sweep_keep hr h (hs g List.mem_cons_self) hlo n (Nat.le_refl _)
    obtain ⟨r1, r2, r3⟩ := round_keep hr h fs (sweepTo g part n) (fun f hf => hs f (List.mem_cons_of_mem _ hf)) q1
    refine ⟨r1, fun x hx e => r2 x hx (q2 x hx e), fun p hp e f hf => ?_⟩
    rcases List.mem_cons.1 hf with rfl | hf
    · exact r2 _ (h.closed p hp f (hs f List.mem_cons_self)) (q3 p hp (h.rng p hp).2 e)
    · exact r3 p hp (q2 p hp e) f hf
theorem labs_at {n : Nat} {fs : List (Nat → Nat)} (hr : Rows n fs) {m : Nat} {o : List Nat} (h : Orb n fs m o) (hmin : ∀ x ∈ o, m ≤ x) : ∀ r, Lo m o (labs n fs r) ∧ ∀ i x, i ≤ r → o[i]? = some x → labs n fs r x = m
  | 0 => ⟨fun x hx => hmin x hx, fun i x hi hx => by
    obtain rfl : i = 0 := by omega
    rw [h.head] at hx
    injection hx with hx
    exact hx.symm⟩
  | r + 1 => by
    obtain ⟨q1, q2⟩ := labs_at hr h hmin r
    obtain ⟨r1, r2, r3⟩ := round_keep hr h fs (labs n fs r) (fun f hf => hf) q1
    refine ⟨r1, fun i x hi hx => ?_⟩
    by_cases hir : i ≤ r
    · exact r2 x (List.mem_of_getElem? hx) (q2 i x hir hx)
    · obtain ⟨k, y, f, hk, hy, hf, rfl⟩ := h.chain i x (by omega) hx
      exact r3 y (List.mem_of_getElem? hy) (q2 k y (by omega) hy) f hf
/-- the last labels -/
theorem labs_end {n : Nat} {fs : List (Nat → Nat)} (hr : Rows n fs) {m : Nat} {o : List Nat} (h : Orb n fs m o) (hmin : ∀ x ∈ o, m ≤ x) : ∀ x ∈ o, labs n fs n x = m := by
  intro x hx
  obtain ⟨i, hi, e⟩ := List.getElem_of_mem hx
  have := h.len
  exact (labs_at hr h hmin n).2 i x (by omega) (by rw [List.getElem?_eq_getElem hi, e])
theorem min_of : ∀ (l : List Nat), l ≠ [] → ∃ m ∈ l, ∀ x ∈ l, m ≤ x
  | [], h => absurd rfl h
  | [a], _ => ⟨a, by simp, fun x hx => by simp at hx; omega⟩
  | a :: b :: l, _ => by
    obtain ⟨m, hm, hle⟩ := min_of (b :: l) (by simp)
    by_cases h : a ≤ m
    · exact ⟨a, by simp, fun x hx => by
        rcases List.mem_cons.1 hx with rfl | hx
        · exact Nat.le_refl _
        · exact Nat.le_trans h (hle x hx)⟩
    · exact ⟨m, List.mem_cons_of_mem _ hm, fun x hx => by
        rcases List.mem_cons.1 hx with rfl | hx
        · omega
        · exact hle x hx⟩
def leastIn (n : Nat) (fs : List (Nat → Nat)) (k : Nat) : Prop := ∀ x ∈ orbF n fs k, k ≤ x
/-- whose label is k -/
theorem lab_iff {n : Nat} {fs : List (Nat → Nat)} (hr : Rows n fs) {k p : Nat} (hk : 1 ≤ k ∧ k ≤ n) (hp : 1 ≤ p ∧ p ≤ n) : labs n fs n p = k ↔ leastIn n fs k ∧ p ∈ orbF n fs k := by
  have hok := orb_spec hr hk.1 hk.2
  have hop := orb_spec hr hp.1 hp.2
  constructor
  · intro e
    obtain ⟨m, hm, hle⟩ := min_of (orbF n fs p) (List.ne_nil_of_mem hop.self)
    have hmr := hop.rng m hm
    have hom := orb_spec hr hmr.1 hmr.2
    have hpm := hop.symm hr hom hm
    have hmin : ∀ x ∈ orbF n fs m, m ≤ x := fun x hx => hle x (hop.sub hom hm x hx)
    have := labs_end hr hom hmin p hpm
    rw [e] at this
    subst this
    exact ⟨hmin, hpm⟩
  · rintro ⟨h1, h2⟩
    exact labs_end hr hok h1 p h2
end Go.Proofs.Ytnoepobbecobbaa
namespace Go.Proofs.Ytnoepobbecobbaa
open Go.RowKit
set_option linter.unusedSimpArgs false
set_option linter.unusedVariables false
def numsV (l : List Nat) : List Int := l.map fun x : Nat => (x : Int)
theorem numsV_len (l : List Nat) : (numsV l).length = l.length := by simp [numsV]
/-- the numbers of 1 to n that lie in l, in order -/
def incL (n : Nat) (l : List Nat) : List Nat := ((List.range n).map (· + 1)).filter fun x => decide (x ∈ l)
theorem mem_incL {n : Nat} {l : List Nat} {x : Nat} : x ∈ incL n l ↔ (1 ≤ x ∧ x ≤ n) ∧ x ∈ l := by
  unfold incL
  rw [List.mem_filter, List.mem_map, decide_eq_true_eq]
  constructor
  · rintro ⟨⟨i, hi, rfl⟩, h⟩
    have := List.mem_range.1 hi
    exact ⟨by omega, h⟩
  · rintro ⟨⟨h1, h2⟩, h⟩
    exact ⟨⟨x - 1, List.mem_range.2 (by omega), by omega⟩, h⟩
theorem incL_up (n : Nat) (l : List Nat) : (incL n l).Pairwise (· < ·) := by
  unfold incL
  refine List.Pairwise.filter _ ?_
  rw [List.pairwise_map]
  exact List.Pairwise.imp (fun {a b} h => by omega) List.pairwise_lt_range
theorem ints_unique : ∀ {a b : List Int}, a.Perm b → a.Pairwise (· ≤ ·) → b.Pairwise (· ≤ ·) → a = b
  | [], b, p, _, _ => (List.perm_nil.1 p.symm).symm
  | x :: a, b, p, ha, hb => by
    cases b with
    | nil => exact absurd (List.perm_nil.1 p) (by simp)
    | cons y b =>
      obtain ⟨f1, f2⟩ := List.pairwise_cons.1 ha
      obtain ⟨g1, g2⟩ := List.pairwise_cons.1 hb
      have hxy : x ≤ y := by
        rcases List.mem_cons.1 (p.mem_iff.2 (List.mem_cons_self (a := y) (l := b))) with e | e
        · omega
        · exact f1 y e
      have hyx : y ≤ x := by
        rcases List.mem_cons.1 (p.mem_iff.1 (List.mem_cons_self (a := x) (l := a))) with e | e
        · omega
        · exact g1 x e
      obtain rfl : x = y := by omega
      rw [ints_unique ((List.perm_cons x).1 p) f2 g2]
theorem sort_incL {n : Nat} {l : List Nat} (hn : l.Nodup) (h : InN n l) : ((numsV l).mergeSort fun x y => decide (x ≤ y)) = numsV (incL n l) := by
  have hp : l.Perm (incL n l) := (List.perm_ext_iff_of_nodup hn ((incL_up n l).imp fun {a b} h => by omega)).2 fun x => by
    rw [mem_incL]
    exact ⟨fun hx => ⟨h x hx, hx⟩, fun hx => hx.2⟩
  refine ints_unique ((List.mergeSort_perm _ _).trans (hp.map _)) ?_ ?_
  · have := List.pairwise_mergeSort (le := fun x y : Int => decide (x ≤ y)) (fun a b c h1 h2 => by simp at h1 h2 ⊢; omega) (fun a b => by simp; omega) (numsV l)
    exact this.imp fun {a b} h => by simpa using h
  · unfold numsV
    rw [List.pairwise_map]
    exact (incL_up n l).imp fun {a b} h => by omega
theorem act_sub {n : Nat} {f : Nat → Nat} (hf : IsRow n f) {y : Nat} (hy : y < n) : IntKind.u8.wrap ((f y : Int) - 48) = ((act f (y + 1) : Nat) : Int) := by
  have h1 := hf.lo y hy
  have h2 := hf.hi y hy
  have h3 := hf.eight
  have e : ((act f (y + 1) : Nat) : Int) = (f y : Int) - 48 := by unfold act; rw [Nat.add_sub_cancel]; omega
  rw [e]
  exact IntWalk.u8_in _ ⟨by omega, by omega⟩
end Go.Proofs.Ytnoepobbecobbaa
namespace Go.Proofs.Ytnoepobbecobbaa
open Go.RowKit
set_option linter.unusedSimpArgs false
set_option linter.unusedVariables false

def NumOut (l : List Nat) (w : World) (e : Ending) (w' : World) : Prop := ∃ v, e = .returned v ∧ New w.heap.size w' 3 v (ints (numsV l)) ∧ Below w.heap.size w w'
theorem withN_no {o : List Nat} {y : Nat} (h : decide (y ∈ o) = false) : withN o y = o ++ [y] := by simp only [decide_eq_false_iff_not] at h; simp [withN, h]
theorem withN_yes {o : List Nat} {y : Nat} (h : decide (y ∈ o) = true) : withN o y = o := by simp only [decide_eq_true_eq] at h; simp [withN, h]
theorem numsV_snoc (o : List Nat) (y : Nat) : ints (numsV o) ++ [.int .i64 (y : Int)] = ints (numsV (o ++ [y])) := by simp [ints, numsV]

end Go.Proofs.Ytnoepobbecobbaa
