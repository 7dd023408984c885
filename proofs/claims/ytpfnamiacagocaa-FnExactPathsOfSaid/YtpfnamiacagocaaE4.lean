/- A range over an iterator that keeps a row of its own between two rounds: a law for such a loop, in two parties' words. -/
import Derived.RangeFuncNested
import Derived.RangeFuncLeaves
import Derived.Test.YtpfnamiacagocaaE3
namespace Go.Proofs.Ytpfnamiacagocaa
open Go.RowKit
set_option linter.unusedSimpArgs false
set_option linter.unusedVariables false

/-- what the iterator leaves alone: the blocks below B, and whatever is no row's block -/
structure OffT (B : Nat) (A C : World) : Prop where
  below : Below B A C
  same : ∀ (k : Nat) (o : Obj), A.heap[k]? = some o → (∀ cs fz, o ≠ .cells cs 68 fz) → C.heap[k]? = some o
/-- what the loop's own words abide: blocks of cells of another type than a row's stand, and the blocks below B -/
structure OffC (B : Nat) (A C : World) : Prop where
  below : Below B A C
  same : ∀ (k : Nat) (cs : Array Value) (t : TypeId) (fz : Nat × Nat), t ≠ 68 → A.heap[k]? = some (.cells cs t fz) → C.heap[k]? = some (.cells cs t fz)
/-- what a round keeps for the iterator: the rows -/
structure KeepT (A C : World) : Prop where
  size : A.heap.size ≤ C.heap.size
  row : ∀ (k : Nat) (cs : Array Value), A.heap[k]? = some (.cells cs 68) → C.heap[k]? = some (.cells cs 68)
theorem KeepT.trans {A B C : World} (h : KeepT A B) (k : KeepT B C) : KeepT A C := ⟨Nat.le_trans h.size k.size, fun j cs hj => k.row j cs (h.row j cs hj)⟩
theorem OffT.offC {B B' : Nat} {A C : World} (h : OffT B A C) (hb : B' ≤ B) : OffC B' A C := ⟨h.below.mono hb, fun k cs t fz ht hk => h.same k _ hk (fun cs' fz' e => by cases e; exact ht rfl)⟩
theorem OffT.of_below {A C : World} (h : Below A.heap.size A C) (B : Nat) (hB : B ≤ A.heap.size) : OffT B A C :=
  ⟨h.mono hB, fun k o hk _ => (h.block k (Array.getElem?_eq_some_iff.1 hk).1).trans hk⟩
theorem OffC.putObj {B : Nat} {A : World} {l : Nat} {o o' : Obj} (hB : B ≤ l) (hl : A.heap[l]? = some o) (ho : o.isCells = false) : OffC B A (A.putObj l o') := by
  refine ⟨(Below.refl B A).grown (grownBy_putObj' A l o') (by have := (Array.getElem?_eq_some_iff.1 hl).1; omega) (fun k e => by cases e; omega), fun k cs t fz _ hk => ?_⟩
  by_cases e : k = l
  · subst e; rw [hl] at hk; cases hk; cases ho
  · exact (World.putObj_heap_other e).trans hk
theorem KeepT.putObj {A : World} {l : Nat} {o o' : Obj} (hl : A.heap[l]? = some o) (ho : o.isCells = false) : KeepT A (A.putObj l o') := by
  refine ⟨by simp, fun k cs hk => ?_⟩
  by_cases e : k = l
  · subst e; rw [hl] at hk; cases hk; cases ho
  · exact (World.putObj_heap_other e).trans hk
theorem KeepT.of_below {A C : World} (h : Below A.heap.size A C) : KeepT A C := ⟨h.size, fun k cs hk => (h.block k (Array.getElem?_eq_some_iff.1 hk).1).trans hk⟩

/-- how a round's body ends -/
def roundEnd {α : Type} (I : List α → World → Prop) (s : List α) (A : World) : Exit → Act → World → Prop
  | .normal, _, C => I s C ∧ KeepT A C ∧ KeepsOthers A C
  | _, _, _ => False

theorem rangeT {α : Type} {m : Nat} (N : Nat) {P : Program} {g : Operand} {p : Tmp} {assign body : Code} {Q : Exit → Act → World → Prop} {a : Act} {w : World} {gf : Nat} {lb : Array Value}
    (hg : a.eval g = .func (.func gf) #[] lb) (eg : ∀ args w, (callFunc gf args).run P w = .ok (.enter gf args) w)
    (enc : α → Value) (ok : α → Prop) (xs : List α) (I : List α → World → Prop)
    (hI : ∀ s A C, I s A → OffC w.heap.size A C → I s C) (h0 : I [] w)
    (hseq : ∀ (l : Nat) (J : List α → World → Prop) (W : World), Below w.heap.size w W → (∀ s A C, J s A → OffT W.heap.size A C → J s C) →
      (∀ pre x A, ok x → pre.length ≤ N → J pre A → YieldAt Fence.wide m P l #[enc x] A fun e C => e = .returned (.bool true) ∧ J (pre ++ [x]) C ∧ KeepT A C) → J [] W →
      CallsIn Fence.wide (m + 1) P gf (#[.func (.yield l) #[] #[]] ++ lb) W fun e C => (∃ v, e = .returned v) ∧ J xs C)
    (a₁ : α → Nat → Act) (o₁ : α → Obj)
    (hassign : ∀ (l : Nat) (x : α) (A : World) (K : Act → World → Prop), K (a₁ x A.heap.size) (A.alloc (o₁ x)) →
      assign.wpIn (Fence.wide.inRound l) m P (Exit.then K (fun _ _ _ => False)) { tmps := a.tmps.setIfInBounds p (enc x), defers := [] } A)
    (hbody : ∀ (l : Nat) (pre : List α) (x : α) (k : Nat) (A : World), ok x → pre.length ≤ N → I pre A → w.heap.size ≤ k → A.heap[k]? = some (o₁ x) → body.wpIn (Fence.wide.inRound l) m P (roundEnd I (pre ++ [x]) A) (a₁ x k) A)
    (hdone : ∀ (D : Nat) (A : World), w.heap.size ≤ D → I xs A → A.heap[D]? = some (.deferred (some [])) → Q .normal { a with defers := { target := .collected D, args := #[] } :: a.defers } A) :
    (Code.rangeFunc g #[p] assign body).wpIn Fence.wide (m + 2) P Q a w := by
  refine wpIn_rangeFunc fun fn hfn => ?_
  obtain ⟨L, hL⟩ : ∃ L : LoopState → Option Code → Loop, L = fun st pe => { state := st, pending := pe, fn, tmps := a.tmps, params := #[p], assign, body, defers := w.heap.size } := ⟨_, rfl⟩
  obtain ⟨W, hW⟩ : ∃ W, (w.alloc (.deferred (some []))).alloc (.loop (L .ready none)) = W := ⟨_, rfl⟩
  have hl : W.heap[w.heap.size + 1]? = some (.loop (L .ready none)) := by
    rw [← hW]
    have := World.alloc_heap_new (w.alloc (.deferred (some []))) (.loop (L .ready none))
    rwa [World.size_alloc] at this
  have hk : W.heap[w.heap.size]? = some (.deferred (some [])) := by
    rw [← hW]
    exact (Below.heap_alloc _ _ _ (by simp)).trans (World.alloc_heap_new w _)
  have hb : Below w.heap.size w W := by
    rw [← hW]
    exact ((Below.refl _ w).alloc (Nat.le_refl _) _).alloc (by simp) _
  have hiW : I [] W := hI [] w W h0 ((OffT.of_below hb _ (Nat.le_refl _)).offC (Nat.le_refl _))
  have hsz := hb.size
  refine ⟨w.heap.size + 1, [{ target := .collected w.heap.size, args := #[] }], W, { target := .fn (.func gf) lb, args := #[.func (.yield (w.heap.size + 1)) #[] #[]] }, W, gf,
    #[.func (.yield (w.heap.size + 1)) #[] #[]] ++ lb, W, ?_, ?_, fun _ _ => trivial, ?_, (fun h => by cases h), ?_⟩
  · rw [← hW, hL]; exact run_enterLoop_outer _ _ _ _ _
  · simp only [resolve, hg]
    simp [go_sem]
  · simp [invoke, go_sem, eg]
  · refine (hseq (w.heap.size + 1) (fun s A => I s A ∧ A.heap[w.heap.size + 1]? = some (.loop (L .ready none)) ∧ A.heap[w.heap.size]? = some (.deferred (some []))) W hb ?_ ?_ ⟨hiW, hl, hk⟩).mono ?_
    · rintro s A C ⟨h1, h2, h3⟩ hoff
      exact ⟨hI s A C h1 (hoff.offC hsz), hoff.same _ _ h2 (fun _ _ e => by cases e), hoff.same _ _ h3 (fun _ _ e => by cases e)⟩
    · rintro pre x A hx hN ⟨h1, h2, h3⟩
      have hlt : w.heap.size + 1 < A.heap.size := (Array.getElem?_eq_some_iff.1 h2).1
      have hy := run_yield (P := P) (args := #[enc x]) h2 (by rw [hL]; rfl)
      rw [hL] at hy
      refine ⟨fn, _, assign, body, hy, roundIn_of_wpIn hfn ?_⟩
      obtain ⟨A1, hA1⟩ : ∃ A1, A.alloc (o₁ x) = A1 := ⟨_, rfl⟩
      have hbA : Below A.heap.size A A1 := by rw [← hA1]; exact (Below.refl _ A).alloc (Nat.le_refl _) _
      have g2 : A1.heap[w.heap.size + 1]? = some (.loop (L .ready none)) := (hbA.block _ hlt).trans h2
      have g3 : A1.heap[w.heap.size]? = some (.deferred (some [])) := (hbA.block _ (by omega)).trans h3
      have g4 : A1.heap[A.heap.size]? = some (o₁ x) := by rw [← hA1]; exact World.alloc_heap_new A _
      have g1 : I pre A1 := hI _ _ _ h1 ((OffT.of_below hbA _ (Nat.le_refl _)).offC (by omega))
      have hlt1 : w.heap.size + 1 < A1.heap.size := (Array.getElem?_eq_some_iff.1 g2).1
      have htm : ((#[p].zip #[enc x]).foldl (fun t (q : Tmp × Value) => t.setIfInBounds q.1 q.2) a.tmps) = a.tmps.setIfInBounds p (enc x) := by simp
      have hgo := hassign (w.heap.size + 1) x A (fun a₁ w₁ => ∃ w₂, (Instr.beginRound (w.heap.size + 1)).run P w₁ = .ok () w₂ ∧ body.wpIn (Fence.wide.inRound (w.heap.size + 1)) m P (roundPost P (w.heap.size + 1) fun e C => e = .returned (.bool true) ∧ (I (pre ++ [x]) C ∧ C.heap[w.heap.size + 1]? = some (.loop (L .ready none)) ∧ C.heap[w.heap.size]? = some (.deferred (some []))) ∧ KeepT A C) a₁ w₂) ?_
      · rw [← htm] at hgo; exact hgo
      rw [hA1]
      refine ⟨_, run_beginRound g2 (by rw [hL]), ?_⟩
      obtain ⟨A2, hA2⟩ : ∃ A2, A1.putObj (w.heap.size + 1) (.loop { L .ready none with state := .busy }) = A2 := ⟨_, rfl⟩
      rw [hA2]
      have k2 : A2.heap[w.heap.size + 1]? = some (.loop { L .ready none with state := .busy }) := by rw [← hA2]; exact World.putObj_heap_same hlt1
      have k3 : A2.heap[w.heap.size]? = some (.deferred (some [])) := by rw [← hA2]; exact (World.putObj_heap_other (by omega)).trans g3
      have k4 : A2.heap[A.heap.size]? = some (o₁ x) := by rw [← hA2]; exact (World.putObj_heap_other (by omega)).trans g4
      have k1 : I pre A2 := by rw [← hA2]; exact hI _ _ _ g1 (OffC.putObj (by omega) g2 rfl)
      have kk : KeepT A A2 := (KeepT.of_below hbA).trans (by rw [← hA2]; exact KeepT.putObj g2 rfl)
      refine wpIn_mono (hbody _ pre x _ A2 hx hN k1 (by omega) k4) ?_
      rintro e a3 C hp
      cases e with
      | normal =>
        obtain ⟨c1, c2, c3⟩ := hp
        have d2 := c3.same _ _ k2 rfl
        have d3 := c3.same _ _ k3 rfl
        have hr := run_endRound (P := P) none d2
        rw [hL] at hr d2
        refine ⟨_, _, hr, rfl, ⟨hI _ _ _ c1 (OffC.putObj (by omega) d2 rfl), ?_, (World.putObj_heap_other (by omega)).trans d3⟩, (kk.trans c2).trans (KeepT.putObj d2 rfl)⟩
        rw [hL]
        exact World.putObj_heap_same (Array.getElem?_eq_some_iff.1 d2).1
      | ret => exact hp.elim
      | exit id => exact hp.elim
      | goto t => exact hp.elim
      | panic c => exact hp.elim
      | outgrown => exact hp.elim
    · rintro e A ⟨⟨v, rfl⟩, h1, h2, h3⟩
      have hr := run_endLoop (P := P) h2 (by rw [hL]; simp)
      refine ⟨none, _, by rw [hr, hL], ?_⟩
      refine hdone _ _ (Nat.le_refl _) (hI _ _ _ h1 (OffC.putObj (by omega) h2 rfl)) ((World.putObj_heap_other (by omega)).trans h3)
end Go.Proofs.Ytpfnamiacagocaa
