/- OrbitsOf, the program. -/
import Derived.Test.YtnoepobbecobbaaOAC
namespace Go.Proofs.Ytnoepobbecobbaa
open Go.RowKit
set_option linter.unusedSimpArgs false
set_option linter.unusedVariables false

/-- one more inner slice, made behind all the others -/
theorem Lists.more6 {B C : Nat} {W W' : World} {v v' : Value} {vs : List Value} {n : Nat} {F : Nat → List Int} {cv : Value} {c : List Int} (h : Lists B W v vs n F) (hcv : New C W 3 cv (ints c)) (hBC : B ≤ C)
    (hlt : ∀ i g, i < n → (vs.getD i nilV).ownBlock = some g → g < C) (hO : New B W' 34 v' (vs ++ [cv])) (hk : KeptBut W W' v) : Lists B W' v' (vs ++ [cv]) (n + 1) (fun i => if i = n then c else F i) := by
  have hlen := h.len
  have hold : ∀ i, i < n → (vs ++ [cv]).getD i nilV = vs.getD i nilV := fun i hi => by
    rw [List.getD_eq_getElem?_getD, List.getD_eq_getElem?_getD, List.getElem?_append_left (by omega)]
  have hnew : (vs ++ [cv]).getD n nilV = cv := by
    rw [List.getD_eq_getElem?_getD, List.getElem?_append_right (by omega)]; simp [hlen]
  refine ⟨hO.own, by simp [hlen], fun i hi => ?_, fun i j g hij hj hgi => ?_, hO.base, fun i g hi hgi => ?_⟩
  · by_cases e : i = n
    · subst e; rw [hnew, if_pos rfl]; exact hcv.own.block fun g hg => hk g (hcv.own.lt g hg) (hcv.own.apart h.outer (by decide) g hg)
    · rw [hold i (by omega), if_neg e]
      have hi2 := h.inner i (by omega)
      exact hi2.block fun g hg => hk g (hi2.lt g hg) (hi2.apart h.outer (by decide) g hg)
  · rw [hold i (by omega)] at hgi
    by_cases e : j = n
    · subst e
      rw [hnew]
      intro q
      have := hlt i g hij hgi
      have := hcv.base g q
      omega
    · rw [hold j (by omega)]; exact h.apart i j g hij (by omega) hgi
  · by_cases e : i = n
    · subst e; rw [hnew] at hgi; exact Nat.le_trans hBC (hcv.base g hgi)
    · rw [hold i (by omega)] at hgi; exact h.ibase i g (by omega) hgi

theorem NewD.blockK {B : Nat} {W W' : World} {v : Value} {fs : List (Nat → Nat)} (h : NewD B W v fs) (hk : ∀ g, v.ownBlock = some g → W'.heap[g]? = W.heap[g]?) : NewD B W' v fs := by
  obtain ⟨h1, h2⟩ := h
  refine ⟨h1, ?_⟩
  rcases h2 with h2 | ⟨g, cap, cur, rfl, hBg, hb, h3⟩
  · exact .inl h2
  · exact .inr ⟨g, cap, cur, rfl, hBg, by rw [hk g rfl]; exact hb, h3⟩
theorem NewD.apartInts {B C : Nat} {W : World} {v u : Value} {fs : List (Nat → Nat)} {xs : List Value} (h : NewD B W v fs) (hu : New C W 34 u xs) (g : Nat) (hg : v.ownBlock = some g) : u.ownBlock ≠ some g := by
  obtain ⟨h1, h2⟩ := h
  rcases h2 with ⟨rfl, h0⟩ | ⟨g', cap, cur, rfl, hBg, hb, _⟩
  · simp [Value.ownBlock] at hg
  · have hg : g' = g := by simpa [Value.ownBlock] using hg
    subst hg
    rcases hu.own.shape with ⟨rfl, _⟩ | ⟨g2, c2, rfl, _⟩
    · simp [Value.ownBlock]
    · obtain ⟨cur2, h3, _⟩ := hu.own.row
      intro e
      have e : g2 = g' := by simpa [Value.ownBlock] using e
      subst e
      rw [hb] at h3
      simp at h3
open Classical in
/-- the orbits of the numbers to k, each at its least number -/
noncomputable def orbsTo (n : Nat) (fs : List (Nat → Nat)) : Nat → List (List Nat)
  | 0 => []
  | k + 1 => if leastIn n fs (k + 1) then orbsTo n fs k ++ [incL n (orbF n fs (k + 1))] else orbsTo n fs k
theorem orbsTo_yes {n : Nat} {fs : List (Nat → Nat)} {k : Nat} (h : leastIn n fs (k + 1)) : orbsTo n fs (k + 1) = orbsTo n fs k ++ [incL n (orbF n fs (k + 1))] := by simp [orbsTo, h]
theorem orbsTo_no {n : Nat} {fs : List (Nat → Nat)} {k : Nat} (h : ¬ leastIn n fs (k + 1)) : orbsTo n fs (k + 1) = orbsTo n fs k := by simp [orbsTo, h]
theorem orbsTo_len (n : Nat) (fs : List (Nat → Nat)) : ∀ k, (orbsTo n fs k).length ≤ k
  | 0 => Nat.le_refl _
  | k + 1 => by
    have := orbsTo_len n fs k
    by_cases h : leastIn n fs (k + 1)
    · rw [orbsTo_yes h, List.length_append]; simp; omega
    · rw [orbsTo_no h]; omega
def lkN (rs : List (List Nat)) (i : Nat) : List Int := numsV (rs.getD i [])
/-- an orbit's first number -/
theorem orb_first {n : Nat} {fs : List (Nat → Nat)} (hr : Rows n fs) {s : Nat} (h1 : 1 ≤ s) (h2 : s ≤ n) : ∃ a t, incL n (orbF n fs s) = a :: t ∧ (a = s ↔ leastIn n fs s) := by
  have ho := orb_spec hr h1 h2
  have hs : s ∈ incL n (orbF n fs s) := mem_incL.2 ⟨⟨h1, h2⟩, ho.self⟩
  have hup := incL_up n (orbF n fs s)
  cases hi : incL n (orbF n fs s) with
  | nil => rw [hi] at hs; simp at hs
  | cons a t =>
    refine ⟨a, t, rfl, ?_⟩
    rw [hi] at hs hup
    have hle : ∀ x ∈ a :: t, a ≤ x := fun x hx => by
      rcases List.mem_cons.1 hx with rfl | hx
      · exact Nat.le_refl _
      · exact Nat.le_of_lt ((List.pairwise_cons.1 hup).1 x hx)
    constructor
    · intro e x hx
      rw [← e]
      exact hle x (by rw [← hi]; exact mem_incL.2 ⟨ho.rng x hx, hx⟩)
    · intro hl
      have ha : a ∈ incL n (orbF n fs s) := by rw [hi]; exact List.mem_cons_self
      have := hl a (mem_incL.1 ha).2
      have := hle s hs
      omega
theorem NumOut_at {l : List Nat} {w : World} {e : Ending} {w' : World} (h : NumOut l w e w') : ∃ v, e = .returned v ∧ New w.heap.size w' 3 v (ints (numsV l)) ∧ Below w.heap.size w w' := h
theorem Lists.newN {B : Nat} {W : World} {v : Value} {vs : List Value} {n : Nat} {F : Nat → List Int} (h : Lists B W v vs n F) : New B W 34 v vs := ⟨h.outer, h.base⟩
theorem lkN_snoc (rs : List (List Nat)) (l : List Nat) (i : Nat) (hi : i < rs.length + 1) : (if i = rs.length then numsV l else lkN rs i) = lkN (rs ++ [l]) i := by
  unfold lkN
  by_cases e : i = rs.length
  · subst e
    rw [if_pos rfl, List.getD_eq_getElem?_getD, List.getElem?_append_right (Nat.le_refl _)]
    simp
  · rw [if_neg e, List.getD_eq_getElem?_getD, List.getD_eq_getElem?_getD, List.getElem?_append_left (by omega)]
noncomputable def orB (n : Int) (L : List (List Nat)) : Bool := rowsB n L && (decide (3 ≤ n) && decide (n ≤ 8))
noncomputable def orL (n : Int) (L : List (List Nat)) : List (List Nat) := if orB n L = true then orbsTo n.toNat (rF L) n.toNat else []
def ListsN (rs : List (List Nat)) (b : Bool) (w : World) (e : Ending) (w' : World) : Prop := ∃ v vs, e = .returned (.tuple #[v, .bool b]) ∧ Lists w.heap.size w' v vs rs.length (lkN rs) ∧ Below w.heap.size w w'
theorem orL_no {n : Int} {L : List (List Nat)} (h : orB n L = false) : orL n L = [] := by unfold orL; simp [h]
theorem orL_yes {n : Int} {L : List (List Nat)} (h : orB n L = true) : orL n L = orbsTo n.toNat (rF L) n.toNat := by unfold orL; simp [h]

end Go.Proofs.Ytnoepobbecobbaa
