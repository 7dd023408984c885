/- Leads and courses: neighbours, the lead turned back; changes from row to row. -/
import Derived.Test.YtnoepobbecobbaaMB
import Derived.Test.YtnoepobbecobbaaSD
namespace Go.Proofs.Ytnoepobbecobbaa
open Go.RowKit
set_option linter.unusedSimpArgs false
set_option linter.unusedVariables false

theorem cf_twice {n : Nat} {l : List Nat} (h : goodL n l = true) : mulR n (cf n l) (cf n l) = rdf n := by
  have h3 := goodL_three h
  have h8 := goodL_eight h
  have hk : ∀ n, n < 9 → 3 ≤ n → ∀ l ∈ chs n, ((List.range n).all fun i => decide (cf n l (cf n l i - 49) = 49 + i)) = true := by decide +kernel
  have := hk n (by omega) h3 l (mem_chs h)
  simp only [List.all_eq_true, List.mem_range, decide_eq_true_eq] at this
  refine row_ext (isRow_mul (isRow_cf h) (isRow_cf h)) (isRow_rdf h3 h8) fun i hi => ?_
  rw [mulR_at _ _ hi, this i hi]
  unfold rdf
  rw [if_pos hi]
theorem ch_twice {n : Nat} {L : List (List Nat)} (hg : goodAll n L = true) : ∀ c ∈ chR n L, mulR n c c = rdf n := by
  intro c hc
  obtain ⟨l, hl, rfl⟩ := List.mem_map.1 hc
  have h := goodAll_mem hg l hl
  rw [goodC_in] at h
  rw [chF_yes h]
  exact cf_twice h
/-- a lead and the lead backwards -/
theorem head_back {n : Nat} (h3 : 3 ≤ n) (h8 : n ≤ 8) : ∀ {cs : List (Nat → Nat)}, Rows n cs → (∀ c ∈ cs, mulR n c c = rdf n) → mulR n (headF n cs) (headF n cs.reverse) = rdf n
  | [], _, _ => by
    show mulR n (rdf n) (rdf n) = rdf n
    exact rounds_mul (isRow_rdf h3 h8)
  | c :: t, hr, ht => by
    have hc := hr.head
    have hrt : Rows n t.reverse := fun x hx => hr.tail x (List.mem_reverse.1 hx)
    have ih := head_back h3 h8 hr.tail fun x hx => ht x (List.mem_cons_of_mem _ hx)
    have h1 : headF n (c :: t) = mulR n c (headF n t) := by
      show endF n t (mulR n (rdf n) c) = _
      rw [rounds_mul hc, endF_head hr.tail hc]
    have h2 : headF n [c] = c := by
      show mulR n (rdf n) c = c
      exact rounds_mul hc
    have h4 := isRow_head h3 h8 hr.tail
    have h5 := isRow_head h3 h8 hrt
    rw [List.reverse_cons, headF_app h3 h8 hrt (fun x hx => by simp at hx; rw [hx]; exact hc), h1, h2, ← mulR_assoc (isRow_mul hc h4) h5 hc, mulR_assoc hc h4 h5, ih, mul_rounds hc]
    exact ht c List.mem_cons_self
theorem head_rev {n : Nat} {cs : List (Nat → Nat)} (h3 : 3 ≤ n) (h8 : n ≤ 8) (hr : Rows n cs) (ht : ∀ c ∈ cs, mulR n c c = rdf n) : headF n cs.reverse = invF n (headF n cs) := by
  have h := isRow_head h3 h8 hr
  refine mul_cancel h (isRow_head h3 h8 fun x hx => hr x (List.mem_reverse.1 hx)) (isRow_inv h) ?_
  rw [head_back h3 h8 hr ht, mul_inv h]
theorem chR_rev (n : Int) (L : List (List Nat)) : chR n L.reverse = (chR n L).reverse := by simp [chR]

/-! rows one after another -/
theorem leadF_app (n : Nat) : ∀ (a b : List (Nat → Nat)) (f : Nat → Nat), leadF n (a ++ b) f = leadF n a f ++ leadF n b (endF n a f)
  | [], b, f => rfl
  | c :: a, b, f => by
    show f :: leadF n (a ++ b) (mulR n f c) = _
    rw [leadF_app n a b]
    rfl
/-- the changes of k leads -/
def timesL (cs : List (Nat → Nat)) : Nat → List (Nat → Nat)
  | 0 => []
  | k + 1 => cs ++ timesL cs k
theorem timesL_len (cs : List (Nat → Nat)) : ∀ k, (timesL cs k).length = k * cs.length
  | 0 => by simp [timesL]
  | k + 1 => by simp only [timesL, List.length_append, timesL_len cs k, Nat.succ_mul]; omega
theorem timesL_mem {cs : List (Nat → Nat)} {c : Nat → Nat} : ∀ k, c ∈ timesL cs k → c ∈ cs
  | 0, h => by simp [timesL] at h
  | k + 1, h => by
    rcases List.mem_append.1 (show c ∈ cs ++ timesL cs k from h) with h | h
    · exact h
    · exact timesL_mem k h
theorem courseF_flat (n : Nat) (cs : List (Nat → Nat)) : ∀ (k : Nat) (f : Nat → Nat), courseF n cs k f = leadF n (timesL cs k) f
  | 0, f => rfl
  | k + 1, f => by
    show leadF n cs f ++ courseF n cs k (endF n cs f) = leadF n (cs ++ timesL cs k) f
    rw [leadF_app, courseF_flat n cs k]
theorem endF_times {n : Nat} {cs : List (Nat → Nat)} (hr : Rows n cs) : ∀ (k : Nat) {f : Nat → Nat}, IsRow n f → endF n (timesL cs k) f = mulR n f (powR n (headF n cs) k)
  | 0, f, hf => (mul_rounds hf).symm
  | k + 1, f, hf => by
    have hh := isRow_head hf.three hf.eight hr
    show endF n (cs ++ timesL cs k) f = _
    have h1 : powR n (headF n cs) (k + 1) = mulR n (headF n cs) (powR n (headF n cs) k) := by
      have := pow_add hh 1 k
      rw [Nat.add_comm 1 k] at this
      rw [this]
      congr 1
      show mulR n (rdf n) (headF n cs) = headF n cs
      exact rounds_mul hh
    rw [endF_app, endF_times hr k (isRow_end hr hf), endF_head hr hf, h1, mulR_assoc hf hh (isRow_pow hh k)]
/-- from each row the next, and from the last the first -/
theorem lead_next {n : Nat} {cs : List (Nat → Nat)} (hr : Rows n cs) {f : Nat → Nat} (hf : IsRow n f) (hend : endF n cs f = f) (i : Nat) (hi : i < cs.length) :
    mulR n ((leadF n cs f).getD i (rdf n)) cs[i] = (leadF n cs f).getD ((i + 1) % cs.length) (rdf n) := by
  have hstep : ∀ j (hj : j < cs.length), mulR n (endF n (cs.take j) f) cs[j] = endF n (cs.take (j + 1)) f := fun j hj => by
    rw [List.take_add_one, List.getElem?_eq_getElem hj, endF_app]
    rfl
  have hat : ∀ j, j < cs.length → (leadF n cs f).getD j (rdf n) = endF n (cs.take j) f := fun j hj => by
    rw [List.getD_eq_getElem?_getD, leadF_at cs f j hj, Option.getD_some]
  rw [hat i hi, hstep i hi]
  by_cases hl : i + 1 < cs.length
  · rw [Nat.mod_eq_of_lt hl, hat _ hl]
  · have e : i + 1 = cs.length := by omega
    rw [e, Nat.mod_self, hat 0 (by omega), List.take_length, hend]
    rfl

/-- the change from a row of a list to the next one, round to the first -/
noncomputable def nxt (n : Nat) (fs : List (Nat → Nat)) (k : Nat) : Option (List Nat) := chText n (quoR n (fs.getD k (rdf n)) (fs.getD ((k + 1) % fs.length) (rdf n)))
noncomputable def nxB (n : Nat) (fs : List (Nat → Nat)) : Nat → Bool
  | 0 => true
  | k + 1 => nxB n fs k && (nxt n fs k).isSome
noncomputable def nxL (n : Nat) (fs : List (Nat → Nat)) : Nat → List (List Nat)
  | 0 => []
  | k + 1 => nxL n fs k ++ [(nxt n fs k).getD []]
theorem nxL_len (n : Nat) (fs : List (Nat → Nat)) : ∀ k, (nxL n fs k).length = k
  | 0 => rfl
  | k + 1 => by simp [nxL, nxL_len n fs k]
theorem nxB_no {n : Nat} {fs : List (Nat → Nat)} {k : Nat} (h : nxt n fs k = none) : ∀ m, k < m → nxB n fs m = false
  | 0, hk => by omega
  | m + 1, hk => by
    show (nxB n fs m && (nxt n fs m).isSome) = false
    by_cases e : k = m
    · subst e; rw [h]; simp
    · rw [nxB_no h m (by omega)]; rfl
theorem nxB_all {n : Nat} {fs : List (Nat → Nat)} : ∀ m, (∀ k, k < m → (nxt n fs k).isSome = true) → nxB n fs m = true
  | 0, _ => rfl
  | m + 1, h => by
    show (nxB n fs m && (nxt n fs m).isSome) = true
    rw [nxB_all m fun k hk => h k (by omega), h m (by omega)]
    rfl
/-- a course's rows lead on by changes -/
theorem course_next {n : Nat} {L : List (List Nat)} (hg : goodAll n L = true) {k : Nat} (hk : IsOrd n (headF n (chR n L)) k) {f : Nat → Nat} (hf : IsRow n f) :
    nxB n (courseF n (chR n L) k f) (courseF n (chR n L) k f).length = true := by
  have hr := goodAll_rows hg
  have h3 := hf.three
  have h8 := hf.eight
  have hrt : Rows n (timesL (chR n L) k) := fun c hc => hr c (timesL_mem k hc)
  have hend : endF n (timesL (chR n L) k) f = f := by rw [endF_times hr k hf, hk.back, mul_rounds hf]
  rw [courseF_flat]
  refine nxB_all _ fun i hi => ?_
  rw [leadF_len] at hi
  have hn := lead_next hrt hf hend i hi
  have hrow : IsRow n ((leadF n (timesL (chR n L) k) f).getD i (rdf n)) := by
    rw [List.getD_eq_getElem?_getD, List.getElem?_eq_getElem (by rw [leadF_len]; exact hi), Option.getD_some]
    exact rows_lead hrt hf _ (List.getElem_mem _)
  obtain ⟨l, hl, e⟩ := List.mem_map.1 (timesL_mem k (List.getElem_mem hi))
  have hgl := goodAll_mem hg l hl
  rw [goodC_in] at hgl
  rw [← e, chF_yes hgl] at hn
  have := betw_some hrow h3 h8 (mem_chs hgl) hn
  unfold nxt
  rw [leadF_len, this]
  rfl
/-- lists of rows whose neighbours are asked -/
noncomputable def areB (L : List (List Nat)) : Bool := listB L && (decide (0 < L.length) && nxB (firstN L) (rF L) (rF L).length)
noncomputable def chgL (L : List (List Nat)) : List (List Nat) := if areB L = true then nxL (firstN L) (rF L) (rF L).length else []
end Go.Proofs.Ytnoepobbecobbaa
