/- Orbits: what the drawn law asks. -/
import Derived.Test.YtapcfojnljnoaaaGreatOE
import Derived.Test.YtapcfojnljnoaaaGreatLI
namespace Go.Proofs.YtapcfojnljnoaaaGreat
open Go.RowKit
set_option linter.unusedSimpArgs false
set_option linter.unusedVariables false

theorem lab_rng {n : Nat} {fs : List (Nat → Nat)} (hr : Rows n fs) {p : Nat} (hp : 1 ≤ p ∧ p ≤ n) : 1 ≤ labs n fs n p ∧ labs n fs n p ≤ n := by
  have hop := orb_spec hr hp.1 hp.2
  obtain ⟨m, hm, hle⟩ := min_of (orbF n fs p) (List.ne_nil_of_mem hop.self)
  have hmr := hop.rng m hm
  have hom := orb_spec hr hmr.1 hmr.2
  have hpm := hop.symm hr hom hm
  have hmin : ∀ x ∈ orbF n fs m, m ≤ x := fun x hx => hle x (hop.sub hom hm x hx)
  have := (lab_iff hr hmr hp).2 ⟨hmin, hpm⟩
  omega
theorem count_le (lab : Nat → Nat) (K : Nat) : ∀ l : List Nat, (l.filter fun p => decide (lab p ≤ K + 1)).length = (l.filter fun p => decide (lab p ≤ K)).length + (l.filter fun p => decide (lab p = K + 1)).length
  | [] => rfl
  | a :: l => by
    have := count_le lab K l
    by_cases h1 : lab a ≤ K
    · have h2 : lab a ≤ K + 1 := by omega
      have h3 : lab a ≠ K + 1 := by omega
      simp [h1, h2, h3]
      omega
    · by_cases h2 : lab a = K + 1
      · have h3 : lab a ≤ K + 1 := by omega
        simp [h1, h2, h3]
        omega
      · have h3 : ¬ lab a ≤ K + 1 := by omega
        simp [h1, h2, h3]
        omega
def sumLen (o : List (List Nat)) : Nat := (o.map List.length).sum
theorem sumLen_snoc (o : List (List Nat)) (l : List Nat) : sumLen (o ++ [l]) = sumLen o + l.length := by simp [sumLen]
theorem sumLen_take {o : List (List Nat)} {j : Nat} (h : j < o.length) : sumLen (o.take (j + 1)) = sumLen (o.take j) + o[j].length := by
  rw [List.take_add_one, List.getElem?_eq_getElem h]
  exact sumLen_snoc _ _
theorem orbs_sum {n : Nat} {fs : List (Nat → Nat)} (hr : Rows n fs) : ∀ K, K ≤ n → sumLen (orbsTo n fs K) = (((List.range n).map (· + 1)).filter fun p => decide (labs n fs n p ≤ K)).length
  | 0, _ => by
    have : (((List.range n).map (· + 1)).filter fun p => decide (labs n fs n p ≤ 0)) = [] := by
      rw [List.filter_eq_nil_iff]
      intro p hp
      obtain ⟨i, hi, rfl⟩ := List.mem_map.1 hp
      have := List.mem_range.1 hi
      have := lab_rng hr (p := i + 1) ⟨by omega, by omega⟩
      simp
      omega
    rw [this]
    rfl
  | K + 1, hK => by
    have ih := orbs_sum hr K (by omega)
    rw [count_le, ← ih]
    by_cases h : leastIn n fs (K + 1)
    · rw [orbsTo_yes h, sumLen_snoc, ← selL_yes hr (by omega) hK h]
      rfl
    · have := selL_no hr (by omega) hK h
      unfold selL at this
      rw [orbsTo_no h, this]
      rfl
theorem orbs_all {n : Nat} {fs : List (Nat → Nat)} (hr : Rows n fs) : sumLen (orbsTo n fs n) = n := by
  rw [orbs_sum hr n (Nat.le_refl _)]
  have : (((List.range n).map (· + 1)).filter fun p => decide (labs n fs n p ≤ n)) = (List.range n).map (· + 1) := by
    rw [List.filter_eq_self]
    intro p hp
    obtain ⟨i, hi, rfl⟩ := List.mem_map.1 hp
    have := List.mem_range.1 hi
    have := lab_rng hr (p := i + 1) ⟨by omega, by omega⟩
    simp
    omega
  rw [this]
  simp
theorem orbs_mem {n : Nat} {fs : List (Nat → Nat)} : ∀ K, K ≤ n → ∀ l ∈ orbsTo n fs K, ∃ s, 1 ≤ s ∧ s ≤ n ∧ l = incL n (orbF n fs s)
  | 0, _, l, hl => by simp [orbsTo] at hl
  | K + 1, hK, l, hl => by
    by_cases h : leastIn n fs (K + 1)
    · rw [orbsTo_yes h] at hl
      rcases List.mem_append.1 hl with hl | hl
      · exact orbs_mem K (by omega) l hl
      · simp at hl
        exact ⟨K + 1, by omega, hK, hl⟩
    · rw [orbsTo_no h] at hl
      exact orbs_mem K (by omega) l hl

/-- a list told apart by numbers, as many for each -/
theorem fibers {α : Type} (f : α → Nat) (h : Nat) : ∀ (o : List Nat) (S : List α), o.Nodup → (∀ a ∈ S, f a ∈ o) → (∀ y ∈ o, (S.filter fun a => decide (f a = y)).length = h) → S.length = o.length * h
  | [], S, _, hs, _ => by
    cases S with
    | nil => simp
    | cons a t => have := hs a List.mem_cons_self; simp at this
  | y :: t, S, hn, hs, hc => by
    obtain ⟨n1, n2⟩ := List.nodup_cons.1 hn
    have hsum := List.length_eq_countP_add_countP (fun a => decide (f a = y)) (l := S)
    rw [List.countP_eq_length_filter, List.countP_eq_length_filter, hc y List.mem_cons_self] at hsum
    have ih := fibers f h t (S.filter fun a => decide ¬ (decide (f a = y)) = true) n2 (fun a ha => by
      obtain ⟨h1, h2⟩ := List.mem_filter.1 ha
      rcases List.mem_cons.1 (hs a h1) with e | e
      · simp [e] at h2
      · exact e) (fun z hz => by
      rw [← hc z (List.mem_cons_of_mem _ hz), List.filter_filter]
      refine congrArg List.length (List.filter_congr fun a _ => ?_)
      by_cases e : f a = z
      · have : f a ≠ y := fun e2 => n1 (by rw [← e2, e]; exact hz)
        simp [e, this]
        rw [← e]
        exact this
      · simp [e])
    rw [hsum, ih, List.length_cons, Nat.succ_mul]
    omega
theorem act_mul {n : Nat} (f g : Nat → Nat) {s : Nat} (h : 1 ≤ s ∧ s ≤ n) : act (mulR n f g) s = act f (act g s) := by
  unfold act
  rw [mulR_at f g (show s - 1 < n by omega), Nat.sub_sub]
theorem act_rdf {n s : Nat} (h : 1 ≤ s ∧ s ≤ n) : act (rdf n) s = s := by
  unfold act rdf
  simp [show s - 1 < n by omega]
  omega
/-- what the products of rows move a number to stays in its orbit -/
theorem gen_orb {n : Nat} {fs : List (Nat → Nat)} {s : Nat} {o : List Nat} (ho : Orb n fs s o) {a : Nat → Nat} (ha : Gen n fs a) : ∀ x ∈ o, act a x ∈ o := by
  induction ha with
  | one => intro x hx; rw [act_rdf (ho.rng x hx)]; exact hx
  | mul _ hg ih => intro x hx; rw [act_mul _ _ (ho.rng x hx)]; exact ih _ (ho.closed x hx _ hg)
open Classical in
/-- an orbit's size divides the group's -/
theorem orb_divides {n : Nat} {fs G : List (Nat → Nat)} (hr : Rows n fs) (hG : Rows n G) (hn : G.Nodup) (hgr : IsGrp n G) (hgen : ∀ x ∈ G, Gen n fs x) (hin : ∀ f ∈ fs, f ∈ G) {s : Nat} (hs : 1 ≤ s ∧ s ≤ n) :
    ∃ c, G.length = (incL n (orbF n fs s)).length * c := by
  have ho := orb_spec hr hs.1 hs.2
  have hkey : ∀ (i x : Nat), (orbF n fs s)[i]? = some x → ∃ a ∈ G, act a s = x := by
    intro i
    induction i using Nat.strongRecOn with
    | ind i ih =>
      intro x hx
      by_cases hi : i = 0
      · subst hi
        rw [ho.head] at hx
        injection hx with hx
        exact ⟨rdf n, hgr.1, by rw [act_rdf hs]; exact hx⟩
      · obtain ⟨j, y, f, hj, hy, hf, rfl⟩ := ho.chain i x (by omega) hx
        obtain ⟨a, ha, rfl⟩ := ih j hj y hy
        exact ⟨mulR n f a, hgr.2 _ (hin f hf) _ ha, act_mul f a hs⟩
  refine ⟨_, fibers (fun a => act a s) (G.filter fun a => decide (act a s = s)).length _ G ((incL_up n _).imp fun {a b} h => by omega) (fun a ha => ?_) fun y hy => ?_⟩
  · have := gen_orb ho (hgen a ha) s ho.self
    exact mem_incL.2 ⟨ho.rng _ this, this⟩
  · obtain ⟨i, hi, e⟩ := List.getElem_of_mem (mem_incL.1 hy).2
    obtain ⟨a0, ha0, e0⟩ := hkey i y (by rw [List.getElem?_eq_getElem hi, e])
    have hr0 := hG a0 ha0
    have hp := nodup_perm (map_nodup hr0 hG hn) hn (fun z hz => by
      obtain ⟨g, hg, rfl⟩ := List.mem_map.1 hz
      exact hgr.2 _ ha0 _ hg) (by simp)
    have hH : Rows n (G.filter fun a => decide (act a s = s)) := fun z hz => hG z (List.mem_filter.1 hz).1
    have hperm : (G.filter fun a => decide (act a s = y)).Perm ((G.filter fun a => decide (act a s = s)).map (mulR n a0)) := (List.perm_ext_iff_of_nodup (hn.filter _) (map_nodup hr0 hH (hn.filter _))).2 fun z => by
      rw [List.mem_filter, decide_eq_true_eq, List.mem_map]
      constructor
      · rintro ⟨h1, h2⟩
        obtain ⟨g, hg, rfl⟩ := List.mem_map.1 (hp.mem_iff.2 h1)
        refine ⟨g, List.mem_filter.2 ⟨hg, ?_⟩, rfl⟩
        rw [decide_eq_true_eq]
        rw [act_mul _ _ hs, ← e0] at h2
        exact act_inj hr0 (act_rng (hG g hg) hs.1 hs.2) hs h2
      · rintro ⟨g, hg, rfl⟩
        obtain ⟨h1, h2⟩ := List.mem_filter.1 hg
        rw [decide_eq_true_eq] at h2
        exact ⟨hgr.2 _ ha0 _ h1, by rw [act_mul _ _ hs, h2, e0]⟩
    rw [hperm.length_eq, List.length_map]
/-- what is so of orbits -/
structure OrbitF (L : List (List Nat)) (n : Nat) (fs : List (Nat → Nat)) (o : List (List Nat)) : Prop where
  three : 3 ≤ n
  eight : n ≤ 8
  rows : Rows n fs
  txts : ∀ W v, Txts W v L → Txts W v (rowsL n fs)
  len : fs.length = L.length
  olen : o.length ≤ n
  sum : sumLen o = n
  rng : ∀ j (h : j < o.length) x, x ∈ o[j] → 1 ≤ x ∧ x ≤ n
  pos : ∀ j (h : j < o.length), 0 < o[j].length ∧ o[j].length ≤ n
  closed : ∀ j (h : j < o.length) x, x ∈ o[j] → ∀ f ∈ fs, act f x ∈ o[j]
  div : clB L = true → ∀ j (h : j < o.length), ∃ c, (clL L).length = o[j].length * c
theorem orbitF {L : List (List Nat)} {N : Int} (h : orB N L = true) : ∃ n fs o, OrbitF L n fs o ∧ orL N L = o ∧ N = (n : Int) := by
  have hL := orL_yes h
  unfold orB at h
  simp only [Bool.and_eq_true, decide_eq_true_eq] at h
  obtain ⟨hb, h3, h8⟩ := h
  obtain ⟨n, rfl⟩ : ∃ n : Nat, N = (n : Int) := ⟨N.toNat, by omega⟩
  rw [Int.toNat_natCast] at hL
  have hr := rowsB_rows hb
  have hm : ∀ j (h : j < (orbsTo n (rF L) n).length), ∃ s, 1 ≤ s ∧ s ≤ n ∧ (orbsTo n (rF L) n)[j] = incL n (orbF n (rF L) s) := fun j h => orbs_mem n (Nat.le_refl _) _ (List.getElem_mem h)
  refine ⟨n, rF L, _, ⟨by omega, by omega, hr, fun W v h => Txts.rows h hb, rF_len L, orbsTo_len n _ n, orbs_all hr, fun j hj x hx => ?_, fun j hj => ?_, fun j hj x hx f hf => ?_, fun hc j hj => ?_⟩, hL, rfl⟩
  · obtain ⟨s, s1, s2, e⟩ := hm j hj
    rw [e] at hx
    exact (mem_incL.1 hx).1
  · obtain ⟨s, s1, s2, e⟩ := hm j hj
    rw [e]
    have ho := orb_spec hr s1 s2
    refine ⟨List.length_pos_of_mem (mem_incL.2 ⟨⟨s1, s2⟩, ho.self⟩), inN_len ((incL_up n _).imp fun {a b} h => by omega) fun x hx => (mem_incL.1 hx).1⟩
  · obtain ⟨s, s1, s2, e⟩ := hm j hj
    rw [e] at hx ⊢
    have ho := orb_spec hr s1 s2
    have hx2 := (mem_incL.1 hx).2
    have := ho.closed x hx2 f hf
    exact mem_incL.2 ⟨ho.rng _ this, this⟩
  · obtain ⟨s, s1, s2, e⟩ := hm j hj
    obtain ⟨m, fs, S, hS, e2⟩ := closedF hc
    have h0 : 0 < L.length := by rw [← hS.len]; exact hS.pos
    have hmn : m = n := by
      rw [hS.nE]
      unfold firstN
      rw [List.getD_eq_getElem?_getD, List.getElem?_eq_getElem h0, Option.getD_some]
      have := (rowsB_mem hb (List.getElem_mem h0)).2
      omega
    subst hmn
    have hfs := hS.fsE
    subst hfs
    rw [e2, rowsL_len, e]
    exact orb_divides hr hS.srows hS.nodup hS.grp hS.gen (fun f hf => by
      obtain ⟨k, hk, e3⟩ := List.getElem_of_mem hf
      obtain ⟨i, hi, e4⟩ := hS.has k hk
      rw [← e3, ← e4]
      exact List.getElem_mem hi) ⟨s1, s2⟩
end Go.Proofs.YtapcfojnljnoaaaGreat
