/- Products of rows: the group that rows generate, as it is found row by row; what makes a list of rows a group. -/
import Derived.Test.YtnoepobbecobbaaSJ
namespace Go.Proofs.Ytnoepobbecobbaa
open Go.RowKit

/-- x is a product of gens -/
inductive Gen (n : Nat) (gens : List (Nat → Nat)) : (Nat → Nat) → Prop where
  | one : Gen n gens (rdf n)
  | mul {a g : Nat → Nat} : Gen n gens a → g ∈ gens → Gen n gens (mulR n a g)
theorem Gen.row {n : Nat} {gens : List (Nat → Nat)} (h3 : 3 ≤ n) (h8 : n ≤ 8) (hg : Rows n gens) {x : Nat → Nat} (h : Gen n gens x) : IsRow n x := by
  induction h with
  | one => exact isRow_rdf h3 h8
  | mul _ hm ih => exact isRow_mul ih (hg _ hm)
theorem Gen.gen {n : Nat} {gens : List (Nat → Nat)} (hg : Rows n gens) {g : Nat → Nat} (hm : g ∈ gens) : Gen n gens g := by
  have := Gen.mul (n := n) Gen.one hm
  rwa [rounds_mul (hg g hm)] at this
theorem Gen.mono {n : Nat} {gens hens : List (Nat → Nat)} (hs : ∀ g ∈ gens, g ∈ hens) {x : Nat → Nat} (h : Gen n gens x) : Gen n hens x := by
  induction h with
  | one => exact .one
  | mul _ hm ih => exact .mul ih (hs _ hm)
theorem Gen.times {n : Nat} {gens : List (Nat → Nat)} (h3 : 3 ≤ n) (h8 : n ≤ 8) (hg : Rows n gens) {x y : Nat → Nat} (hx : Gen n gens x) (hy : Gen n gens y) : Gen n gens (mulR n x y) := by
  induction hy with
  | one => rwa [mul_rounds (hx.row h3 h8 hg)]
  | mul ha hm ih =>
    rw [← mulR_assoc (hx.row h3 h8 hg) (ha.row h3 h8 hg) (hg _ hm)]
    exact .mul ih hm
/-- what products of products generate -/
theorem Gen.sub {n : Nat} {gens hens : List (Nat → Nat)} (h3 : 3 ≤ n) (h8 : n ≤ 8) (hh : Rows n hens) (hs : ∀ g ∈ gens, Gen n hens g) {x : Nat → Nat} (h : Gen n gens x) : Gen n hens x := by
  induction h with
  | one => exact .one
  | mul _ hm ih => exact ih.times h3 h8 hh (hs _ hm)

/-- the products of one row that are new -/
noncomputable def stepF (n : Nat) (a : Nat → Nat) (gens out : List (Nat → Nat)) : List (Nat → Nat) := gens.foldl (fun o g => withF o (mulR n a g)) out
theorem stepF_cons (n : Nat) (a g : Nat → Nat) (gens out : List (Nat → Nat)) : stepF n a (g :: gens) out = stepF n a gens (withF out (mulR n a g)) := rfl
theorem with_prefix (S : List (Nat → Nat)) (f : Nat → Nat) : ∃ t, withF S f = S ++ t := by
  unfold withF
  split
  · exact ⟨[], by simp⟩
  · exact ⟨_, rfl⟩
theorem step_prefix (n : Nat) (a : Nat → Nat) : ∀ (gens out : List (Nat → Nat)), ∃ t, stepF n a gens out = out ++ t
  | [], out => ⟨[], by simp [stepF]⟩
  | g :: gens, out => by
    rw [stepF_cons]
    obtain ⟨t, ht⟩ := with_prefix out (mulR n a g)
    obtain ⟨u, hu⟩ := step_prefix n a gens (withF out (mulR n a g))
    exact ⟨t ++ u, by rw [hu, ht, List.append_assoc]⟩
theorem mem_step (n : Nat) (a : Nat → Nat) : ∀ (gens out : List (Nat → Nat)) (x : Nat → Nat), x ∈ stepF n a gens out ↔ x ∈ out ∨ ∃ g ∈ gens, x = mulR n a g
  | [], out, x => by simp [stepF]
  | g :: gens, out, x => by
    rw [stepF_cons, mem_step n a gens, mem_with]
    simp only [List.mem_cons, exists_eq_or_imp]
    exact or_assoc
theorem nodup_step (n : Nat) (a : Nat → Nat) : ∀ (gens out : List (Nat → Nat)), out.Nodup → (stepF n a gens out).Nodup
  | [], _, h => h
  | g :: gens, out, h => by rw [stepF_cons]; exact nodup_step n a gens _ (nodup_with h)
theorem rows_step {n : Nat} {a : Nat → Nat} (ha : IsRow n a) : ∀ {gens out : List (Nat → Nat)}, Rows n gens → Rows n out → Rows n (stepF n a gens out)
  | [], _, _, h => h
  | g :: gens, out, hg, h => by rw [stepF_cons]; exact rows_step ha hg.tail (rows_with h (isRow_mul ha hg.head))
theorem step_len (n : Nat) (a : Nat → Nat) : ∀ (gens out : List (Nat → Nat)), (stepF n a gens out).length ≤ out.length + gens.length
  | [], out => by simp [stepF]
  | g :: gens, out => by
    rw [stepF_cons]
    have h1 := step_len n a gens (withF out (mulR n a g))
    have h2 : (withF out (mulR n a g)).length ≤ out.length + 1 := by
      unfold withF
      split <;> simp
    rw [List.length_cons]
    omega

/-- all products, found row by row; none if they are more than 800 -/
noncomputable def bfs (n : Nat) (gens : List (Nat → Nat)) : Nat → Nat → List (Nat → Nat) → Option (List (Nat → Nat))
  | 0, _, _ => none
  | q + 1, k, out =>
    if h : k < out.length then
      if 800 < (stepF n out[k] gens out).length then none else bfs n gens q (k + 1) (stepF n out[k] gens out)
    else some out
noncomputable def bfsR (n : Nat) (gens : List (Nat → Nat)) : Option (List (Nat → Nat)) := bfs n gens 802 0 [rdf n]

/-- what is found: each product once -/
structure IsGen (n : Nat) (gens out : List (Nat → Nat)) : Prop where
  nodup : out.Nodup
  mem : ∀ x, x ∈ out ↔ Gen n gens x
  len : out.length ≤ 800
/-- more than 800 products -/
def Many (n : Nat) (gens : List (Nat → Nat)) : Prop := ∃ L : List (Nat → Nat), L.Nodup ∧ 800 < L.length ∧ ∀ x ∈ L, Gen n gens x
theorem bfs_spec {n : Nat} {gens : List (Nat → Nat)} (hg : Rows n gens) : ∀ (q k : Nat) (out : List (Nat → Nat)), k + q = 802 → k ≤ out.length → out.length ≤ 800 → out.Nodup → (∀ x ∈ out, Gen n gens x) → rdf n ∈ out → (∀ i, i < k → ∀ h : i < out.length, ∀ g ∈ gens, mulR n out[i] g ∈ out) →
    match bfs n gens q k out with | some G => IsGen n gens G | none => Many n gens
  | 0, k, out, hq, hk, h8, _, _, _, _ => by omega
  | q + 1, k, out, hq, hk, h8, hn, hm, h1, hc => by
    unfold bfs
    by_cases h : k < out.length
    · rw [dif_pos h]
      have hm2 : ∀ x ∈ stepF n out[k] gens out, Gen n gens x := fun x hx => by
        rcases (mem_step n _ gens out x).1 hx with hx | ⟨g, hgm, rfl⟩
        · exact hm x hx
        · exact .mul (hm _ (List.getElem_mem h)) hgm
      by_cases hb : 800 < (stepF n out[k] gens out).length
      · rw [if_pos hb]
        exact ⟨_, nodup_step n _ gens out hn, hb, hm2⟩
      · rw [if_neg hb]
        obtain ⟨t, ht⟩ := step_prefix n out[k] gens out
        refine bfs_spec hg q (k + 1) _ (by omega) (by rw [ht]; simp; omega) (by omega) (nodup_step n _ gens out hn) hm2 ((mem_step n _ gens out _).2 (.inl h1)) fun i hi hl g hgm => ?_
        have hio : i < out.length := by omega
        have e : (stepF n out[k] gens out)[i] = out[i] := by
          simp only [ht]
          exact List.getElem_append_left hio
        rw [e]
        refine (mem_step n _ gens out _).2 ?_
        rcases Nat.lt_or_ge i k with h2 | h2
        · exact .inl (hc i h2 hio g hgm)
        · obtain rfl : i = k := by omega
          exact .inr ⟨g, hgm, rfl⟩
    · rw [dif_neg h]
      have hkl : k = out.length := by omega
      refine ⟨hn, fun x => ⟨hm x, fun hx => ?_⟩, h8⟩
      induction hx with
      | one => exact h1
      | mul ha hgm ih =>
        obtain ⟨i, hi, e⟩ := List.getElem_of_mem ih
        rw [← e]
        exact hc i (by omega) hi _ hgm
theorem bfsR_spec {n : Nat} {gens : List (Nat → Nat)} (hg : Rows n gens) : match bfsR n gens with | some G => IsGen n gens G | none => Many n gens :=
  bfs_spec hg 802 0 [rdf n] rfl (by simp) (by simp) (by simp) (fun x hx => by simp at hx; rw [hx]; exact .one) (by simp) (fun i hi => by omega)
theorem Many.not {n : Nat} {gens G : List (Nat → Nat)} (h : Many n gens) (hG : IsGen n gens G) : False := by
  obtain ⟨L, h1, h2, h3⟩ := h
  have := h1.length_le_of_subset (l₂ := G) fun x hx => (hG.mem x).2 (h3 x hx)
  have := hG.len
  omega
theorem IsGen.perm {n : Nat} {gens G H : List (Nat → Nat)} (hG : IsGen n gens G) (hH : IsGen n gens H) : G.Perm H :=
  (List.perm_ext_iff_of_nodup hG.nodup hH.nodup).2 fun x => (hG.mem x).trans (hH.mem x).symm
theorem IsGen.rows {n : Nat} {gens G : List (Nat → Nat)} (h3 : 3 ≤ n) (h8 : n ≤ 8) (hg : Rows n gens) (hG : IsGen n gens G) : Rows n G := fun x hx => ((hG.mem x).1 hx).row h3 h8 hg

open Classical in
/-- the group, gen by gen: only those that are not in it yet are needed -/
noncomputable def grpF (n : Nat) : List (Nat → Nat) → List (Nat → Nat) → List (Nat → Nat) → Option (List (Nat → Nat))
  | [], _, group => some group
  | g :: t, needed, group => if g ∈ group then grpF n t needed group else
    match bfsR n (needed ++ [g]) with
    | none => none
    | some larger => grpF n t (needed ++ [g]) larger
theorem grpF_in (n : Nat) {g : Nat → Nat} {t needed group : List (Nat → Nat)} (h : g ∈ group) : grpF n (g :: t) needed group = grpF n t needed group := by
  rw [grpF.eq_2, if_pos h]
theorem grpF_out (n : Nat) {g : Nat → Nat} {t needed group : List (Nat → Nat)} (h : g ∉ group) : grpF n (g :: t) needed group = match bfsR n (needed ++ [g]) with | none => none | some larger => grpF n t (needed ++ [g]) larger := by
  rw [grpF.eq_2, if_neg h]
theorem grpF_spec {n : Nat} (h3 : 3 ≤ n) (h8 : n ≤ 8) {gens : List (Nat → Nat)} (hg : Rows n gens) : ∀ (rest done needed group : List (Nat → Nat)), gens = done ++ rest → (∀ x ∈ needed, x ∈ done) → IsGen n needed group → (∀ x ∈ done, x ∈ group) →
    match grpF n rest needed group with | some G => IsGen n gens G | none => Many n gens
  | [], done, needed, group, e, hn, hG, hd => by
    show IsGen n gens group
    rw [List.append_nil] at e
    subst e
    refine ⟨hG.nodup, fun x => (hG.mem x).trans ⟨fun h => h.mono hn, fun h => h.sub h3 h8 (fun y hy => hg y (hn y hy)) fun g hgm => (hG.mem g).1 (hd g hgm)⟩, hG.len⟩
  | g :: t, done, needed, group, e, hn, hG, hd => by
    have hgm : g ∈ gens := by rw [e]; simp
    by_cases h : g ∈ group
    · rw [grpF_in n h]
      exact grpF_spec h3 h8 hg t (done ++ [g]) needed group (by rw [e]; simp) (fun x hx => by simp [hn x hx]) hG (fun x hx => by
        rcases List.mem_append.1 hx with hx | hx
        · exact hd x hx
        · simp at hx; rw [hx]; exact h)
    · rw [grpF_out n h]
      have hdg : ∀ x ∈ done, x ∈ gens := fun x hx => by rw [e]; simp [hx]
      have hng : ∀ x ∈ needed ++ [g], x ∈ gens := fun x hx => by
        rcases List.mem_append.1 hx with hx | hx
        · exact hdg x (hn x hx)
        · simp at hx; rw [hx]; exact hgm
      have hs := bfsR_spec (n := n) (gens := needed ++ [g]) fun x hx => hg x (hng x hx)
      cases hb : bfsR n (needed ++ [g]) with
      | none =>
        rw [hb] at hs
        obtain ⟨L, h1, h2, h4⟩ := hs
        exact ⟨L, h1, h2, fun x hx => (h4 x hx).mono hng⟩
      | some larger =>
        rw [hb] at hs
        have hs : IsGen n (needed ++ [g]) larger := hs
        refine grpF_spec h3 h8 hg t (done ++ [g]) (needed ++ [g]) larger (by rw [e]; simp) (fun x hx => ?_) hs (fun x hx => ?_)
        · rcases List.mem_append.1 hx with hx | hx
          · exact List.mem_append_left _ (hn x hx)
          · exact List.mem_append_right _ hx
        · rcases List.mem_append.1 hx with hx | hx
          · exact (hs.mem x).2 (((hG.mem x).1 (hd x hx)).mono fun y hy => List.mem_append_left _ hy)
          · exact (hs.mem x).2 (Gen.gen (fun y hy => hg y (hng y hy)) (List.mem_append_right _ hx))
noncomputable def grpR (n : Nat) (gens : List (Nat → Nat)) : Option (List (Nat → Nat)) := grpF n gens [] [rdf n]
theorem isGen_none (n : Nat) : IsGen n [] [rdf n] := by
  refine ⟨by simp, fun x => ⟨fun hx => ?_, fun hx => ?_⟩, by simp⟩
  · simp at hx; rw [hx]; exact .one
  · cases hx with
    | one => simp
    | mul _ h => simp at h
theorem grpR_spec {n : Nat} (h3 : 3 ≤ n) (h8 : n ≤ 8) {gens : List (Nat → Nat)} (hg : Rows n gens) : match grpR n gens with | some G => IsGen n gens G | none => Many n gens :=
  grpF_spec h3 h8 hg gens [] [] [rdf n] rfl (by simp) (isGen_none n) (by simp)
/-- both ways find the same rows -/
theorem grp_same {n : Nat} (h3 : 3 ≤ n) (h8 : n ≤ 8) {gens : List (Nat → Nat)} (hg : Rows n gens) : (grpR n gens).map (sortF n) = (bfsR n gens).map (sortF n) := by
  have h1 := grpR_spec h3 h8 hg
  have h2 := bfsR_spec hg
  cases ha : grpR n gens with
  | none =>
    rw [ha] at h1
    have h1 : Many n gens := h1
    cases hb : bfsR n gens with
    | none => rfl
    | some H =>
      rw [hb] at h2
      exact (Many.not h1 h2).elim
  | some G =>
    rw [ha] at h1
    have h1 : IsGen n gens G := h1
    cases hb : bfsR n gens with
    | none =>
      rw [hb] at h2
      exact (Many.not h2 h1).elim
    | some H =>
      rw [hb] at h2
      have h2 : IsGen n gens H := h2
      simp only [Option.map_some]
      rw [sortF_congr (h2.rows h3 h8 hg) (h1.perm h2)]

/-- a list of rows that holds rounds and all products of two -/
def IsGrp (n : Nat) (G : List (Nat → Nat)) : Prop := rdf n ∈ G ∧ ∀ a ∈ G, ∀ b ∈ G, mulR n a b ∈ G
theorem grp_iff {n : Nat} (h3 : 3 ≤ n) (h8 : n ≤ 8) {fs : List (Nat → Nat)} (hr : Rows n fs) (hn : fs.Nodup) (hl : fs.length ≤ 800) : IsGrp n fs ↔ ∃ G, grpR n fs = some G ∧ G.length = fs.length := by
  have h1 := grpR_spec h3 h8 hr
  constructor
  · rintro ⟨hg1, hg2⟩
    have hsub : ∀ x, Gen n fs x → x ∈ fs := fun x hx => by
      induction hx with
      | one => exact hg1
      | mul _ hm ih => exact hg2 _ ih _ hm
    cases ha : grpR n fs with
    | none =>
      rw [ha] at h1
      obtain ⟨L, q1, q2, q3⟩ := h1
      have := q1.length_le_of_subset (l₂ := fs) fun x hx => hsub x (q3 x hx)
      omega
    | some G =>
      rw [ha] at h1
      have h1 : IsGen n fs G := h1
      refine ⟨G, rfl, ?_⟩
      exact ((List.perm_ext_iff_of_nodup h1.nodup hn).2 fun x => ⟨fun hx => hsub x ((h1.mem x).1 hx), fun hx => (h1.mem x).2 (Gen.gen hr hx)⟩).length_eq
  · rintro ⟨G, ha, hlen⟩
    rw [ha] at h1
    have h1 : IsGen n fs G := h1
    have hsub : ∀ x ∈ fs, x ∈ G := fun x hx => (h1.mem x).2 (Gen.gen hr hx)
    have hperm : fs.Perm G := (List.perm_ext_iff_of_nodup hn h1.nodup).2 fun x => ⟨hsub x, fun hx => by
      by_cases hxf : x ∈ fs
      · exact hxf
      · have := (List.nodup_cons.2 ⟨hxf, hn⟩).length_le_of_subset (l₂ := G) fun y hy => by
          rcases List.mem_cons.1 hy with rfl | hy
          · exact hx
          · exact hsub y hy
        rw [List.length_cons] at this
        omega⟩
    have hiff : ∀ x, x ∈ fs ↔ Gen n fs x := fun x => hperm.mem_iff.trans (h1.mem x)
    exact ⟨(hiff _).2 .one, fun a ha b hb => (hiff _).2 (((hiff a).1 ha).times h3 h8 hr ((hiff b).1 hb))⟩
end Go.Proofs.Ytnoepobbecobbaa
