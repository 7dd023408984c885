/- What the law FnPlaceBells wants: place bells form a cycle, the course path is made of their paths; dodges lie within points. -/
import Derived.Test.YtpfnamiacagocaaG11
import Derived.Test.YtpfnamiacagocaaZB
import Derived.Test.YtpfnamiacagocaaG4
import Derived.Test.YtpfnamiacagocaaDA
namespace Go.Proofs.Ytpfnamiacagocaa
open Go.RowKit
set_option linter.unusedSimpArgs false
set_option linter.unusedVariables false

theorem leadF_head (n : Nat) : ∀ (cs : List (Nat → Nat)) (f : Nat → Nat), 1 ≤ cs.length → (leadF n cs f ++ [endF n cs f]).getD 0 f = f
  | [], _, h => by simp at h
  | c :: cs, f, _ => by simp [leadF]
theorem pathF_first {n : Nat} {cs : List (Nat → Nat)} {f : Nat → Nat} {b : Nat} (hc : 1 ≤ cs.length) : (pathF n cs f b).getD 0 0 = plc n f b := by
  unfold pathF
  have h := leadF_head n cs f hc
  cases hl : leadF n cs f ++ [endF n cs f] with
  | nil => simp at hl
  | cons x t => rw [hl] at h; simp at h; simp [h]
theorem pathF_end {n : Nat} {cs : List (Nat → Nat)} {f : Nat → Nat} {b : Nat} : (pathF n cs f b).getD cs.length 0 = plc n (endF n cs f) b := by
  unfold pathF
  rw [List.map_append, List.getD_eq_getElem?_getD, List.getElem?_append_right (by simp [leadF_len])]
  simp [leadF_len]
theorem per_dvd {n : Nat} {f : Nat → Nat} (h : IsRow n f) {i m : Nat} (hi : i < n) (hp : IsPer n f i m) {o : Nat} (ho : orb n f i o = i) : o % m = 0 := by
  have hpos := hp.pos
  have hlt := Nat.mod_lt o (show m > 0 by omega)
  have he : orb n f i (o % m) = i := by
    have h1 : o = o % m + m * (o / m) := (Nat.mod_add_div o m).symm
    have h2 := orb_add h hi (o % m) (m * (o / m))
    rw [← h1, orb_times h hi hp.back, ho] at h2
    exact h2.symm
  by_cases h0 : o % m = 0
  · exact h0
  · exact absurd he (hp.least _ (by omega) hlt)
theorem ord_orb {n : Nat} {h : Nat → Nat} (hh : IsRow n h) {o : Nat} (ho : powR n h o = rdf n) {i : Nat} (hi : i < n) : orb n (invF n h) i o = i := by
  have := pow_neg hh ho o 0 ⟨1, by omega⟩
  unfold orb
  rw [this]
  simp [powR, rdf, hi]

/-- what the law looks at, where the method is good and the bell rings -/
structure Bells (s : ByteArray) (n : Int) (L : List (List Nat)) (b : Int) (o : Nat) (bs cp : List Nat) : Prop where
  le : o ≤ 840
  one : 1 ≤ bs.length
  eight : bs.length ≤ 8
  c1 : 1 ≤ L.length
  c40 : L.length ≤ 40
  first : ((bs.getD 0 0 : Nat) : Int) = b
  whole : o % bs.length = 0
  cplen : cp.length = bs.length * L.length
  ask : ∀ i, i < bs.length → askB s n L (bs.getD i 0 : Nat) = true
  plen : ∀ i, i < bs.length → (pathL s n L (bs.getD i 0 : Nat)).length = L.length + 1
  pfirst : ∀ i, i < bs.length → (pathL s n L (bs.getD i 0 : Nat)).getD 0 0 = bs.getD i 0
  plast : ∀ i, i < bs.length → (pathL s n L (bs.getD i 0 : Nat)).getD L.length 0 = bs.getD ((i + 1) % bs.length) 0
  small : ∀ i, i < bs.length → bs.getD i 0 ≤ 8

theorem bellFacts (s : ByteArray) (hs : s.size ≤ maxLen) (n : Int) (L : List (List Nat)) (hl : L.length ≤ 2000000) (b : Int) (hb : askB s n L b = true) :
    ∃ o : Nat, Bells s n L b o (bellsL s n L b) (courseL s n L b) ∧ ∀ u w, Txts w u L → Calls Try.prog 36 #[.agg #[.string s, .int .i64 n, u]] w fun e w' => e = .returned (.tuple #[.int .i64 o, .bool true]) ∧ Below w.heap.size w w' := by
  obtain ⟨hg, h1, h2⟩ := askB_yes hb
  obtain ⟨k, rfl⟩ := good_cast hg
  obtain ⟨o, ho⟩ := good_ord hg
  obtain ⟨b, rfl⟩ := Int.eq_ofNat_of_zero_le (show 0 ≤ b by omega)
  obtain ⟨h3, h8, hrows, h40, hc1⟩ := goodM_nat hg
  have hcl : (chR k L).length = L.length := chR_len _ _
  have hh := isRow_head h3 h8 hrows
  have hi := isRow_inv hh
  have hB : bellsL s k L b = bellsF k (headF k (chR k L)) b := by unfold bellsL; rw [if_pos hb]; simp
  have hC : courseL s k L b = courseP k (chR k L) b := by unfold courseL; rw [if_pos hb]; simp
  have hper := perN_spec hi (show b - 1 < k by omega)
  have hbl : (bellsF k (headF k (chR k L)) b).length = perN k (invF k (headF k (chR k L))) (b - 1) := bellsK_len _ _ _ _
  have hat : ∀ i, i < perN k (invF k (headF k (chR k L))) (b - 1) → (bellsF k (headF k (chR k L)) b).getD i 0 = orb k (invF k (headF k (chR k L))) (b - 1) i + 1 := fun i hi => by
    simp [bellsF, bellsK, List.getD_eq_getElem?_getD, hi]
  have hlt := fun i => orb_lt hi (show b - 1 < k by omega) i
  have hask : ∀ i, i < perN k (invF k (headF k (chR k L))) (b - 1) → askB s k L ((bellsF k (headF k (chR k L)) b).getD i 0 : Nat) = true := fun i hi => by
    rw [hat i hi]
    have := hlt i
    exact askB_of hg (by omega) (by omega)
  have hpath : ∀ i, i < perN k (invF k (headF k (chR k L))) (b - 1) → pathL s k L ((bellsF k (headF k (chR k L)) b).getD i 0 : Nat) = pathF k (chR k L) (rdf k) ((bellsF k (headF k (chR k L)) b).getD i 0) := fun i hi => by
    unfold pathL
    rw [if_pos (hask i hi)]
    simp
  refine ⟨o, ⟨ho.le, ?_, ?_, ?_, ?_, ?_, ?_, ?_, ?_, ?_, ?_, ?_, ?_⟩, fun u w h => iLeadsIn_yes s hs k u L w h hl hg o ho⟩
  · rw [hB, hbl]; exact hper.pos
  · rw [hB, hbl]; have := hper.le; omega
  · omega
  · omega
  · rw [hB, hat 0 (by have := hper.pos; omega), orb_zero _ (by omega)]
    omega
  · rw [hB, hbl]
    exact per_dvd hi (by omega) hper (ord_orb hh ho.back (by omega))
  · rw [hC, hB, courseP_len, hcl]
  · rw [hB, hbl]; exact hask
  · rw [hB, hbl]
    intro i hi2
    rw [hpath i hi2, pathF_len, hcl]
  · rw [hB, hbl]
    intro i hi2
    rw [hpath i hi2, pathF_first (by omega), hat i hi2]
    have := hlt i
    exact plc_rd h3 h8 (by omega) (by omega)
  · rw [hB, hbl]
    intro i hi2
    rw [hpath i hi2, ← hcl, pathF_end, hat i hi2]
    show plc k (headF k (chR k L)) _ = _
    rw [orb_plc hh (by omega) (by omega)]
    by_cases he : i + 1 < perN k (invF k (headF k (chR k L))) (b - 1)
    · rw [Nat.mod_eq_of_lt he, hat _ he]
    · have he2 : i + 1 = perN k (invF k (headF k (chR k L))) (b - 1) := by omega
      rw [he2, Nat.mod_self, hat 0 (by omega), hper.back, orb_zero _ (by omega)]
  · rw [hB, hbl]
    intro i hi2
    rw [hat i hi2]
    have := hlt i
    omega

theorem dg_pt (xs : List Int) : ∀ x ∈ (whereL isDg xs).map (fun (k : Nat) => (k : Int)), x ∈ (whereL isPt xs).map (fun (k : Nat) => (k : Int)) := by
  intro x hx
  rw [List.mem_map] at hx ⊢
  obtain ⟨k, hk, rfl⟩ := hx
  refine ⟨k, ?_, rfl⟩
  unfold whereL at hk ⊢
  by_cases h : goodX xs = true
  · rw [if_pos h] at hk ⊢
    unfold idxT at hk ⊢
    rw [List.mem_filter] at hk ⊢
    refine ⟨hk.1, ?_⟩
    have := hk.2
    unfold isDg at this
    rw [Bool.and_eq_true] at this
    exact this.1
  · rw [if_neg h] at hk
    simp at hk
theorem bothTurns (xs : List Int) (hl : xs.length ≤ 1000) :
    ∃ (P Q : List Int) (flag : Bool), P.length ≤ 1000 ∧ Q.length ≤ 1000 ∧ (∀ x ∈ P, x ∈ Q) ∧ (∀ u w, Own w 3 u (ints xs) → Calls Try.prog 38 #[u] w (IntsAny P flag w)) ∧ (∀ u w, Own w 3 u (ints xs) → Calls Try.prog 39 #[u] w (IntsAny P flag w)) ∧
      (∀ u w, Own w 3 u (ints xs) → Calls Try.prog 40 #[u] w (IntsAny Q flag w)) ∧ (∀ u w, Own w 3 u (ints xs) → Calls Try.prog 41 #[u] w (IntsAny Q flag w)) := by
  refine ⟨(whereL isDg xs).map fun (k : Nat) => (k : Int), (whereL isPt xs).map fun (k : Nat) => (k : Int), goodX xs, ?_, ?_, dg_pt xs, fun u w h => iDodgesIn_any u xs w h (by omega), fun u w h => sDodgesIn_any u xs w h (by omega), fun u w h => iPointsIn_any u xs w h (by omega), fun u w h => sPointsIn_any u xs w h (by omega)⟩
  · rw [List.length_map]
    exact whereL_len isDg xs
  · rw [List.length_map]
    exact whereL_len isPt xs
end Go.Proofs.Ytpfnamiacagocaa
