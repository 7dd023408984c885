/- What the law FnPaths wants: the paths of all bells make the rows anew; signs and steps. -/
import Derived.Test.YtpfnamiacagocaaG14
import Derived.Test.YtpfnamiacagocaaZ6
import Derived.Test.YtpfnamiacagocaaW4
namespace Go.Proofs.Ytpfnamiacagocaa
open Go.RowKit
set_option linter.unusedSimpArgs false
set_option linter.unusedVariables false

theorem inv_twice {n : Nat} {f : Nat → Nat} (h : IsRow n f) : invF n (invF n f) = f := by
  refine row_ext (isRow_inv (isRow_inv h)) h (fun j hj => ?_)
  obtain ⟨i, hi, e1, e2⟩ := inv_spec (isRow_inv h) j hj
  obtain ⟨m, hm, e3, e4⟩ := inv_spec h i hi
  have : m = j := by omega
  subst this
  omega
/-- the rows of a lead, the head behind them -/
def rowsF (n : Nat) (cs : List (Nat → Nat)) (f : Nat → Nat) : List (Nat → Nat) := leadF n cs f ++ [endF n cs f]
theorem rowsF_len (n : Nat) (cs : List (Nat → Nat)) (f : Nat → Nat) : (rowsF n cs f).length = cs.length + 1 := by simp [rowsF, leadF_len]
theorem rowsF_row {n : Nat} {cs : List (Nat → Nat)} {f : Nat → Nat} (hc : Rows n cs) (hf : IsRow n f) : ∀ g ∈ rowsF n cs f, IsRow n g := by
  intro g hg
  unfold rowsF at hg
  rw [List.mem_append, List.mem_singleton] at hg
  rcases hg with h | h
  · exact rows_lead hc hf g h
  · rw [h]; exact isRow_end hc hf

theorem path_col {n : Nat} {cs : List (Nat → Nat)} {f : Nat → Nat} (hc : Rows n cs) (hf : IsRow n f) {F : List (List Int)} (hF : ∀ k, k < n → lk F k = (pathF n cs f (k + 1)).map fun (x : Nat) => (x : Int)) {i : Nat} (hi : i < cs.length + 1) :
    cF F n i = invF n ((rowsF n cs f)[i]'(by rw [rowsF_len]; exact hi)) := by
  have hr := rowsF_row hc hf _ (List.getElem_mem (by rw [rowsF_len]; exact hi))
  funext j
  unfold cF
  by_cases hj : j < n
  · rw [if_pos hj, inv_plc hr hj]
    have : pl F j i = (plc n ((rowsF n cs f)[i]'(by rw [rowsF_len]; exact hi)) (j + 1) : Nat) := by
      unfold pl gx
      rw [hF j hj]
      have h9 : i < (leadF n cs f ++ [endF n cs f]).length := by have := rowsF_len n cs f; unfold rowsF at this; omega
      simp only [pathF, List.map_map, List.getD_eq_getElem?_getD, List.getElem?_map, List.getElem?_eq_getElem h9]
      rfl
    rw [this]
    simp
  · rw [if_neg hj]
    exact ((isRow_inv hr).zero j (by omega)).symm

theorem dg_rnds {n : Nat} (h3 : 3 ≤ n) (h8 : n ≤ 8) : dg (rnds n) = rdf n := by
  rw [← strOf_rdf]
  exact dg_strOf (isRow_rdf h3 h8)

/-- what the law looks at, where the method is good -/
structure PathsOk (s : ByteArray) (k : Nat) (L : List (List Nat)) (hd : List Nat) : Prop where
  three : 3 ≤ k
  eight : k ≤ 8
  c1 : 1 ≤ L.length
  c40 : L.length ≤ 40
  rowsOk : rowsB ((List.range k).map (pathsF s k L)) = true
  rows : rowsT ((List.range k).map (pathsF s k L)) = leadL s k L (rnds k) ++ [hd]
  lead : leadB s k L (rnds k) = true
  leadLen : (leadL s k L (rnds k)).length = L.length
  ask : ∀ b : Nat, b < k → askB s k L ((b : Int) + 1) = true
  path : ∀ b : Nat, b < k → pathsF s k L b = (pathL s k L ((b : Int) + 1)).map fun (x : Nat) => (x : Int)
  plen : ∀ b : Nat, b < k → (pathL s k L ((b : Int) + 1)).length = L.length + 1
  work : ∀ b : Nat, b < k → (workS s k L ((b : Int) + 1)).size = L.length
  steps : ∀ b : Nat, b < k → Steps (pathL s k L ((b : Int) + 1))
  small : ∀ b : Nat, b < k → ∀ x ∈ pathL s k L ((b : Int) + 1), x ≤ 8

theorem pathFacts (s : ByteArray) (hs : s.size ≤ maxLen) (n : Int) (L : List (List Nat)) (hl : L.length ≤ 2000000) (hg : goodM s n L = true) :
    ∃ (k : Nat) (hd : List Nat), n = k ∧ PathsOk s k L hd ∧ ∀ u w, Txts w u L → Calls Try.prog 21 #[.agg #[.string s, .int .i64 n, u]] w fun e w' => e = .returned (.tuple #[.string (txt hd), .bool true]) ∧ Below w.heap.size w w' := by
  obtain ⟨k, rfl⟩ := good_cast hg
  obtain ⟨h3, h8, hrows, h40, hc1⟩ := goodM_nat hg
  have hcl : (chR k L).length = L.length := chR_len _ _
  have hrd := isRow_rdf h3 h8
  have hall := (goodM_parts hg).1
  have hask : ∀ b : Nat, b < k → askB s k L ((b : Int) + 1) = true := fun b hb => askB_of hg (by omega) (by omega)
  have hpath : ∀ b : Nat, b < k → pathL s k L ((b : Int) + 1) = pathF k (chR k L) (rdf k) (b + 1) := fun b hb => by
    unfold pathL
    rw [if_pos (hask b hb), Int.toNat_natCast]
    rfl
  have hpf : ∀ b, pathsF s k L b = (pathF k (chR k L) (rdf k) (b + 1)).map fun (x : Nat) => (x : Int) := fun b => by unfold pathsF; rw [Int.toNat_natCast]
  have hlb : leadB s k L (rnds k) = true := by
    unfold leadB
    rw [hg, ← strOf_rdf, goodB_strOf hrd, strOf_size]
    simp
  have hF : ∀ b, b < k → lk ((List.range k).map (pathsF s k L)) b = (pathF k (chR k L) (rdf k) (b + 1)).map fun (x : Nat) => (x : Int) := fun b hb => by rw [lk_range, if_pos hb]; exact hpf b
  have hlen : ∀ b, b < k → (lk ((List.range k).map (pathsF s k L)) b).length = L.length + 1 := fun b hb => by rw [hF b hb, List.length_map, pathF_len, hcl]
  have hFl : ((List.range k).map (pathsF s k L)).length = k := by simp
  have hcol : ∀ i (hi : i < L.length + 1), cF ((List.range k).map (pathsF s k L)) k i = invF k ((rowsF k (chR k L) (rdf k))[i]'(by rw [rowsF_len, hcl]; exact hi)) := fun i hi => path_col hrows hrd hF (by omega)
  have hrowB : rowsB ((List.range k).map (pathsF s k L)) = true := by
    unfold rowsB
    rw [hFl, decide_eq_true h3, decide_eq_true h8, eqB_yes (fun b hb => by rw [hFl] at hb; rw [hlen b hb, hlen 0 (by omega)]; omega), colsB_yes (fun i hi => by
      rw [hlen 0 (by omega)] at hi
      refine colB_yes ?_
      rw [hFl, hcol i hi]
      exact isRow_inv (rowsF_row hrows hrd _ (List.getElem_mem _)))]
    rfl
  refine ⟨k, rowL k (headF k (chR k L)), rfl, ⟨h3, h8, by omega, by omega, hrowB, ?_, hlb, ?_, hask, fun b hb => by rw [hpath b hb]; exact hpf b, fun b hb => by rw [hpath b hb, pathF_len, hcl], fun b hb => ?_, fun b hb => ?_, fun b hb x hx => ?_⟩, fun u w h => ?_⟩
  · unfold rowsT
    rw [if_pos hrowB, hlen 0 (by omega)]
    unfold leadL
    rw [if_pos hlb, Int.toNat_natCast, dg_rnds h3 h8]
    have he : rowsL k (leadF k (chR k L) (rdf k)) ++ [rowL k (headF k (chR k L))] = (rowsF k (chR k L) (rdf k)).map (rowL k) := by
      unfold rowsF rowsL headF
      rw [List.map_append]
      rfl
    rw [he]
    apply List.ext_getElem
    · simp [rowsF_len, hcl]
    · intro i h1 h2
      simp only [List.getElem_map, List.getElem_range]
      have hi : i < L.length + 1 := by simpa using h1
      unfold rowI
      rw [hFl, hcol i hi, inv_twice (rowsF_row hrows hrd _ (List.getElem_mem _))]
  · unfold leadL
    rw [if_pos hlb, rowsL_len, leadF_len, hcl]
  · unfold workS
    rw [if_pos (hask b hb), strOf_size, hcl]
  · rw [hpath b hb]
    exact path_steps (by omega) (by omega) _ _ hrd hrows (chR_near hall)
  · rw [hpath b hb] at hx
    have := pathF_mem hrows hrd (by omega) (by omega) x hx
    omega
  · rw [txt_rowL]
    exact iLeadHead_yes s hs k u L w h hl hg
end Go.Proofs.Ytpfnamiacagocaa
