/- Touches turned and touches reversed: when they come round. The least turn of turns. Purely. -/
import Derived.Test.YtkhglknpcajmiaaXD
import Derived.Test.YtkhglknpcajmiaaH1
namespace Go.Proofs.Ytkhglknpcajmiaa
open Go.RowKit
set_option linter.unusedSimpArgs false
set_option linter.unusedVariables false

theorem cf_twiceT {n : Nat} {l : List Nat} (h : goodL n l = true) : mulR n (cf n l) (cf n l) = rdf n := by
  have h3 := goodL_three h
  have h8 := goodL_eight h
  have hk : ∀ n, n < 9 → 3 ≤ n → ∀ l ∈ chs n, ((List.range n).all fun i => decide (cf n l (cf n l i - 49) = 49 + i)) = true := by decide +kernel
  have := hk n (by omega) h3 l (mem_chs h)
  simp only [List.all_eq_true, List.mem_range, decide_eq_true_eq] at this
  refine row_ext (isRow_mul (isRow_cf h) (isRow_cf h)) (isRow_rdf h3 h8) fun i hi => ?_
  rw [mulR_at _ _ hi, this i hi]
  unfold rdf
  rw [if_pos hi]
theorem ch_twiceT {n : Nat} {L : List (List Nat)} (hg : goodAll n L = true) : ∀ c ∈ chR n L, mulR n c c = rdf n := by
  intro c hc
  obtain ⟨l, hl, rfl⟩ := List.mem_map.1 hc
  have h := goodAll_mem hg l hl
  rw [goodC_in] at h
  rw [chF_yes h]
  exact cf_twiceT h
/-- a lead and the lead backwards -/
theorem head_backT {n : Nat} (h3 : 3 ≤ n) (h8 : n ≤ 8) : ∀ {cs : List (Nat → Nat)}, Rows n cs → (∀ c ∈ cs, mulR n c c = rdf n) → mulR n (headF n cs) (headF n cs.reverse) = rdf n
  | [], _, _ => by
    show mulR n (rdf n) (rdf n) = rdf n
    exact rounds_mul (isRow_rdf h3 h8)
  | c :: t, hr, ht => by
    have hc := hr.head
    have hrt : Rows n t.reverse := fun x hx => hr.tail x (List.mem_reverse.1 hx)
    have ih := head_backT h3 h8 hr.tail fun x hx => ht x (List.mem_cons_of_mem _ hx)
    have h1 : headF n (c :: t) = mulR n c (headF n t) := by
      show endF n t (mulR n (rdf n) c) = _
      rw [rounds_mul hc, endF_head hr.tail hc]
    have h2 : headF n [c] = c := by
      show mulR n (rdf n) c = c
      exact rounds_mul hc
    have h4 := isRow_head h3 h8 hr.tail
    have h5 := isRow_head h3 h8 hrt
    rw [List.reverse_cons, headF_app h3 h8 hrt (fun x hx => by simp at hx; rw [hx]; exact hc), h1, h2, ← mulR_assoc (isRow_mul hc h4) h5 hc, mulR_assoc hc h4 h5, ih, mul_rounds hc]
    exact ht c List.mem_cons_self
theorem roundT_iff {s : ByteArray} {n : Nat} {L : List (List Nat)} {b q : ByteArray} (hg : goodK s n L b q = true) (t : ByteArray) : roundT n L b q t = true ↔ headF n (turnsT n L b q t) = rdf n := by
  have h := goodM_nat (goodK_parts hg).1
  have h1 := isRow_head h.1 h.2.1 (rows_turnsT hg t)
  unfold roundT
  rw [← strOf_rdf]
  constructor
  · intro e
    by_cases hx : headF n (turnsT n L b q t) = rdf n
    · exact hx
    · rw [str_other h1 (isRow_rdf h.1 h.2.1) hx] at e
      cases e
  · intro e
    exact str_same e
theorem one_comm {n : Nat} {g h : Nat → Nat} (hg : IsRow n g) (hh : IsRow n h) (e : mulR n g h = rdf n) : mulR n h g = rdf n := by
  have : h = invF n g := mul_cancel hg hh (isRow_inv hg) (by rw [e, mul_inv hg])
  rw [this]
  exact inv_mul hg
theorem turnsT_turn (n : Nat) (L : List (List Nat)) (b q t : ByteArray) (k : Nat) : turnsT n L b q (turnT t k) = (turnsT n L b q t).drop k ++ (turnsT n L b q t).take k := by
  unfold turnsT kindsT
  rw [lets_turn]
  simp [List.map_drop, List.map_take]
theorem roundT_turn {s : ByteArray} {n : Nat} {L : List (List Nat)} {b q : ByteArray} (hg : goodK s n L b q = true) (t : ByteArray) (k : Nat) : roundT n L b q (turnT t k) = roundT n L b q t := by
  have h := goodM_nat (goodK_parts hg).1
  have hr := rows_turnsT hg t
  have h1 : Rows n ((turnsT n L b q t).take k) := hr.take k
  have h2 : Rows n ((turnsT n L b q t).drop k) := hr.drop k
  have e1 : headF n (turnsT n L b q t) = mulR n (headF n ((turnsT n L b q t).take k)) (headF n ((turnsT n L b q t).drop k)) := by
    conv => lhs; rw [← List.take_append_drop k (turnsT n L b q t)]
    exact headF_app h.1 h.2.1 h1 h2
  have e2 : headF n (turnsT n L b q (turnT t k)) = mulR n (headF n ((turnsT n L b q t).drop k)) (headF n ((turnsT n L b q t).take k)) := by
    rw [turnsT_turn]
    exact headF_app h.1 h.2.1 h2 h1
  rw [Bool.eq_iff_iff, roundT_iff hg, roundT_iff hg, e1, e2]
  have g1 := isRow_head h.1 h.2.1 h1
  have g2 := isRow_head h.1 h.2.1 h2
  exact ⟨one_comm g2 g1, one_comm g1 g2⟩
/-- a change twice -/
theorem chF_twice {n : Nat} {s : ByteArray} (h : goodC n s = true) : mulR n (chF n s) (chF n s) = rdf n := by
  rw [goodC_in] at h
  rw [chF_yes h]
  exact cf_twiceT h
theorem sameT_txtT {x y : List Nat} (h : sameT x y = true) : txt x = txt y := by
  unfold sameT at h
  rw [beq_iff_eq, Lib.toList_data, Lib.toList_data] at h
  cases hx : txt x
  cases hy : txt y
  rw [hx, hy] at h
  simp_all
theorem pairs_rev {n : Int} {X : List (List Nat)} (h : pairsOk X = true) : (chR n X).reverse = chR n X := by
  unfold pairsOk at h
  rw [List.all_eq_true] at h
  have hl := chR_len n X
  refine List.ext_getElem (by simp) fun i h1 h2 => ?_
  rw [List.getElem_reverse]
  have hi : i < X.length := by rw [← hl]; exact h2
  have hp := h i (List.mem_range.2 hi)
  unfold pairOk at hp
  have ht := sameT_txtT hp
  have e1 : X.getD i [] = X[i] := by simp [List.getD_eq_getElem?_getD, hi]
  have hj : X.length - 1 - i < X.length := by omega
  have e2 : X.getD (X.length - 1 - i) [] = X[X.length - 1 - i] := by simp [List.getD_eq_getElem?_getD, hj]
  rw [e1, e2] at ht
  simp only [chR, List.getElem_map, List.length_map]
  rw [ht]
/-- in a lead that reads the same backwards what stands before the last change is its own inverse -/
theorem bef_twice {s : ByteArray} {n : Nat} {L : List (List Nat)} (hg : goodM s n L = true) (hp : pairsOk (L.take (L.length - 1)) = true) : mulR n (befF n L) (befF n L) = rdf n := by
  have h := goodM_nat hg
  have hr := rows_take hg (L.length - 1)
  have ht : ∀ c ∈ chR n (L.take (L.length - 1)), mulR n c c = rdf n := fun c hc => by
    refine ch_twiceT (goodM_parts hg).1 c ?_
    have e : chR n (L.take (L.length - 1)) = (chR n L).take (L.length - 1) := by simp [chR, List.map_take]
    rw [e] at hc
    exact List.mem_of_mem_take hc
  have e := head_backT h.1 h.2.1 hr ht
  rw [pairs_rev hp] at e
  exact e
/-- a row and the same with the parts behind each other -/
theorem headF_cons {n : Nat} {c : Nat → Nat} {cs : List (Nat → Nat)} (hc : IsRow n c) (hr : Rows n cs) : headF n (c :: cs) = mulR n c (headF n cs) := by
  show endF n cs (mulR n (rdf n) c) = _
  rw [rounds_mul hc, endF_head hr hc]
theorem headF_nil (n : Nat) : headF n [] = rdf n := rfl
theorem rows_mulL {n : Nat} {X : Nat → Nat} {cs : List (Nat → Nat)} (hX : IsRow n X) (hr : Rows n cs) : Rows n (cs.map (mulR n X)) := fun x hx => by
  obtain ⟨c, hc, rfl⟩ := List.mem_map.1 hx
  exact isRow_mul hX (hr c hc)
theorem rows_mulR {n : Nat} {X : Nat → Nat} {cs : List (Nat → Nat)} (hX : IsRow n X) (hr : Rows n cs) : Rows n (cs.map fun c => mulR n c X) := fun x hx => by
  obtain ⟨c, hc, rfl⟩ := List.mem_map.1 hx
  exact isRow_mul (hr c hc) hX
theorem rows_rev {n : Nat} {cs : List (Nat → Nat)} (hr : Rows n cs) : Rows n cs.reverse := fun x hx => hr x (List.mem_reverse.1 hx)
/-- X (c X) (c' X) .. is (X c) (X c') .. X -/
theorem slide {n : Nat} (h3 : 3 ≤ n) (h8 : n ≤ 8) {X : Nat → Nat} (hX : IsRow n X) : ∀ {cs : List (Nat → Nat)}, Rows n cs → mulR n X (headF n (cs.map fun c => mulR n c X)) = mulR n (headF n (cs.map (mulR n X))) X
  | [], _ => by
    show mulR n X (rdf n) = mulR n (rdf n) X
    rw [mul_rounds hX, rounds_mul hX]
  | c :: cs, hr => by
    have hc := hr.head
    have ih := slide h3 h8 hX hr.tail
    have r1 := rows_mulR hX hr.tail
    have r2 := rows_mulL hX hr.tail
    have g1 := isRow_head h3 h8 r1
    have g2 := isRow_head h3 h8 r2
    rw [List.map_cons, List.map_cons, headF_cons (isRow_mul hc hX) r1, headF_cons (isRow_mul hX hc) r2, mulR_assoc hc hX g1, ih, ← mulR_assoc hX hc (isRow_mul g2 hX), ← mulR_assoc (isRow_mul hX hc) g2 hX]
/-- forwards and then backwards is nothing -/
theorem there_back {n : Nat} (h3 : 3 ≤ n) (h8 : n ≤ 8) {X : Nat → Nat} (hX : IsRow n X) (hXX : mulR n X X = rdf n) : ∀ {cs : List (Nat → Nat)}, Rows n cs → (∀ c ∈ cs, mulR n c c = rdf n) → mulR n (headF n (cs.map (mulR n X))) (headF n (cs.reverse.map fun c => mulR n c X)) = rdf n
  | [], _, _ => by
    show mulR n (rdf n) (rdf n) = rdf n
    exact rounds_mul (isRow_rdf h3 h8)
  | c :: cs, hr, ht => by
    have hc := hr.head
    have hcc := ht c List.mem_cons_self
    have ih := there_back h3 h8 hX hXX hr.tail fun x hx => ht x (List.mem_cons_of_mem _ hx)
    have r1 := rows_mulL hX hr.tail
    have r2 := rows_mulR hX (rows_rev hr.tail)
    have g1 := isRow_head h3 h8 r1
    have g2 := isRow_head h3 h8 r2
    have hXc := isRow_mul hX hc
    have hcX := isRow_mul hc hX
    have e1 : headF n ((c :: cs).map (mulR n X)) = mulR n (mulR n X c) (headF n (cs.map (mulR n X))) := by
      rw [List.map_cons]
      exact headF_cons hXc r1
    have e2 : headF n ((c :: cs).reverse.map fun c => mulR n c X) = mulR n (headF n (cs.reverse.map fun c => mulR n c X)) (mulR n c X) := by
      rw [List.reverse_cons, List.map_append, headF_app h3 h8 r2 (fun x hx => by
        rw [List.map_cons, List.map_nil, List.mem_singleton] at hx
        rw [hx]
        exact hcX)]
      congr 1
      show mulR n (rdf n) (mulR n c X) = _
      exact rounds_mul hcX
    rw [e1, e2, mulR_assoc hXc g1 (isRow_mul g2 hcX), ← mulR_assoc g1 g2 hcX, ih, rounds_mul hcX, mulR_assoc hX hc hcX, ← mulR_assoc hc hc hX, hcc, rounds_mul hX, hXX]
/-- the same touch read backwards but for the last call -/
theorem back_round {n : Nat} (h3 : 3 ≤ n) (h8 : n ≤ 8) {X : Nat → Nat} (hX : IsRow n X) (hXX : mulR n X X = rdf n) {cs : List (Nat → Nat)} {c : Nat → Nat} (hr : Rows n cs) (hc : IsRow n c) (ht : ∀ x ∈ cs, mulR n x x = rdf n) (hcc : mulR n c c = rdf n) :
    headF n ((cs ++ [c]).map (mulR n X)) = rdf n ↔ headF n ((cs.reverse ++ [c]).map (mulR n X)) = rdf n := by
  have hrc : Rows n (cs ++ [c]) := Rows.app hr (fun x hx => by rw [List.mem_singleton.1 hx]; exact hc)
  have htc : ∀ x ∈ cs ++ [c], mulR n x x = rdf n := fun x hx => by
    rcases List.mem_append.1 hx with h | h
    · exact ht x h
    · rw [List.mem_singleton.1 h]; exact hcc
  have tb := there_back h3 h8 hX hXX hrc htc
  have rr := rows_rev hr
  have r1 := rows_mulL hX rr
  have r2 := rows_mulR hX rr
  have g1 := isRow_head h3 h8 r1
  have g2 := isRow_head h3 h8 r2
  have hW := isRow_head h3 h8 (rows_mulL hX hrc)
  have hXc := isRow_mul hX hc
  have hcX := isRow_mul hc hX
  have e1 : headF n ((cs ++ [c]).reverse.map fun c => mulR n c X) = mulR n c (mulR n (headF n (cs.reverse.map (mulR n X))) X) := by
    rw [List.reverse_append, List.reverse_singleton, List.singleton_append, List.map_cons, headF_cons hcX r2, mulR_assoc hc hX g2, slide h3 h8 hX rr]
  have e2 : headF n ((cs.reverse ++ [c]).map (mulR n X)) = mulR n (mulR n (headF n (cs.reverse.map (mulR n X))) X) c := by
    rw [List.map_append, headF_app h3 h8 r1 (fun x hx => by
      rw [List.map_cons, List.map_nil, List.mem_singleton] at hx
      rw [hx]
      exact hXc), mulR_assoc g1 hX hc]
    congr 1
    show mulR n (rdf n) (mulR n X c) = _
    exact rounds_mul hXc
  have gX := isRow_mul g1 hX
  rw [e1] at tb
  have hZ := isRow_mul hc gX
  rw [e2]
  constructor
  · intro e
    rw [e, rounds_mul hZ] at tb
    exact one_comm hc gX tb
  · intro e
    rw [one_comm gX hc e, mul_rounds hW] at tb
    exact tb
theorem lets_rev {t : ByteArray} (k : Nat) (hk : t.size = k + 1) : lets (revT t) = ((lets t).take k).reverse ++ [dg t k] := by
  refine List.ext_getElem (by rw [lets_len, revT_size]; simp [lets_len, hk]) fun i h1 h2 => ?_
  have hi : i < t.size := by rw [lets_len, revT_size] at h1; exact h1
  have e1 : (lets (revT t))[i] = dg (revT t) i := by simp [lets]
  rw [e1, dg_rev t i hi]
  unfold revF
  by_cases h : i + 1 < t.size
  · rw [if_pos h, List.getElem_append_left (by simp [lets_len]; omega), List.getElem_reverse, List.getElem_take]
    simp only [List.length_take, lets_len, lets, List.getElem_map, List.getElem_range]
    refine congrArg (dg t) ?_
    simp only [List.length_map, List.length_range]
    omega
  · rw [if_neg h, List.getElem_append_right (by simp [lets_len]; omega)]
    obtain rfl : i = k := by omega
    simp
theorem roundT_rev {s : ByteArray} {n : Nat} {L : List (List Nat)} {b q : ByteArray} (hg : goodK s n L b q = true) (hp : pairsOk (L.take (L.length - 1)) = true) (t : ByteArray) (ht : 1 ≤ t.size) : roundT n L b q (revT t) = roundT n L b q t := by
  have h := goodM_nat (goodK_parts hg).1
  have hX := isRow_bef (goodK_parts hg).1
  have hXX := bef_twice (goodK_parts hg).1 hp
  obtain ⟨k, hk⟩ : ∃ k, t.size = k + 1 := ⟨t.size - 1, by omega⟩
  have hC : ∀ x, IsRow n (chF n (endC L b q (kcN x))) := fun x => chF_row (goodK_end hg _)
  have hCC : ∀ x, mulR n (chF n (endC L b q (kcN x))) (chF n (endC L b q (kcN x))) = rdf n := fun x => chF_twice (goodK_end hg _)
  have e0 : ∀ u : ByteArray, turnsT n L b q u = ((lets u).map fun x => chF n (endC L b q (kcN x))).map (mulR n (befF n L)) := fun u => by
    unfold turnsT kindsT
    rw [List.map_map, List.map_map]
    rfl
  have hsp : lets t = (lets t).take k ++ [dg t k] := by
    have := List.take_append_drop k (lets t)
    rw [lets_drop t k (by omega), List.drop_eq_nil_of_le (by rw [lets_len, hk]; exact Nat.le_refl _)] at this
    exact this.symm
  have br := back_round (n := n) h.1 h.2.1 hX hXX (cs := ((lets t).take k).map fun x => chF n (endC L b q (kcN x))) (c := chF n (endC L b q (kcN (dg t k)))) (fun x hx => by
    obtain ⟨y, -, rfl⟩ := List.mem_map.1 hx
    exact hC y) (hC _) (fun x hx => by
    obtain ⟨y, -, rfl⟩ := List.mem_map.1 hx
    exact hCC y) (hCC _)
  rw [Bool.eq_iff_iff, roundT_iff hg, roundT_iff hg, e0, e0, lets_rev k hk]
  conv => rhs; rw [hsp]
  simp only [List.map_append, List.map_reverse, List.map_cons, List.map_nil] at br ⊢
  exact br.symm
end Go.Proofs.Ytkhglknpcajmiaa
