/- What FnTouch asks of a touch. -/
import Derived.Test.YtkhglknpcajmiaaXT
import Derived.Test.YtkhglknpcajmiaaQF
namespace Go.Proofs.Ytkhglknpcajmiaa
open Go.RowKit
set_option linter.unusedSimpArgs false
set_option linter.unusedVariables false

theorem twoB_twoT {n : Nat} {f g : Nat → Nat} (hf : IsRow n f) (hg : IsRow n g) : twoB (strOf n f) (strOf n g) = true := by
  have h1 := goodB_strOf hf
  have h2 := goodB_strOf hg
  unfold twoB
  simp [h1, h2, strOf_size]
theorem times_twoT {n : Nat} {f g : Nat → Nat} (hf : IsRow n f) (hg : IsRow n g) (w : World) :
    Calls Try.prog 32 #[.string (strOf n f), .string (strOf n g)] w fun e w' => e = .returned (.tuple #[.string (strOf n (mulR n f g)), .bool true]) ∧ Below w.heap.size w w' := by
  have h8 := hf.eight
  refine (sTimes_yes (strOf n f) (strOf n g) (by rw [strOf_size]; unfold maxLen; omega) (by rw [strOf_size]; unfold maxLen; omega) (twoB_twoT hf hg) w).mono ?_
  rintro e w' ⟨rfl, hb⟩
  rw [strOf_size, dg_strOf hf, dg_strOf hg, strOf_mul]
  exact ⟨rfl, hb⟩
theorem row_txt {n : Nat} {fs : List (Nat → Nat)} {i : Nat} {f : Nat → Nat} (h : fs[i]? = some f) : txt ((rowsL n fs).getD i []) = strOf n f := by
  unfold rowsL
  rw [List.getD_eq_getElem?_getD, List.getElem?_map, h]
  exact txt_rowL n f
theorem endF_take {n : Nat} {cs : List (Nat → Nat)} {i : Nat} (h : i < cs.length) (f : Nat → Nat) : endF n (cs.take (i + 1)) f = mulR n (endF n (cs.take i) f) cs[i] := by
  rw [List.take_add_one, List.getElem?_eq_getElem h, endF_app]
  rfl
theorem rowsT_at {n : Nat} {cs : List (Nat → Nat)} (hc : 1 ≤ cs.length) : ∀ (hs : List (Nat → Nat)) (j : Nat), j < hs.length * cs.length → (rowsT n cs hs)[j]? = (hs[j / cs.length]?).map fun f => endF n (cs.take (j % cs.length)) f
  | [], j, h => by simp at h
  | f :: hs, j, h => by
    unfold rowsT
    rw [List.flatMap_cons]
    by_cases hj : j < cs.length
    · rw [List.getElem?_append_left (by rw [leadF_len]; exact hj), leadF_at _ _ _ hj, Nat.div_eq_of_lt hj, Nat.mod_eq_of_lt hj]
      rfl
    · have e1 : j / cs.length = (j - cs.length) / cs.length + 1 := by
        rw [Nat.div_eq_sub_div (by omega) (by omega)]
      have e2 : j % cs.length = (j - cs.length) % cs.length := Nat.mod_eq_sub_mod (by omega)
      rw [List.getElem?_append_right (by rw [leadF_len]; omega), leadF_len, e1, e2]
      refine rowsT_at hc hs (j - cs.length) ?_
      rw [List.length_cons, Nat.add_mul, Nat.one_mul] at h
      omega
theorem apply_row {n : Nat} {f : Nat → Nat} (hf : IsRow n f) {l : ByteArray} (hs : l.size ≤ maxLen) (hl : goodC n l = true) (w : World) :
    Calls Try.prog 52 #[.string (strOf n f), .string l] w fun e w' => e = .returned (.tuple #[.string (strOf n (mulR n f (chF n l))), .bool true]) ∧ Below w.heap.size w w' := by
  have h8 := hf.eight
  rw [goodC_in] at hl
  refine (sApply_yes (strOf n f) l (by rw [strOf_size]; unfold maxLen; omega) hs (goodB_strOf hf) (by rw [strOf_size]; exact hl) w).mono ?_
  rintro e w' ⟨rfl, hb⟩
  have e : appF (strOf n f) l = strOf n (mulR n f (chF n l)) := by
    unfold appF
    rw [strOf_size, dg_strOf hf, strOf_mul, chF_yes hl]
  rw [e]
  exact ⟨rfl, hb⟩
/-- the facts on a touch that is rung -/
def HeadsOk (s : ByteArray) (n : Int) (L P : List (List Nat)) (x y t en : ByteArray) (rd : Bool) : Prop :=
  ∃ k : Nat, n = k ∧ 3 ≤ k ∧ k ≤ 8 ∧ 1 ≤ t.size ∧ t.size ≤ 60 ∧ (∀ i, i < t.size → kcB (dg t i) = true) ∧ P.length = t.size + 1 ∧ txt (P.getD 0 []) = rnds k ∧ txt (P.getD t.size []) = en ∧ rd = (en.toList == (rnds k).toList) ∧
    (∀ i, i < t.size → ∃ c : ByteArray, (∀ u w, Txts w u L → Calls Try.prog 20 #[.agg #[.string s, .int .i64 n, u], .agg #[.string x, .string y], .string (t.extract i (i + 1))] w fun e w' => e = .returned (.tuple #[.string c, .bool true]) ∧ Below w.heap.size w w') ∧
      (∀ w, Calls Try.prog 32 #[.string (txt (P.getD i [])), .string c] w fun e w' => e = .returned (.tuple #[.string (txt (P.getD (i + 1) [])), .bool true]) ∧ Below w.heap.size w w'))
def RowsOk (L P Q : List (List Nat)) (t : ByteArray) : Prop :=
  Q.length = t.size * L.length ∧ ∀ j, j < Q.length → (j % L.length = 0 → txt (Q.getD j []) = txt (P.getD (j / L.length) [])) ∧
    ∀ i, j % L.length = i + 1 → ∀ w, Calls Try.prog 52 #[.string (txt (Q.getD (j - 1) [])), .string (txt (L.getD i []))] w fun e w' => e = .returned (.tuple #[.string (txt (Q.getD j [])), .bool true]) ∧ Below w.heap.size w w'
theorem heads_ok {s : ByteArray} (hs : s.size ≤ maxLen) {n : Nat} {L : List (List Nat)} (hl : L.length ≤ 2000000) (hsm : Small L) {x y t : ByteArray} (hx : x.size ≤ maxLen) (hy : y.size ≤ maxLen) (hg : goodK s n L x y = true) (hgt : goodT t = true) :
    HeadsOk s n L (rowsL n (headsT n L x y t)) x y t (strOf n (headF n (turnsT n L x y t))) (roundT n L x y t) := by
  obtain ⟨h3, h8, hrows, h40, h1⟩ := goodM_nat (goodK_parts hg).1
  obtain ⟨t1, t60, hall⟩ := goodT_parts hgt
  have hr := rows_turnsT hg t
  have hlen := turnsT_len n L x y t
  refine ⟨n, rfl, h3, h8, t1, t60, hall, by rw [rowsL_len, headsT_len], ?_, ?_, rfl, fun i hi => ?_⟩
  · rw [row_txt (headsT_at n L x y t 0 (by omega)), List.take_zero, ← strOf_rdf]
    rfl
  · rw [row_txt (headsT_at n L x y t t.size (Nat.le_refl _)), List.take_of_length_le (by rw [hlen]; exact Nat.le_refl _)]
    rfl
  · have hi2 : i < (turnsT n L x y t).length := by rw [hlen]; exact hi
    have hgr := isRow_end (hr.take i) (isRow_rdf h3 h8)
    refine ⟨strOf n (turnsT n L x y t)[i], fun u w h => ?_, fun w => ?_⟩
    · rw [turnsT_at]
      have := sCallHead_yes s hs n u L x y (t.extract i (i + 1)) hx hy w h hl hsm hg (by rw [sub_one t i hi, kB_one _ (dg_lt t i)]; exact hall i hi)
      rwa [sub_one t i hi, kN_one _ (dg_lt t i), ← sub_one t i hi] at this
    · rw [row_txt (headsT_at n L x y t i (by omega)), row_txt (headsT_at n L x y t (i + 1) (by omega)), endF_take hi2]
      exact times_twoT hgr (hr _ (List.getElem_mem hi2)) w
theorem rows_ok {s : ByteArray} {n : Nat} {L : List (List Nat)} (hsm : Small L) {x y t : ByteArray} (hg : goodK s n L x y = true) (hgt : goodT t = true) :
    RowsOk L (rowsL n (headsT n L x y t)) (rowsL n (rowsT n (chR n L) (leadF n (turnsT n L x y t) (rdf n)))) t := by
  obtain ⟨h3, h8, hrows, h40, h1⟩ := goodM_nat (goodK_parts hg).1
  have hr := rows_turnsT hg t
  have hlen := turnsT_len n L x y t
  have hcl := chR_len n L
  have hgm := (goodM_parts (goodK_parts hg).1).1
  have hqlen : (rowsL n (rowsT n (chR n L) (leadF n (turnsT n L x y t) (rdf n)))).length = t.size * L.length := by rw [rowsL_len, rowsT_len, leadF_len, hlen, hcl]
  refine ⟨hqlen, fun j hj => ?_⟩
  rw [hqlen] at hj
  have hL0 : 0 < L.length := by rw [← hcl]; exact h1
  have hdl : j / L.length < t.size := (Nat.div_lt_iff_lt_mul hL0).2 hj
  have hat : ∀ q, q < t.size * L.length → (rowsT n (chR n L) (leadF n (turnsT n L x y t) (rdf n)))[q]? = some (endF n ((chR n L).take (q % L.length)) (endF n ((turnsT n L x y t).take (q / L.length)) (rdf n))) := fun q hq => by
    have hd : q / L.length < t.size := (Nat.div_lt_iff_lt_mul hL0).2 hq
    rw [rowsT_at h1 _ q (by rw [leadF_len, hlen, hcl]; exact hq), hcl, leadF_at _ _ _ (by rw [hlen]; exact hd)]
    rfl
  constructor
  · intro h0
    rw [row_txt (hat j hj), row_txt (headsT_at n L x y t (j / L.length) (by omega)), h0]
    rfl
  · intro i hi w
    have hml := Nat.mod_lt j hL0
    have hj0 : 0 < j := by
      rcases Nat.eq_zero_or_pos j with h | h
      · rw [h, Nat.zero_mod] at hi; omega
      · exact h
    have hdm := Nat.div_add_mod j L.length
    have e0 : j - 1 = L.length * (j / L.length) + i := by omega
    have e1 : (j - 1) / L.length = j / L.length := by
      rw [e0, Nat.mul_add_div hL0, Nat.div_eq_of_lt (show i < L.length by omega), Nat.add_zero]
    have e2 : (j - 1) % L.length = i := by
      rw [e0, Nat.mul_add_mod, Nat.mod_eq_of_lt (show i < L.length by omega)]
    have hil : i < L.length := by omega
    have hic : i < (chR n L).length := by rw [hcl]; exact hil
    have hgh := isRow_end (hr.take (j / L.length)) (isRow_rdf h3 h8)
    have hrow := isRow_end (hrows.take i) hgh
    have hmem : L.getD i [] ∈ L := by
      rw [List.getD_eq_getElem?_getD, List.getElem?_eq_getElem hil]
      exact List.getElem_mem hil
    have hc := goodAll_mem hgm _ hmem
    have hcs : (chR n L)[i] = chF n (txt (L.getD i [])) := by
      simp [chR, List.getD_eq_getElem?_getD, hil]
    rw [row_txt (hat j hj), row_txt (hat (j - 1) (by omega)), e1, e2, hi, endF_take hic, hcs]
    exact apply_row hrow (by rw [txt_size]; exact hsm _ hmem) hc w
/-- a touch as FnTouch looks at it -/
theorem touchFacts (s : ByteArray) (hs : s.size ≤ maxLen) (n : Int) (L : List (List Nat)) (hl : L.length ≤ 2000000) (hsm : Small L) (x y : ByteArray) (hx : x.size ≤ maxLen) (hy : y.size ≤ maxLen) (t : ByteArray) (ht : t.size ≤ maxLen) :
    ∃ (P Q : List (List Nat)) (en : ByteArray) (rd f g : Bool), P.length ≤ 1000 ∧ Q.length ≤ 1000 ∧
      (∀ u w, Txts w u L → Calls Try.prog 42 #[.agg #[.string s, .int .i64 n, u], .agg #[.string x, .string y], .string t] w (TextsAny P f w)) ∧
      (∀ u w, Txts w u L → Calls Try.prog 43 #[.agg #[.string s, .int .i64 n, u], .agg #[.string x, .string y], .string t] w (TextsAny P f w)) ∧
      (∀ u w, Txts w u L → Calls Try.prog 44 #[.agg #[.string s, .int .i64 n, u], .agg #[.string x, .string y], .string t] w (TextsAny Q g w)) ∧
      (∀ u w, Txts w u L → Calls Try.prog 45 #[.agg #[.string s, .int .i64 n, u], .agg #[.string x, .string y], .string t] w (TextsAny Q g w)) ∧
      (∀ u w, Txts w u L → Calls Try.prog 46 #[.agg #[.string s, .int .i64 n, u], .agg #[.string x, .string y], .string t] w fun e w' => e = .returned (.tuple #[.string en, .bool f]) ∧ Below w.heap.size w w') ∧
      (∀ u w, Txts w u L → Calls Try.prog 47 #[.agg #[.string s, .int .i64 n, u], .agg #[.string x, .string y], .string t] w fun e w' => e = .returned (.tuple #[.string en, .bool f]) ∧ Below w.heap.size w w') ∧
      (∀ u w, Txts w u L → Calls Try.prog 48 #[.agg #[.string s, .int .i64 n, u], .agg #[.string x, .string y], .string t] w fun e w' => e = .returned (.tuple #[.bool rd, .bool f]) ∧ Below w.heap.size w w') ∧
      (∀ u w, Txts w u L → Calls Try.prog 49 #[.agg #[.string s, .int .i64 n, u], .agg #[.string x, .string y], .string t] w fun e w' => e = .returned (.tuple #[.bool rd, .bool f]) ∧ Below w.heap.size w w') ∧
      (f = true → HeadsOk s n L P x y t en rd ∧ 1 ≤ L.length ∧ L.length ≤ 40 ∧ (g = true → RowsOk L P Q t) ∧ (g = false → 800 < t.size * L.length)) := by
  cases hk : askT s n L x y t
  · exact ⟨[], [], ⟨#[]⟩, false, false, false, by simp, by simp, fun u w h => iTouchHeads_no s hs n u L x y t ht w h hl hk, fun u w h => sTouchHeads_no s hs n u L x y t hx hy ht w h hl hsm hk,
      fun u w h => iTouchRows_no s hs n u L x y t ht w h hl hk, fun u w h => sTouchRows_no s hs n u L x y t hx hy ht w h hl hsm hk, fun u w h => iTouchEnd_no s hs n u L x y t ht w h hl hk, fun u w h => sTouchEnd_no s hs n u L x y t hx hy ht w h hl hsm hk,
      fun u w h => iIsRound_no s hs n u L x y t ht w h hl hk, fun u w h => sIsRound_no s hs n u L x y t hx hy ht w h hl hsm hk, fun h => by cases h⟩
  · unfold askT at hk
    rw [Bool.and_eq_true] at hk
    obtain ⟨hg, hgt⟩ := hk
    obtain ⟨k, rfl⟩ := goodK_cast hg
    have hlen := goodAll_len (goodM_parts (goodK_parts hg).1).1
    have hcl := chR_len k L
    obtain ⟨h3, h8, hrows, h40, h1⟩ := goodM_nat (goodK_parts hg).1
    have hp : (rowsL k (headsT k L x y t)).length ≤ 1000 := by
      rw [rowsL_len, headsT_len]
      have := (goodT_parts hgt).2.1
      omega
    by_cases hbig : t.size * L.length ≤ 800
    · have hq : (rowsL k (rowsT k (chR k L) (leadF k (turnsT k L x y t) (rdf k)))).length ≤ 1000 := by
        rw [rowsL_len, rowsT_len, leadF_len, turnsT_len, chR_len]
        omega
      exact ⟨_, _, _, _, true, true, hp, hq, fun u w h => iTouchHeads_yes s hs k u L x y t w h hl hg hgt, fun u w h => sTouchHeads_yes s hs k u L x y t hx hy ht w h hl hsm hg hgt,
        fun u w h => iTouchRows_yes s hs k u L x y t w h hl hg hgt hbig, fun u w h => sTouchRows_yes s hs k u L x y t hx hy ht w h hl hsm hg hgt hbig, fun u w h => iTouchEnd_yes s hs k u L x y t w h hl hg hgt, fun u w h => sTouchEnd_yes s hs k u L x y t hx hy ht w h hl hsm hg hgt,
        fun u w h => iIsRound_yes s hs k u L x y t w h hl hg hgt, fun u w h => sIsRound_yes s hs k u L x y t hx hy ht w h hl hsm hg hgt, fun _ => ⟨heads_ok hs hl hsm hx hy hg hgt, by omega, by omega, fun _ => rows_ok hsm hg hgt, fun h => by cases h⟩⟩
    · exact ⟨_, [], _, _, true, false, hp, by simp, fun u w h => iTouchHeads_yes s hs k u L x y t w h hl hg hgt, fun u w h => sTouchHeads_yes s hs k u L x y t hx hy ht w h hl hsm hg hgt,
        fun u w h => iTouchRows_big s hs k u L x y t w h hl hg hgt (by omega), fun u w h => sTouchRows_big s hs k u L x y t hx hy ht w h hl hsm hg hgt (by omega), fun u w h => iTouchEnd_yes s hs k u L x y t w h hl hg hgt, fun u w h => sTouchEnd_yes s hs k u L x y t hx hy ht w h hl hsm hg hgt,
        fun u w h => iIsRound_yes s hs k u L x y t w h hl hg hgt, fun u w h => sIsRound_yes s hs k u L x y t hx hy ht w h hl hsm hg hgt, fun _ => ⟨heads_ok hs hl hsm hx hy hg hgt, by omega, by omega, (fun h => by cases h), fun _ => by omega⟩⟩
end Go.Proofs.Ytkhglknpcajmiaa
