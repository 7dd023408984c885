/- Lists of rows as texts: whether they are rows of one stage, in the program; GoodRows in the program. -/
import Derived.Test.YtnoepobbecobbaaMA
namespace Go.Proofs.Ytnoepobbecobbaa
open Go.RowKit
set_option linter.unusedSimpArgs false
set_option linter.unusedVariables false

/-- a text that is a row of stage n -/
noncomputable def rowB (n : Int) (l : List Nat) : Bool := goodB (txt l) && decide ((l.length : Int) = n)
/-- at most 800 rows of stage n -/
noncomputable def rowsB (n : Int) (L : List (List Nat)) : Bool := decide (L.length ≤ 800) && L.all (rowB n)
/-- the rows that these texts are -/
noncomputable def rF (L : List (List Nat)) : List (Nat → Nat) := L.map fun l => dg (txt l)
theorem rF_len (L : List (List Nat)) : (rF L).length = L.length := by simp [rF]
def firstN (L : List (List Nat)) : Nat := (L.getD 0 []).length
/-- at most 800 rows of one stage -/
noncomputable def listB (L : List (List Nat)) : Bool := rowsB (firstN L) L
theorem rowB_row {n : Nat} {l : List Nat} (h : rowB n l = true) : IsRow n (dg (txt l)) := by
  simp only [rowB, Bool.and_eq_true, decide_eq_true_eq] at h
  have h1 := goodB_row h.1
  rw [txt_size] at h1
  have h2 : l.length = n := by omega
  rw [← h2]
  exact h1
theorem rowsB_rows {n : Nat} {L : List (List Nat)} (h : rowsB n L = true) : Rows n (rF L) := by
  simp only [rowsB, Bool.and_eq_true] at h
  intro c hc
  obtain ⟨l, hl, rfl⟩ := List.mem_map.1 hc
  exact rowB_row (List.all_eq_true.1 h.2 l hl)
theorem rowsB_len {n : Int} {L : List (List Nat)} (h : rowsB n L = true) : L.length ≤ 800 := by
  simp only [rowsB, Bool.and_eq_true, decide_eq_true_eq] at h
  exact h.1

/-- a slice of rows and an answer -/
def RowsOut2 (n : Int) (L : List (List Nat)) (w : World) (e : Ending) (w' : World) : Prop :=
  ∃ v, e = .returned (.tuple #[v, .bool (rowsB n L)]) ∧ NewD w.heap.size w' v (if rowsB n L = true then rF L else []) ∧ Below w.heap.size w w'

set_option maxRecDepth 100000 in
set_option maxHeartbeats 1000000 in
theorem rowsOfStage_any (n : Int) (v : Value) (L : List (List Nat)) (w : World) (h : Txts w v L) (hl : L.length ≤ 2000000) (hs : ∀ l ∈ L, l.length ≤ maxLen) :
    Calls Try.prog 110 #[.int .i64 n, v] w (RowsOut2 n L w) := by
  obtain ⟨m, hm⟩ : ∃ m, L.length = m := ⟨_, rfl⟩
  obtain ⟨a, cap, rfl, hcap, ha⟩ := h
  have hg : rowsB n L = (decide (m ≤ 800) && L.all (rowB n)) := by unfold rowsB; rw [hm]
  unfold RowsOut2
  rw [hm] at hl ha ⊢
  have HA := Lib.hid ha
  have HM := Lib.hid hm
  have HS := Lib.hid hs
  clear ha hm hcap hs
  by_cases h1 : m ≤ 800
  · have hres : rowsB n L = L.all (rowB n) := by rw [hg, decide_eq_true h1]; rfl
    generalize hFG : (if rowsB n L = true then rF L else []) = FG
    have hF : L.all (rowB n) = false → FG = [] := fun h => by rw [← hFG, hres, h]; rfl
    have hT : L.all (rowB n) = true → FG = rF L := fun h => by rw [← hFG, hres, h]; rfl
    rw [hres]
    have h3 : (m : Int) ≤ 800 := by omega
    have h5 : decide ((800 : Int) < m) = false := by simp; omega
    generalize hb : L.all (rowB n) = res at *
    have HB := Lib.hid hb
    have HF := Lib.hid hF
    have HT := Lib.hid hT
    obtain ⟨i8, hi8, hz0, hz1, hz2⟩ := info_parts8
    have I8 := Lib.hid (⟨hi8, hz0, hz1, hz2⟩ : _ ∧ _ ∧ _ ∧ _)
    clear hb hl hi8 hz0 hz1 hz2 hF hT hg hres hFG
    go_enter Try.func110, Try.ntmps110
    go_wp2_with (first | (at_make; refine wpList_make_full _ rfl _ _ 62 rfl w.heap.size 80 i8 (.agg zero8) 8 Try.underlying62 I8.out.1 I8.out.2.1 I8.out.2.2.1 .i64 .i64 _ _ m rfl rfl rfl rfl (by rw [I8.out.2.2.2]; omega) (by unfold maxLen; omega) (Nat.le_refl _) ?_) | fail)
    intro w1 hown hgrow
    have HN1 : Hid (NewD w.heap.size w1 (.slice (some ⟨w.heap.size, 0, none⟩) m m) ([] ++ zerosF m)) := Lib.hid (by
      unfold NewD
      rw [List.nil_append, show (zerosF m).length = m by simp [zerosF]]
      have := hown
      rw [flat_zeros] at this
      exact this)
    have HB1 := Lib.hid ((Below.refl _ w).grown hgrow (Nat.le_refl _) (fun k hk => by cases hk))
    clear hown hgrow
    go_wp2
    go_loopg [19] m (fun q i wr => ∃ (j : Nat) (A : List (Nat → Nat)), q + j = m ∧ i = .int .i64 j ∧ A.length = j ∧ NewD w.heap.size wr (.slice (some ⟨w.heap.size, 0, none⟩) m m) (A ++ zerosF q) ∧ A ++ rF (L.drop j) = rF L ∧ (L.drop j).all (rowB n) = res ∧ Below w.heap.size w wr)
    case atStart => exact ⟨0, [], by omega, rfl, rfl, HN1.out, rfl, HB.out, HB1.out⟩
    case round =>
      clear HB HN1 HB1
      obtain ⟨j, A, hq, rfl, hAj, hn, hA, hf, hb⟩ := hrel
      have HN := Lib.hid hn
      have HAL := Lib.hid hAj
      have HAA := Lib.hid hA
      have HFA := Lib.hid hf
      have HB := Lib.hid hb
      clear hn hA hf hb hAj
      by_cases hlt : j < m
      · obtain ⟨q', rfl⟩ : ∃ q', gk = q' + 1 := ⟨gk - 1, by omega⟩
        obtain ⟨g, off, rfl, hg, hc⟩ := HA.out (by omega)
        have hjx : j < L.length := by rw [HM.out]; exact hlt
        have c1 := (HB.out.cell (p := ⟨g, off + j, none⟩) hg).trans (hc j hlt)
        rw [List.getD_eq_getElem?_getD, List.getElem?_eq_getElem hjx, Option.getD_some] at c1
        have hf := HFA.out
        have hA := HAA.out
        have hxs := HS.out _ (List.getElem_mem hjx)
        rw [List.drop_eq_getElem_cons hjx] at hf hA
        rw [List.all_cons] at hf
        generalize L[j] = x at *
        have hA2 : (A ++ [dg (txt x)]) ++ rF (L.drop (j + 1)) = rF L := by rw [← hA]; simp [rF]
        have hji : (j : Int) < m := by omega
        have HF2 := Lib.hid hf
        have HA2 := Lib.hid hA2
        have hxz : (txt x).size = x.length := txt_size x
        clear hc hf hA hA2 HFA HAA
        go_wp2_with fail
        refine (digitsOf_any (txt x) (by rw [txt_size]; exact hxs) _).mono ?_
        rintro e w5 ⟨rfl, hb5⟩
        have HB5 := Lib.hid (HB.out.trans (hb5.mono HB.out.size))
        have HN5 := Lib.hid (HN.out.kept hb5)
        have hf := HF2.out
        unfold rowB at hf
        clear hb5 HF2 HB HN
        have HR6 := Lib.hid (RowAt.new w5 80 (dig8 (dgF (txt x))))
        have HB6 := Lib.hid (HB5.out.alloc HB5.out.size (.cells (dig8 (dgF (txt x))) 80))
        have HN6 := Lib.hid (HN5.out.kept ((Below.refl _ _).alloc (Nat.le_refl _) (.cells (dig8 (dgF (txt x))) 80)))
        cases hgx : goodB (txt x)
        · rw [hgx, Bool.false_and, Bool.false_and] at hf
          have HF3 := Lib.hid (show false = res from hf)
          clear hf hgx HN5
          go_wp2_with (first | (refine wpList_store_row rfl 80 _ _ rfl _ _ rfl rfl 80 _ (heap_at _ _ _ (by simp)) (by kernel_rfl) rfl (by kernel_rfl) ?_; rw [setRow_at _ _ _ _ _ (by simp)]) | fail)
          go_ret2
          exact ⟨_, by rw [← HF3.out]; rfl, by rw [HF.out HF3.out.symm]; exact NewD.nil _ _, HB6.out⟩
        · rw [hgx, Bool.true_and] at hf
          have hdg := dgF_yes hgx
          by_cases hxn : (x.length : Int) = n
          · rw [decide_eq_true hxn, Bool.true_and] at hf
            have HF3 := Lib.hid hf
            have hne : (((x.length : Nat) : Int) != n) = false := by rw [hxn]; simp
            clear hf hgx HN5 hxn
            have hset := zerosF_set A (dgF (txt x)) q'
            rw [HAL.out] at hset
            generalize dgF (txt x) = y at *
            subst hdg
            have HSET := Lib.hid hset
            have hlen : j < (A ++ zerosF (q' + 1)).length := by rw [List.length_append, HAL.out]; simp [zerosF]
            clear hset
            go_wp2_with (first | (refine wpList_store_row rfl 80 _ _ rfl _ _ rfl rfl 80 _ (heap_at _ _ _ (by simp)) (by kernel_rfl) rfl (by kernel_rfl) ?_; rw [setRow_at _ _ _ _ _ (by simp)]) | (refine wpList_load_row rfl 80 _ rfl _ rfl 80 _ _ _ (HR6.out) Try.underlying80 rfl (by kernel_rfl) ?_) | (refine wpList_store8 rfl _ _ rfl w.heap.size w.heap.size m m j (A ++ zerosF (q' + 1)) (dg (txt x)) HN6.out hlen (j * 8) rfl rfl rfl HB6.out ?_) | fail)
            intro w7 hn7 hb7 _ _
            rw [HSET.out] at hn7
            have HN7 := Lib.hid hn7
            have HB7 := Lib.hid hb7
            clear hn7 hb7 HN6 HB6 HR6
            go_wp2
            go_roundg q'
            case measure => omega
            case rel => exact ⟨j + 1, A ++ [dg (txt x)], by omega, by go_num, by rw [List.length_append, HAL.out]; rfl, HN7.out, HA2.out, HF3.out, HB7.out⟩
          · rw [decide_eq_false hxn, Bool.false_and] at hf
            have HF3 := Lib.hid (show false = res from hf)
            have hne : (((x.length : Nat) : Int) != n) = true := by simpa using hxn
            clear hf hgx HN5 hxn hdg
            go_wp2_with (first | (refine wpList_store_row rfl 80 _ _ rfl _ _ rfl rfl 80 _ (heap_at _ _ _ (by simp)) (by kernel_rfl) rfl (by kernel_rfl) ?_; rw [setRow_at _ _ _ _ _ (by simp)]) | fail)
            go_ret2
            exact ⟨_, by rw [← HF3.out]; rfl, by rw [HF.out HF3.out.symm]; exact NewD.nil _ _, HB6.out⟩
      · obtain rfl : gk = 0 := by omega
        obtain rfl : j = m := by omega
        have hf := HFA.out
        have hA := HAA.out
        rw [List.drop_eq_nil_of_le (by rw [HM.out]; exact Nat.le_refl _)] at hf hA
        have hf : true = res := hf
        have hA : A = rF L := by rw [← hA]; simp [rF]
        have hn := HN.out
        rw [show zerosF 0 = [] from rfl, List.append_nil, hA, ← HT.out hf.symm] at hn
        have HN2 := Lib.hid hn
        have HR := Lib.hid hf
        clear hf hA hn HFA HAA HN
        go_wp2
        go_ret2
        exact ⟨_, by rw [← HR.out]; rfl, HN2.out, HB.out⟩
  · have hres : rowsB n L = false := by rw [hg, decide_eq_false h1]; rfl
    rw [hres]
    have h3 : (800 : Int) < m := by omega
    clear hg hres h1
    go_enter Try.func110, Try.ntmps110
    go_wp2
    go_ret2
    exact ⟨_, rfl, NewD.nil _ _, Below.refl _ _⟩

/-- a slice of rows and an answer, of a list of one stage -/
def ListOut6 (L : List (List Nat)) (w : World) (e : Ending) (w' : World) : Prop :=
  ∃ v, e = .returned (.tuple #[v, .bool (listB L)]) ∧ NewD w.heap.size w' v (if listB L = true then rF L else []) ∧ Below w.heap.size w w'

set_option maxRecDepth 100000 in
set_option maxHeartbeats 1000000 in
theorem rowListOf_any (v : Value) (L : List (List Nat)) (w : World) (h : Txts w v L) (hl : L.length ≤ 2000000) (hs : ∀ l ∈ L, l.length ≤ maxLen) :
    Calls Try.prog 61 #[v] w (ListOut6 L w) := by
  have hC := fun n => rowsOfStage_any n v L w h hl hs
  unfold ListOut6
  obtain ⟨a, cap, rfl, hcap, ha⟩ := h
  cases L with
  | nil =>
    have h1 : listB [] = true := by simp [listB, rowsB]
    rw [h1]
    clear hC ha hcap
    go_enter Try.func61, Try.ntmps61
    go_wp2
    go_ret2
    exact ⟨_, rfl, by simpa [rF] using NewD.nil _ _, Below.refl _ _⟩
  | cons x t =>
    have h1 : listB (x :: t) = rowsB x.length (x :: t) := rfl
    rw [h1]
    clear h1
    have hC := hC x.length
    unfold RowsOut2 at hC
    obtain ⟨m, hm⟩ : ∃ m, (x :: t).length = m := ⟨_, rfl⟩
    have h0 : 0 < m := by rw [← hm]; simp
    obtain ⟨g, off, rfl, hg, hc⟩ := ha (by rw [hm]; exact h0)
    have c1 := hc 0 (by rw [hm]; exact h0)
    rw [Nat.add_zero, List.getD_cons_zero] at c1
    rw [hm] at hC hl ⊢
    have hz : (txt x).size = x.length := txt_size x
    have hmi : ((m : Int) == 0) = false := by rw [beq_eq_false_iff_ne]; omega
    have hmp : (0 : Int) < m := by omega
    generalize rowsB x.length (x :: t) = res at *
    generalize (if res = true then rF (x :: t) else []) = FG at *
    have HC := Lib.hid hC
    generalize x.length = z at *
    clear hC hc ha hm hcap hs
    go_enter Try.func61, Try.ntmps61
    go_wp2_with fail
    refine HC.out.mono ?_
    rintro e w5 ⟨v5, rfl, hn5, hb5⟩
    go_wp2
    go_ret2
    exact ⟨_, rfl, hn5, hb5⟩

set_option maxRecDepth 100000 in
set_option maxHeartbeats 1000000 in
theorem iGoodRows_any (v : Value) (L : List (List Nat)) (w : World) (h : Txts w v L) (hl : L.length ≤ 2000000) (hs : ∀ l ∈ L, l.length ≤ maxLen) :
    Calls Try.prog 63 #[v] w fun e w' => e = .returned (.bool (listB L)) ∧ Below w.heap.size w w' := by
  have HC := Lib.hid (rowListOf_any v L w h hl hs)
  unfold ListOut6 at HC
  clear h hl hs
  generalize listB L = res at *
  go_enter Try.func63, Try.ntmps63
  go_wp2_with fail
  refine HC.out.mono ?_
  rintro e w5 ⟨v5, rfl, hn5, hb5⟩
  go_wp2
  go_ret
  exact ⟨rfl, hb5⟩
end Go.Proofs.Ytnoepobbecobbaa
