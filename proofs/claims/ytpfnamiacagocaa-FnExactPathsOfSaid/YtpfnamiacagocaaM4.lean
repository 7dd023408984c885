/- Lists of changes as rows, in the program. -/
import Derived.Test.YtpfnamiacagocaaM3
namespace Go.Proofs.Ytpfnamiacagocaa
open Go.RowKit
set_option linter.unusedSimpArgs false
set_option linter.unusedVariables false

/-- the rows of these changes, if they are good ones -/
def listF (n : Int) (L : List (List Nat)) : List (Nat → Nat) := if goodAll n L = true then chR n L else []
def zerosF (k : Nat) : List (Nat → Nat) := List.replicate k fun _ => 0
theorem zerosF_set (A : List (Nat → Nat)) (f : Nat → Nat) (k : Nat) : (A ++ zerosF (k + 1)).set A.length f = (A ++ [f]) ++ zerosF k := by
  unfold zerosF
  rw [List.set_append_right _ _ (Nat.le_refl _), Nat.sub_self, List.replicate_succ]
  simp
/-- a slice of rows and an answer -/
def ListOut (n : Int) (L : List (List Nat)) (w : World) (e : Ending) (w' : World) : Prop :=
  ∃ v, e = .returned (.tuple #[v, .bool (goodAll n L)]) ∧ NewD w.heap.size w' v (listF n L) ∧ Below w.heap.size w w'

set_option maxRecDepth 100000 in
set_option maxHeartbeats 1000000 in
theorem changeListOf_any (n : Int) (v : Value) (L : List (List Nat)) (w : World) (h : Txts w v L) (hl : L.length ≤ 2000000) :
    Calls Try.prog 97 #[.int .i64 n, v] w (ListOut n L w) := by
  obtain ⟨m, hm⟩ : ∃ m, L.length = m := ⟨_, rfl⟩
  obtain ⟨a, cap, rfl, hcap, ha⟩ := h
  have hg : goodAll n L = (decide (1 ≤ m) && decide (m ≤ 40) && L.all (fun l => goodC n (txt l))) := by unfold goodAll; rw [hm]
  unfold ListOut
  rw [hm] at hl ha ⊢
  have HA := Lib.hid ha
  have HM := Lib.hid hm
  clear ha hm hcap
  by_cases h1 : 1 ≤ m ∧ m ≤ 40
  · have hres : goodAll n L = L.all (fun l => goodC n (txt l)) := by rw [hg, decide_eq_true h1.1, decide_eq_true h1.2]; rfl
    have hF : L.all (fun l => goodC n (txt l)) = false → listF n L = [] := fun h => by unfold listF; rw [hres, h]; rfl
    have hT : L.all (fun l => goodC n (txt l)) = true → listF n L = chR n L := fun h => by unfold listF; rw [hres, h]; rfl
    rw [hres]
    have h2 : (1 : Int) ≤ m := by omega
    have h3 : (m : Int) ≤ 40 := by omega
    have h4 : ((m : Int) == 0) = false := by rw [beq_eq_false_iff_ne]; omega
    have h5 : decide ((40 : Int) < m) = false := by simp; omega
    generalize hb : L.all (fun l => goodC n (txt l)) = res at *
    have HB := Lib.hid hb
    have HF := Lib.hid hF
    have HT := Lib.hid hT
    obtain ⟨i8, hi8, hz0, hz1, hz2⟩ := info_parts8
    have I8 := Lib.hid (⟨hi8, hz0, hz1, hz2⟩ : _ ∧ _ ∧ _ ∧ _)
    clear hb hl hi8 hz0 hz1 hz2 hF hT hg hres
    go_enter Try.func97, Try.ntmps97
    go_wp2_with (first | (at_make; refine wpList_make_full _ rfl _ _ 66 rfl w.heap.size 68 i8 (.agg zero8) 8 Try.underlying66 I8.out.1 I8.out.2.1 I8.out.2.2.1 .i64 .i64 _ _ m rfl rfl rfl rfl (by rw [I8.out.2.2.2]; omega) (by unfold maxLen; omega) (Nat.le_refl _) ?_) | fail)
    intro w1 hown hgrow
    have HN1 : Hid (NewD w.heap.size w1 (.slice (some ⟨w.heap.size, 0, none⟩) m m) ([] ++ zerosF m)) := Lib.hid (by
      unfold NewD
      rw [List.nil_append, show (zerosF m).length = m by simp [zerosF]]
      have := hown
      rw [flat_zeros] at this
      exact this)
    have HB1 := Lib.hid ((Below.refl _ w).grown hgrow (Nat.le_refl _) (fun k hk => by cases hk))
    clear hown hgrow
    go_wp2
    go_loopg [24] m (fun q i wr => ∃ (j : Nat) (A : List (Nat → Nat)), q + j = m ∧ i = .int .i64 j ∧ A.length = j ∧ NewD w.heap.size wr (.slice (some ⟨w.heap.size, 0, none⟩) m m) (A ++ zerosF q) ∧ A ++ chR n (L.drop j) = chR n L ∧ (L.drop j).all (fun l => goodC n (txt l)) = res ∧ Below w.heap.size w wr)
    case atStart => exact ⟨0, [], by omega, rfl, rfl, HN1.out, rfl, HB.out, HB1.out⟩
    case round =>
      clear HB HN1 HB1
      obtain ⟨j, A, hq, rfl, hAj, hn, hA, hf, hb⟩ := hrel
      have HN := Lib.hid hn
      have HAL := Lib.hid hAj
      have HAA := Lib.hid hA
      have HFA := Lib.hid hf
      have HB := Lib.hid hb
      clear hn hA hf hb hAj
      by_cases hlt : j < m
      · obtain ⟨q', rfl⟩ : ∃ q', gk = q' + 1 := ⟨gk - 1, by omega⟩
        obtain ⟨g, off, rfl, hg, hc⟩ := HA.out (by omega)
        have hjx : j < L.length := by rw [HM.out]; exact hlt
        have c1 := (HB.out.cell (p := ⟨g, off + j, none⟩) hg).trans (hc j hlt)
        rw [List.getD_eq_getElem?_getD, List.getElem?_eq_getElem hjx, Option.getD_some] at c1
        have hf := HFA.out
        have hA := HAA.out
        rw [List.drop_eq_getElem_cons hjx] at hf hA
        rw [List.all_cons] at hf
        generalize L[j] = x at *
        have hA2 : (A ++ [chF n (txt x)]) ++ chR n (L.drop (j + 1)) = chR n L := by rw [← hA]; simp [chR]
        have hji : (j : Int) < m := by omega
        have HF2 := Lib.hid hf
        have HA2 := Lib.hid hA2
        clear hc hf hA hA2 HFA HAA
        go_wp2_with fail
        refine (changeDigits_any n (txt x) _).mono ?_
        rintro e w5 ⟨rfl, hb5⟩
        have HB5 := Lib.hid (HB.out.trans (hb5.mono HB.out.size))
        have HN5 := Lib.hid (HN.out.kept hb5)
        have hf := HF2.out
        clear hb5 HF2 HB HN
        have HR6 := Lib.hid (RowAt.new w5 68 (dig8 (chF n (txt x))))
        have HB6 := Lib.hid (HB5.out.alloc HB5.out.size (.cells (dig8 (chF n (txt x))) 68))
        have HN6 := Lib.hid (HN5.out.kept ((Below.refl _ _).alloc (Nat.le_refl _) (.cells (dig8 (chF n (txt x))) 68)))
        cases hgx : goodC n (txt x)
        · rw [hgx, Bool.false_and] at hf
          have HF3 := Lib.hid (show false = res from hf)
          clear hf hgx HN5
          go_wp2_with (first | (refine wpList_store_row rfl 68 _ _ rfl _ _ rfl rfl 68 _ (heap_at _ _ _ (by simp)) (by kernel_rfl) rfl (by kernel_rfl) ?_; rw [setRow_at _ _ _ _ _ (by simp)]) | fail)
          go_ret2
          exact ⟨_, by rw [← HF3.out]; rfl, by rw [HF.out HF3.out.symm]; exact NewD.nil _ _, HB6.out⟩
        · rw [hgx, Bool.true_and] at hf
          have HF3 := Lib.hid hf
          clear hf hgx HN5
          have hset := zerosF_set A (chF n (txt x)) q'
          rw [HAL.out] at hset
          have HSET := Lib.hid hset
          have hlen : j < (A ++ zerosF (q' + 1)).length := by rw [List.length_append, HAL.out]; simp [zerosF]
          clear hset
          go_wp2_with (first | (refine wpList_store_row rfl 68 _ _ rfl _ _ rfl rfl 68 _ (heap_at _ _ _ (by simp)) (by kernel_rfl) rfl (by kernel_rfl) ?_; rw [setRow_at _ _ _ _ _ (by simp)]) | (refine wpList_load_row rfl 68 _ rfl _ rfl 68 _ _ _ (HR6.out) Try.underlying68 rfl (by kernel_rfl) ?_) | (refine wpList_store8 rfl _ _ rfl w.heap.size w.heap.size m m j (A ++ zerosF (q' + 1)) (chF n (txt x)) HN6.out hlen (j * 8) rfl rfl rfl HB6.out ?_) | fail)
          intro w7 hn7 hb7 _ _
          rw [HSET.out] at hn7
          have HN7 := Lib.hid hn7
          have HB7 := Lib.hid hb7
          clear hn7 hb7 HN6 HB6 HR6
          go_wp2
          go_roundg q'
          case measure => omega
          case rel => exact ⟨j + 1, A ++ [chF n (txt x)], by omega, by go_num, by rw [List.length_append, HAL.out]; rfl, HN7.out, HA2.out, HF3.out, HB7.out⟩
      · obtain rfl : gk = 0 := by omega
        obtain rfl : j = m := by omega
        have hf := HFA.out
        have hA := HAA.out
        rw [List.drop_eq_nil_of_le (by rw [HM.out]; exact Nat.le_refl _)] at hf hA
        have hf : true = res := hf
        have hA : A = chR n L := by rw [← hA]; simp [chR]
        have hn := HN.out
        rw [show zerosF 0 = [] from rfl, List.append_nil, hA, ← HT.out hf.symm] at hn
        have HN2 := Lib.hid hn
        have HR := Lib.hid hf
        clear hf hA hn HFA HAA HN
        go_wp2
        go_ret2
        exact ⟨_, by rw [← HR.out]; rfl, HN2.out, HB.out⟩
  · have hres : goodAll n L = false := by
      rw [hg]
      by_cases h2 : 1 ≤ m
      · rw [decide_eq_false (show ¬ m ≤ 40 by omega)]; simp
      · rw [decide_eq_false h2]; rfl
    have hF : listF n L = [] := by unfold listF; rw [hres]; rfl
    rw [hres, hF]
    clear hg hres hF
    by_cases h2 : m = 0
    · subst h2
      go_enter Try.func97, Try.ntmps97
      go_wp2
      go_ret2
      exact ⟨_, rfl, NewD.nil _ _, Below.refl _ _⟩
    · have h3 : (40 : Int) < m := by omega
      have h4 : ¬ (m : Int) = 0 := by omega
      clear h1 h2
      go_enter Try.func97, Try.ntmps97
      go_wp2
      go_ret2
      exact ⟨_, rfl, NewD.nil _ _, Below.refl _ _⟩
end Go.Proofs.Ytpfnamiacagocaa
