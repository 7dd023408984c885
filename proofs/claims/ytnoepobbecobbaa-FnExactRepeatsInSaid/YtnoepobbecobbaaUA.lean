/- Whether rows repeat, purely; the model's l7True, IsTrueList. -/
import Derived.Test.YtnoepobbecobbaaSVY
import Derived.Test.YtnoepobbecobbaaSI
namespace Go.Proofs.Ytnoepobbecobbaa
open Go.RowKit
set_option linter.unusedSimpArgs false
set_option linter.unusedVariables false

/-- no row twice -/
noncomputable def nodB (fs : List (Nat → Nat)) : Bool := open Classical in decide fs.Nodup
theorem nodB_iff {fs : List (Nat → Nat)} : nodB fs = true ↔ fs.Nodup := by simp [nodB]
theorem nodB_no {fs : List (Nat → Nat)} (h : ¬ fs.Nodup) : nodB fs = false := by simp [nodB, h]
theorem nodB_perm {fs gs : List (Nat → Nat)} (h : fs.Perm gs) : nodB fs = nodB gs := by
  rw [Bool.eq_iff_iff, nodB_iff, nodB_iff]
  exact h.nodup_iff
theorem ord_nodup {n : Nat} {fs : List (Nat → Nat)} (hr : Rows n fs) (ho : Ord n fs) (h : ∀ k (h1 : k < fs.length) (h2 : k + 1 < fs.length), fs[k] ≠ fs[k + 1]) : fs.Nodup := by
  have hri : Rise n fs := by
    intro i j hi hj hij
    induction j with
    | zero => omega
    | succ j ih =>
      have h1 : rowKey n (fs[j]'(by omega)) < rowKey n fs[j + 1] := by
        have h2 := List.pairwise_iff_getElem.1 ho j (j + 1) (by omega) hj (by omega)
        refine Nat.lt_of_le_of_ne h2 fun e => h j (by omega) hj ?_
        exact rowKey_inj (hr _ (List.getElem_mem _)) (hr _ (List.getElem_mem _)) e
      by_cases hij2 : i = j
      · subst hij2; exact h1
      · exact Nat.lt_trans (ih (by omega) (by omega)) h1
  exact hri.nodup
theorem dup_at {fs : List (Nat → Nat)} {i k : Nat} (hi : i < fs.length) (hk : k < fs.length) (hne : i < k) (e : fs[i] = fs[k]) : nodB fs = false :=
  nodB_no fun h => List.pairwise_iff_getElem.1 h i k hi hk hne e
/-- no two neighbours alike among the first k -/
def NoAdj (fs : List (Nat → Nat)) (k : Nat) : Prop := ∀ i (h1 : i < fs.length) (h2 : i + 1 < fs.length), i + 1 < k → fs[i] ≠ fs[i + 1]

set_option maxRecDepth 100000 in
set_option maxHeartbeats 1000000 in
theorem l7True_any (n : Nat) (v : Value) (fs : List (Nat → Nat)) (hr : Rows n fs) (hl : fs.length ≤ 1000) (w : World) (h : Txts w v (rowsL n fs)) :
    Calls Try.prog 60 #[v] w fun e w' => e = .returned (.bool (nodB fs)) ∧ Below w.heap.size w w' := by
  have HSO := Lib.hid (l6Sort_any n 1000 fs hl (by omega) hr v w h)
  unfold TextsOut at HSO
  have hp := nodB_perm (sortF_perm n fs)
  rw [← hp]
  have hso := sortF_ord n fs
  have hsr := rows_sort hr
  have hsl := sortF_len n fs
  generalize sortF n fs = ss at *
  obtain ⟨m, hm⟩ : ∃ m, ss.length = m := ⟨_, rfl⟩
  have hmi : (m : Int) ≤ 1000 := by omega
  have HM := Lib.hid hm
  have HORD := Lib.hid hso
  have HSR := Lib.hid hsr
  generalize hres : nodB ss = res at *
  have HRES := Lib.hid hres
  clear h hr hl hso hsr hsl hp hm hres
  go_enter Try.func60, Try.ntmps60
  go_wp2_with fail
  refine HSO.out.mono ?_
  rintro e w1 ⟨v1, rfl, hn1, hb1⟩
  have HB1 := Lib.hid hb1
  have HN1 := Lib.hid hn1.own
  obtain ⟨ua, uc, rfl, hua⟩ := hn1.own.view
  rw [strs_len, rowsL_len, HM.out] at HN1 hua ⊢
  have HUA := Lib.hid hua
  clear hn1 hb1 hua
  go_wp2
  go_loopg [4] m (fun q i wr => ∃ t : Nat, q + t = m + 1 ∧ 1 ≤ t ∧ i = .int .i64 t ∧ NoAdj ss t ∧ Below w1.heap.size w1 wr)
  case atStart => exact ⟨1, by omega, by omega, rfl, fun i h1 h2 h3 => by omega, Below.refl _ _⟩
  case round =>
    obtain ⟨t, hq, ht1, rfl, hna, hb⟩ := hrel
    have HB := Lib.hid hb
    have HNA := Lib.hid hna
    have HQ := Lib.hid hq
    by_cases hlt : t < m
    · obtain ⟨j, rfl⟩ : ∃ j, t = j + 1 := ⟨t - 1, by omega⟩
      obtain ⟨g, rfl⟩ := HUA.out (by omega)
      have hj1 : j < ss.length := by rw [HM.out]; omega
      have hj2 : j + 1 < ss.length := by rw [HM.out]; exact hlt
      have c1 := (HN1.out.kept hb).cell j _ (strs_rowsL_get n ss j hj1)
      have c2 := (HN1.out.kept hb).cell (j + 1) _ (strs_rowsL_get n ss (j + 1) hj2)
      have hr1 := HSR.out _ (List.getElem_mem hj1)
      have hr2 := HSR.out _ (List.getElem_mem hj2)
      have hti : ((j + 1 : Nat) : Int) = (j : Int) + 1 := by omega
      have hlti : (j : Int) + 1 < (m : Int) := by omega
      rw [hti]
      have htt : ((j : Int) + 1).toNat = j + 1 := by omega
      have hpos : (0 : Int) ≤ (j : Int) := by omega
      have htm : (j : Int) < (m : Int) := by omega
      have hw1 : IntKind.i64.wrap (j : Int) = j := IntWalk.i64_in _ ⟨by omega, by omega⟩
      by_cases he : ss[j] = ss[j + 1]
      · have hN := dup_at hj1 hj2 (by omega) he
        rw [HRES.out] at hN
        subst hN
        rw [← he] at c2
        have hss : ((strOf n ss[j]).toList == (strOf n ss[j]).toList) = true := by simp
        generalize strOf n ss[j] = sj at *
        clear hna hb hq hlt hr1 hr2 he hj1 hj2 hti
        go_wp2
        go_quiet (fail)
        go_wp2
        go_ret
        exact ⟨rfl, HB1.out.trans ((drawnBelow HB.out _).mono HB1.out.size)⟩
      · have hss := str_other hr2 hr1 (fun e => he e.symm)
        have HNE := Lib.hid he
        have HNA2 : Hid (NoAdj ss (j + 2)) := Lib.hid (fun i h1 h2 h3 => by
          by_cases hij : i = j
          · subst hij; exact HNE.out
          · exact HNA.out i h1 h2 (by omega))
        generalize strOf n ss[j] = sj at *
        generalize strOf n ss[j + 1] = sk at *
        clear HNE hna hb hq hlt hr1 hr2 he hj1 hj2 hti
        go_wp2
        go_quiet (fail)
        go_wp2
        go_roundg (m - (j + 1))
        case measure => have := HQ.out; omega
        case rel => exact ⟨j + 2, by have := HQ.out; omega, by omega, by go_num, HNA2.out, drawnBelow HB.out _⟩
    · have hge : ¬ (t : Int) < (m : Int) := by omega
      have hN : res = true := by
        rw [← HRES.out, nodB_iff]
        exact ord_nodup HSR.out HORD.out fun k h1 h2 => hna k h1 h2 (by rw [HM.out] at h2; omega)
      subst hN
      clear hna hb
      go_wp2
      go_ret
      exact ⟨rfl, HB1.out.trans (HB.out.mono HB1.out.size)⟩
noncomputable def isT (L : List (List Nat)) : Bool := listB L && nodB (rF L)
set_option maxRecDepth 100000 in
set_option maxHeartbeats 1000000 in
theorem sIsTrueList_any (v : Value) (L : List (List Nat)) (w : World) (h : Txts w v L) (hl : L.length ≤ 2000000) (hs : ∀ l ∈ L, l.length ≤ maxLen) :
    Calls Try.prog 14 #[v] w fun e w' => e = .returned (.tuple #[.bool (isT L), .bool (listB L)]) ∧ Below w.heap.size w w' := by
  have HC := Lib.hid (l6Rows_any v L w h hl hs)
  have HT := Lib.hid h
  by_cases hb : listB L = true
  · have hI : isT L = nodB (rF L) := by unfold isT; rw [hb]; rfl
    have HTR := Lib.hid (fun w h => l7True_any (firstN L) v (rF L) (rowsB_rows hb) (by rw [rF_len]; have := rowsB_len hb; omega) w h)
    have HR := Lib.hid (fun w (h : Txts w v L) => Txts.rows h hb)
    rw [hI, hb]
    rw [hb] at HC
    generalize nodB (rF L) = nb at *
    clear h hl hs hb hI
    go_enter Try.func14, Try.ntmps14
    go_wp2_with fail
    refine HC.out.mono ?_
    rintro e w1 ⟨rfl, hb1⟩
    have HB1 := Lib.hid hb1
    have HT1 := Lib.hid (HR.out _ (HT.out.kept hb1))
    clear hb1
    go_wp2_with fail
    refine (HTR.out _ HT1.out).mono ?_
    rintro e w2 ⟨rfl, hb2⟩
    have HB2 := Lib.hid (HB1.out.trans (hb2.mono HB1.out.size))
    clear hb2
    go_wp2
    go_ret2
    exact ⟨rfl, HB2.out⟩
  · have hb : listB L = false := by simpa using hb
    have hI : isT L = false := by unfold isT; rw [hb]; rfl
    rw [hI, hb]
    rw [hb] at HC
    clear h hl hs hb hI HT
    go_enter Try.func14, Try.ntmps14
    go_wp2_with fail
    refine HC.out.mono ?_
    rintro e w1 ⟨rfl, hb1⟩
    go_wp2
    go_ret2
    exact ⟨rfl, hb1⟩
end Go.Proofs.Ytnoepobbecobbaa
