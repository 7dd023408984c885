/- A row times each row of a list, in the model; the law LeftTimes. -/
import Derived.Test.YtnoepobbecobbaaSE
namespace Go.Proofs.Ytnoepobbecobbaa
open Go.RowKit
set_option linter.unusedSimpArgs false
set_option linter.unusedVariables false

theorem strs_rows {n : Nat} {L : List (List Nat)} (h : rowsB n L = true) : strs (rowsL n (rF L)) = strs L := by
  unfold strs rowsL rF
  rw [List.map_map, List.map_map]
  refine List.map_congr_left fun l hl => ?_
  obtain ⟨h1, h2⟩ := rowsB_mem h hl
  have := (str_dg (n := n) h1 (by omega)).2
  simp only [Function.comp]
  rw [txt_rowL, ← this]
theorem Txts.rows {n : Nat} {L : List (List Nat)} {W : World} {v : Value} (h : Txts W v L) (hb : rowsB n L = true) : Txts W v (rowsL n (rF L)) := by
  have hs := strs_rows hb
  have hl : (rowsL n (rF L)).length = L.length := by rw [rowsL_len, rF_len]
  obtain ⟨a, cap, rfl, hcap, ha⟩ := h
  rw [← hl] at hcap ha ⊢
  refine ⟨a, cap, rfl, hcap, fun h0 => ?_⟩
  obtain ⟨g, off, e, hg, hc⟩ := ha h0
  refine ⟨g, off, e, hg, fun j hj => ?_⟩
  rw [hc j hj]
  have h1 := strs_at L j (by omega)
  have h2 := strs_at (rowsL n (rF L)) j hj
  rw [hs, h1] at h2
  exact h2

set_option maxRecDepth 100000 in
set_option maxHeartbeats 1000000 in
theorem l6Left_any (n : Nat) (f : Nat → Nat) (hf : IsRow n f) (v : Value) (fs : List (Nat → Nat)) (hc : Rows n fs) (hl : fs.length ≤ 1000) (w : World) (h : Txts w v (rowsL n fs)) :
    Calls Try.prog 76 #[.string (strOf n f), v] w (TextsOut (rowsL n (fs.map (mulR n f))) w) := by
  obtain ⟨m, hm⟩ : ∃ m, fs.length = m := ⟨_, rfl⟩
  obtain ⟨a, cap, rfl, hcap, ha⟩ := h
  rw [rowsL_len, hm] at ha ⊢
  rw [hm] at hl
  have hl' : (m : Int) ≤ 1000 := by omega
  have hc2 : 0 < m → ∃ g off, a = some ⟨g, off, none⟩ ∧ g < w.heap.size ∧ ∀ j (hj : j < fs.length), w.cell? ⟨g, off + j, none⟩ = some (.string (strOf n fs[j])) := fun h0 => by
    obtain ⟨g, off, e, hg, hcc⟩ := ha h0
    refine ⟨g, off, e, hg, fun j hj => ?_⟩
    rw [hcc j (by rw [← hm]; exact hj), rowsL, List.getD_eq_getElem?_getD, List.getElem?_map, List.getElem?_eq_getElem hj, Option.map_some, Option.getD_some, txt_rowL]
  have HA := Lib.hid hc2
  have HM := Lib.hid hm
  have HF := Lib.hid hf
  have HC := Lib.hid hc
  generalize hres : fs.map (mulR n f) = res
  have HRES := Lib.hid hres
  obtain ⟨i0, hi0, hz0, hz1, hz2⟩ := info_parts infoText
  have I0 := Lib.hid (⟨hi0, hz0, hz1, hz2⟩ : _ ∧ _ ∧ _ ∧ _)
  have HTM := Lib.hid (fun g w (hg : IsRow n g) => l1Times_any n f g (strOf n f) (strOf n g) (isStr_row hf) (isStr_row hg) hf.eight (fun i hi => ⟨hg.lo i hi, hg.hi i hi⟩) w)
  clear ha hm hcap hf hc hres hi0 hz0 hz1 hz2 hc2
  generalize strOf n f = sf at *
  go_enter Try.func76, Try.ntmps76
  go_wp2
  go_loopg [5, 10] m (fun q o i wr => ∃ (j : Nat) (A : List (Nat → Nat)) (u : Value), q + j = m ∧ o = u ∧ i = .int .i64 j ∧ A.length = j ∧ A ++ (fs.drop j).map (mulR n f) = res ∧ New w.heap.size wr 9 u (strs (rowsL n A)) ∧ Below w.heap.size w wr)
  case atStart => exact ⟨0, [], _, by omega, rfl, rfl, rfl, HRES.out, New.nil _ _ _, Below.refl _ _⟩
  case round =>
    clear HRES
    obtain ⟨j, A, u, hq, rfl, rfl, hA, hr, hn, hb⟩ := hrel
    have HAL := Lib.hid hA
    have HRR := Lib.hid hr
    have HN := Lib.hid hn
    have HB := Lib.hid hb
    obtain ⟨ua, uc, rfl, -⟩ := hn.own.view
    clear hA hr hn hb
    by_cases hlt : j < m
    · obtain ⟨q', rfl⟩ : ∃ q', gk = q' + 1 := ⟨gk - 1, by omega⟩
      obtain ⟨gb, off, rfl, hgb, hc⟩ := HA.out (by omega)
      have hjx : j < fs.length := by rw [HM.out]; exact hlt
      have c1 := (HB.out.cell (p := ⟨gb, off + j, none⟩) hgb).trans (hc j hjx)
      have hr := HRR.out
      rw [List.drop_eq_getElem_cons hjx] at hr
      have hrow := HC.out _ (List.getElem_mem hjx)
      generalize fs[j] = x at *
      have HR2 := Lib.hid (show (A ++ [mulR n f x]) ++ (fs.drop (j + 1)).map (mulR n f) = res from by rw [← hr]; simp)
      have hji : (j : Int) < m := by omega
      have HTX : Hid (∀ w, Calls _ _ #[.string sf, .string (strOf n x)] w _) := Lib.hid (fun w => HTM.out x w hrow)
      have hmul : strOf n (mulF f x) = txt (rowL n (mulR n f x)) := by rw [strOf_mul, txt_rowL]
      have hA1 : A.length ≤ 100000 := by have := HAL.out; omega
      generalize strOf n x = sx at *
      rw [hmul] at HTX
      generalize mulR n f x = y at *
      clear hc hr HRR hrow hmul
      go_wp2_with fail
      refine (HTX.out _).mono ?_
      rintro e w5 ⟨rfl, rfl⟩
      clear HTX
      go_wp2_with (at_builtin; refine wpList_app1 rfl (.tmp 14) (.tmp 18) 22 rfl 9 i0 (.string ⟨#[]⟩) 16 Try.underlying22 I0.out.1 I0.out.2.1 I0.out.2.2.1 I0.out.2.2.2 rfl w.heap.size w _ (strs (rowsL n A)) rfl HN.out rfl rfl HB.out.size HB.out (by rw [strs_len, rowsL_len]; exact hA1) (by omega) ?_)
      intro v7 w7 hn7 _ hb7 _
      rw [strs_snoc, show rowsL n A ++ [rowL n y] = rowsL n (A ++ [y]) by simp [rowsL]] at hn7
      have HN7 := Lib.hid hn7
      have HB7 := Lib.hid hb7
      obtain ⟨ua7, uc7, rfl, -⟩ := hn7.own.view
      clear hn7 hb7 HN HB
      go_wp2
      go_roundg q'
      case measure => omega
      case rel => exact ⟨j + 1, A ++ [y], _, by omega, rfl, by go_num, by rw [List.length_append, HAL.out]; rfl, HR2.out, HN7.out, HB7.out⟩
    · obtain rfl : gk = 0 := by omega
      obtain rfl : j = m := by omega
      have hr := HRR.out
      rw [List.drop_eq_nil_of_le (by rw [HM.out]; exact Nat.le_refl _)] at hr
      have hr : A = res := by rw [← hr]; simp
      subst hr
      clear HRR
      go_wp2
      go_ret
      exact ⟨_, rfl, HN.out, HB.out⟩

/-- a list of one stage, by a stage -/
theorem listB_left {s : ByteArray} {L : List (List Nat)} : (listB L && !(decide (0 < L.length) && !decide (firstN L = s.size))) = rowsB s.size L := by
  cases L with
  | nil => simp [listB, rowsB]
  | cons x t =>
    have h1 : listB (x :: t) = rowsB x.length (x :: t) := rfl
    have h2 : firstN (x :: t) = x.length := rfl
    rw [h1, h2]
    by_cases hx : x.length = s.size
    · simp [hx]
    · rw [decide_eq_false hx]
      have : rowsB s.size (x :: t) = false := by
        have : rowB s.size x = false := by simp [rowB]; intro _; omega
        simp [rowsB, this]
      rw [this]; simp

end Go.Proofs.Ytnoepobbecobbaa
