/- A row times each row of a list, in the program and in the model; the law LeftTimes. -/
import Derived.Test.YtnoepobbecobbaaSD
import Derived.Test.YtnoepobbecobbaaMB
namespace Go.Proofs.Ytnoepobbecobbaa
open Go.RowKit
set_option linter.unusedSimpArgs false
set_option linter.unusedVariables false

set_option maxRecDepth 100000 in
set_option maxHeartbeats 1000000 in
theorem timesAll_any (n : Nat) (v : Value) (cs : List (Nat → Nat)) (f : Nat → Nat) (hf : IsRow n f) (hc : Rows n cs) (hl : cs.length ≤ 1000) (w : World) (h : Digs w v cs) :
    Calls Try.prog 82 #[.agg (dig8 f), v] w (RowsOut (cs.map (mulR n f)) w) := by
  obtain ⟨m, hm⟩ : ∃ m, cs.length = m := ⟨_, rfl⟩
  obtain ⟨a, cap, rfl, hcap, ha⟩ := h
  have ha : 0 < m → ∃ g off, a = some ⟨g, off, none⟩ ∧ g < w.heap.size ∧ ∀ i (h : i < cs.length), w.rangeAt g (off + i * 8) (cells8 cs[i]) := fun h0 => ha (by rw [hm]; exact h0)
  rw [hm] at hl ⊢
  have hl' : (m : Int) ≤ 1000 := by omega
  have HA := Lib.hid ha
  have HM := Lib.hid hm
  have HF := Lib.hid hf
  have HC := Lib.hid hc
  generalize hres : cs.map (mulR n f) = res
  have HRES := Lib.hid hres
  obtain ⟨i8, hi8, hz0, hz1, hz2⟩ := info_parts8
  have I8 := Lib.hid (⟨hi8, hz0, hz1, hz2⟩ : _ ∧ _ ∧ _ ∧ _)
  have HR0 := Lib.hid (RowAt.new w 80 (dig8 f))
  have HB0 := Lib.hid ((Below.refl _ w).alloc (Nat.le_refl _) (.cells (dig8 f) 80))
  clear ha hm hcap hf hc hres hi8 hz0 hz1 hz2
  go_enter Try.func82, Try.ntmps82
  go_wp2_with (first | (at_make; refine wpList_make_full _ rfl _ _ 62 rfl w.heap.size 80 i8 (.agg zero8) 8 Try.underlying62 I8.out.1 I8.out.2.1 I8.out.2.2.1 .i64 .i64 _ _ m rfl rfl rfl rfl (by rw [I8.out.2.2.2]; omega) (by unfold maxLen; omega) HB0.out.size ?_) | fail)
  intro w1 hown hgrow
  have HB1 := Lib.hid (HB0.out.grown hgrow HB0.out.size (fun k hk => by cases hk))
  have HR1 : Hid (RowAt w1 w.heap.size 80 (dig8 f)) := Lib.hid ((hgrow.block _ HR0.out.lt (by simp)).trans HR0.out)
  have HN1 := Lib.hid (show NewD w.heap.size w1 (.slice (some ⟨w.heap.size + 1, 0, none⟩) m m) ([] ++ zerosF m) from by
    unfold NewD
    rw [List.nil_append, show (zerosF m).length = m by simp [zerosF]]
    have := hown
    rw [flat_zeros] at this
    exact this)
  clear hown hgrow HR0 HB0
  go_wp2
  go_loopg [13] m (fun q i wr => ∃ (j : Nat) (A : List (Nat → Nat)), q + j = m ∧ i = .int .i64 j ∧ A ++ (cs.drop j).map (mulR n f) = res ∧ A.length = j ∧ NewD w.heap.size wr (.slice (some ⟨w.heap.size + 1, 0, none⟩) m m) (A ++ zerosF q) ∧ RowAt wr w.heap.size 80 (dig8 f) ∧ Below w.heap.size w wr)
  case atStart => exact ⟨0, [], by omega, rfl, HRES.out, rfl, HN1.out, HR1.out, HB1.out⟩
  case round =>
    clear HRES HN1 HR1 HB1
    obtain ⟨j, A, hq, rfl, hr, hA, hn, hr0, hb0⟩ := hrel
    have HRR := Lib.hid hr
    have HAL := Lib.hid hA
    have HN := Lib.hid hn
    have HR := Lib.hid hr0
    have HB := Lib.hid hb0
    clear hr hr0 hb0 hA hn
    by_cases hlt : j < m
    · obtain ⟨q', rfl⟩ : ∃ q', gk = q' + 1 := ⟨gk - 1, by omega⟩
      obtain ⟨gb, off, rfl, hgb, hc⟩ := HA.out (by omega)
      have hjx : j < cs.length := by rw [HM.out]; exact hlt
      have hr := HRR.out
      rw [List.drop_eq_getElem_cons hjx] at hr
      have hrow := HC.out _ (List.getElem_mem hjx)
      have hload := hc j hjx
      generalize cs[j] = x at *
      have HL : Hid (wr.rangeAt gb (off + j * 8) (cells8 x)) := Lib.hid (fun k u hu => (HB.out.cell (p := ⟨gb, off + j * 8 + k, none⟩) hgb).trans (hload k u hu))
      have HR2 := Lib.hid (show (A ++ [mulR n f x]) ++ (cs.drop (j + 1)).map (mulR n f) = res from by rw [← hr]; simp)
      have hji : (j : Int) < m := by omega
      have HRX := Lib.hid (HR.out.push (.cells (dig8 x) 80))
      have HBX := Lib.hid (HB.out.alloc HB.out.size (.cells (dig8 x) 80))
      have HXX := Lib.hid (RowAt.new wr 80 (dig8 x))
      have HNX := Lib.hid (HN.out.kept ((Below.refl _ _).alloc (Nat.le_refl _) (.cells (dig8 x) 80)))
      have HT := Lib.hid (times_row n f x HF.out hrow)
      have hset := zerosF_set A (mulR n f x) q'
      rw [HAL.out] at hset
      have HSET := Lib.hid hset
      have hlen : j < (A ++ zerosF (q' + 1)).length := by rw [List.length_append, HAL.out]; simp [zerosF]
      generalize mulR n f x = y at *
      clear hc hr hload hrow HRR hset
      go_wp2_with (first | (refine wpList_store_row rfl 80 _ _ rfl _ _ rfl rfl 80 _ (heap_at _ _ _ (by simp)) (by kernel_rfl) rfl (by kernel_rfl) ?_; rw [setRow_at _ _ _ _ _ (by simp)]) | (refine wpList_load8 rfl _ rfl gb (off + j * 8) rfl x HL.out ?_) | (refine wpList_load_row rfl 80 _ rfl _ rfl 80 _ _ _ (HRX.out) Try.underlying80 rfl (by kernel_rfl) ?_) | (refine wpList_load_row rfl 80 _ rfl _ rfl 80 _ _ _ (HXX.out) Try.underlying80 rfl (by kernel_rfl) ?_) | fail)
      refine (HT.out _).mono ?_
      rintro e w8 ⟨rfl, hb8⟩
      have HR8 := Lib.hid ((HRX.out).kept hb8)
      have HB8 := Lib.hid (HBX.out.trans (hb8.mono HBX.out.size))
      have HN8 := Lib.hid (HNX.out.kept hb8)
      have hrlt := HR8.out.lt
      clear hb8 HRX HBX HNX HXX HL HN HR HB
      go_wp2_with (first | (refine wpList_store8 rfl _ _ rfl w.heap.size (w.heap.size + 1) m m j (A ++ zerosF (q' + 1)) y HN8.out hlen (j * 8) rfl rfl rfl HB8.out ?_) | fail)
      intro w7 hn7 hb7 hk7 hs7
      rw [HSET.out] at hn7
      have HN7 := Lib.hid hn7
      have HB7 := Lib.hid hb7
      have HR7 : Hid (RowAt w7 w.heap.size 80 (dig8 f)) := Lib.hid ((hk7 _ (by omega)).trans HR8.out)
      clear hn7 hb7 hk7 hs7 HR8 HB8 HN8 HSET
      go_wp2
      go_roundg q'
      case measure => omega
      case rel => exact ⟨j + 1, A ++ [y], by omega, by go_num, HR2.out, by rw [List.length_append, HAL.out]; rfl, HN7.out, HR7.out, HB7.out⟩
    · obtain rfl : gk = 0 := by omega
      obtain rfl : j = m := by omega
      have hr := HRR.out
      rw [List.drop_eq_nil_of_le (by rw [HM.out]; exact Nat.le_refl _)] at hr
      have hr : A = res := by rw [← hr]; simp
      subst hr
      have hn := HN.out
      rw [show zerosF 0 = [] from rfl, List.append_nil] at hn
      have HN2 := Lib.hid hn
      clear hn HN
      go_wp2
      go_ret
      exact ⟨_, rfl, HN2.out, HB.out⟩
theorem rows_map {n : Nat} {f : Nat → Nat} {cs : List (Nat → Nat)} (hf : IsRow n f) (hc : Rows n cs) : Rows n (cs.map (mulR n f)) := fun x hx => by
  obtain ⟨y, hy, rfl⟩ := List.mem_map.1 hx
  exact isRow_mul hf (hc y hy)

/-- the texts of a row times each of a list -/
noncomputable def leftL (s : ByteArray) (L : List (List Nat)) : List (List Nat) := rowsL s.size ((rF L).map (mulR s.size (dg s)))
theorem leftL_len (s : ByteArray) (L : List (List Nat)) : (leftL s L).length = L.length := by simp [leftL, rowsL, rF]
noncomputable def leftB (s : ByteArray) (L : List (List Nat)) : Bool := goodB s && rowsB s.size L

end Go.Proofs.Ytnoepobbecobbaa
