/- Leads in the program: rows, heads. -/
import Derived.Test.YtpfnamiacagocaaM4
namespace Go.Proofs.Ytpfnamiacagocaa
open Go.RowKit
set_option linter.unusedSimpArgs false
set_option linter.unusedVariables false

theorem times_row (n : Nat) (f g : Nat → Nat) (hf : IsRow n f) (hg : IsRow n g) (w : World) :
    Calls Try.prog 108 #[.agg (dig8 f), .agg (dig8 g)] w fun e w' => e = .returned (.agg (dig8 (mulR n f g))) ∧ Below w.heap.size w w' :=
  times_any n f g (isDig_of hf) (fun i hi => ⟨hg.lo i hi, hg.hi i hi⟩) w

set_option maxRecDepth 100000 in
set_option maxHeartbeats 1000000 in
theorem end_any (n : Nat) (v : Value) (cs : List (Nat → Nat)) (f : Nat → Nat) (hf : IsRow n f) (hc : Rows n cs) (hl : cs.length ≤ 40) (w : World) (h : Digs w v cs) :
    Calls Try.prog 109 #[v, .agg (dig8 f)] w fun e w' => e = .returned (.agg (dig8 (endF n cs f))) ∧ Below w.heap.size w w' := by
  obtain ⟨m, hm⟩ : ∃ m, cs.length = m := ⟨_, rfl⟩
  obtain ⟨a, cap, rfl, hcap, ha⟩ := h
  have ha : 0 < m → ∃ g off, a = some ⟨g, off, none⟩ ∧ g < w.heap.size ∧ ∀ i (h : i < cs.length), w.rangeAt g (off + i * 8) (cells8 cs[i]) := fun h0 => ha (by rw [hm]; exact h0)
  rw [hm] at hl ⊢
  have hl' : (m : Int) ≤ 40 := by omega
  have HA := Lib.hid ha
  have HM := Lib.hid hm
  have HF := Lib.hid hf
  have HC := Lib.hid hc
  generalize hres : endF n cs f = res
  have HRES := Lib.hid hres
  have HR0 := Lib.hid ((RowAt.new w 68 (dig8 f)).push (.cells zero8 68))
  have HZ0 : Hid (RowAt ((w.alloc (.cells (dig8 f) 68)).alloc (.cells zero8 68)) (w.heap.size + 1) 68 zero8) := Lib.hid (by
    have := RowAt.new (w.alloc (.cells (dig8 f) 68)) 68 zero8
    simpa using this)
  have HB0 := Lib.hid (((Below.refl _ w).alloc (Nat.le_refl _) (.cells (dig8 f) 68)).alloc (by simp) (.cells zero8 68))
  clear ha hm hcap hf hc hres
  go_enter Try.func109, Try.ntmps109
  go_wp2
  go_loopg [9] m (fun q i wr => ∃ (j : Nat) (g : Nat → Nat), q + j = m ∧ i = .int .i64 j ∧ IsRow n g ∧ endF n (cs.drop j) g = res ∧ RowAt wr w.heap.size 68 (dig8 g) ∧ RowAt wr (w.heap.size + 1) 68 zero8 ∧ Below w.heap.size w wr)
  case atStart => exact ⟨0, f, by omega, rfl, HF.out, HRES.out, HR0.out, HZ0.out, HB0.out⟩
  case round =>
    clear HF HRES HR0 HZ0 HB0
    obtain ⟨j, g, hq, rfl, hg, hr, hr0, hz0, hb0⟩ := hrel
    have HG := Lib.hid hg
    have HRR := Lib.hid hr
    have HR := Lib.hid hr0
    have HZ := Lib.hid hz0
    have HB := Lib.hid hb0
    clear hg hr hr0 hz0 hb0
    by_cases hlt : j < m
    · obtain ⟨q', rfl⟩ : ∃ q', gk = q' + 1 := ⟨gk - 1, by omega⟩
      obtain ⟨gb, off, rfl, hgb, hc⟩ := HA.out (by omega)
      have hjx : j < cs.length := by rw [HM.out]; exact hlt
      have hr := HRR.out
      rw [List.drop_eq_getElem_cons hjx] at hr
      have hrow := HC.out _ (List.getElem_mem hjx)
      have hload := hc j hjx
      generalize cs[j] = x at *
      have HL : Hid (wr.rangeAt gb (off + j * 8) (cells8 x)) := Lib.hid (fun k u hu => (HB.out.cell (p := ⟨gb, off + j * 8 + k, none⟩) hgb).trans (hload k u hu))
      have HR2 := Lib.hid (show endF n (cs.drop (j + 1)) (mulR n g x) = res from hr)
      have HX := Lib.hid hrow
      have hji : (j : Int) < m := by omega
      have HRX := Lib.hid (HR.out.push (.cells (dig8 x) 68))
      have HZX := Lib.hid (HZ.out.push (.cells (dig8 x) 68))
      have HBX := Lib.hid (HB.out.alloc HB.out.size (.cells (dig8 x) 68))
      have HXX := Lib.hid (RowAt.new wr 68 (dig8 x))
      clear hc hr hload hrow HRR
      go_wp2_with (first | (refine wpList_store_row rfl 68 _ _ rfl _ _ rfl rfl 68 _ (heap_at _ _ _ (by simp)) (by kernel_rfl) rfl (by kernel_rfl) ?_; rw [setRow_at _ _ _ _ _ (by simp)]) | (refine wpList_load8 rfl _ rfl gb (off + j * 8) rfl x HL.out ?_) | (refine wpList_load_row rfl 68 _ rfl _ rfl 68 _ _ _ (HRX.out) Try.underlying68 rfl (by kernel_rfl) ?_) | (refine wpList_load_row rfl 68 _ rfl _ rfl 68 _ _ _ (HXX.out) Try.underlying68 rfl (by kernel_rfl) ?_) | fail)
      refine (times_row n g x HG.out HX.out _).mono ?_
      rintro e w5 ⟨rfl, hb5⟩
      have HR5 := Lib.hid (HRX.out.kept hb5)
      have HZ5 := Lib.hid (HZX.out.kept hb5)
      have HB5 := Lib.hid (HBX.out.trans (hb5.mono HBX.out.size))
      have HG5 := Lib.hid (isRow_mul HG.out HX.out)
      clear hb5 HRX HZX HBX HXX HR HZ HB HL
      go_wp2_with (first | (refine wpList_store_row rfl 68 _ _ rfl _ _ rfl rfl 68 _ (HR5.out) (by kernel_rfl) rfl (by kernel_rfl) ?_) | fail)
      go_roundg q'
      case measure => omega
      case rel => exact ⟨j + 1, mulR n g x, by omega, by go_num, HG5.out, HR2.out, HR5.out.row _, HZ5.out.rowOther _ (by omega), below_setRow HB5.out (Nat.le_refl _) _⟩
    · obtain rfl : gk = 0 := by omega
      obtain rfl : j = m := by omega
      have hr := HRR.out
      rw [List.drop_eq_nil_of_le (by rw [HM.out]; exact Nat.le_refl _)] at hr
      have hr : g = res := hr
      subst hr
      go_wp2_with (first | (refine wpList_load_row rfl 68 _ rfl _ rfl 68 _ _ _ (HR.out) Try.underlying68 rfl (by kernel_rfl) ?_) | (refine wpList_store_row rfl 68 _ _ rfl _ _ rfl rfl 68 _ (HZ.out) (by kernel_rfl) rfl (by kernel_rfl) ?_) | fail)
      refine bodyPost_ret (results_cell_row rfl _ _ (w.heap.size + 1) 68 (dig8 g) (0, 0) _ rfl (HZ.out.row _) Try.underlying68 rfl (by kernel_rfl)) rfl ⟨rfl, below_setRow HB.out (by omega) _⟩

/-- a slice of rows of its own -/
def RowsOut (fs : List (Nat → Nat)) (w : World) (e : Ending) (w' : World) : Prop := ∃ v, e = .returned v ∧ NewD w.heap.size w' v fs ∧ Below w.heap.size w w'

set_option maxRecDepth 100000 in
set_option maxHeartbeats 1000000 in
theorem rows_any (n : Nat) (v : Value) (cs : List (Nat → Nat)) (f : Nat → Nat) (hf : IsRow n f) (hc : Rows n cs) (hl : cs.length ≤ 40) (w : World) (h : Digs w v cs) :
    Calls Try.prog 71 #[v, .agg (dig8 f)] w (RowsOut (leadF n cs f) w) := by
  obtain ⟨m, hm⟩ : ∃ m, cs.length = m := ⟨_, rfl⟩
  obtain ⟨a, cap, rfl, hcap, ha⟩ := h
  have ha : 0 < m → ∃ g off, a = some ⟨g, off, none⟩ ∧ g < w.heap.size ∧ ∀ i (h : i < cs.length), w.rangeAt g (off + i * 8) (cells8 cs[i]) := fun h0 => ha (by rw [hm]; exact h0)
  rw [hm] at hl ⊢
  have hl' : (m : Int) ≤ 40 := by omega
  have HA := Lib.hid ha
  have HM := Lib.hid hm
  have HF := Lib.hid hf
  have HC := Lib.hid hc
  generalize hres : leadF n cs f = res
  have HRES := Lib.hid hres
  obtain ⟨i8, hi8, hz0, hz1, hz2⟩ := info_parts8
  have I8 := Lib.hid (⟨hi8, hz0, hz1, hz2⟩ : _ ∧ _ ∧ _ ∧ _)
  have HR0 := Lib.hid (RowAt.new w 68 (dig8 f))
  have HB0 := Lib.hid ((Below.refl _ w).alloc (Nat.le_refl _) (.cells (dig8 f) 68))
  clear ha hm hcap hf hc hres hi8 hz0 hz1 hz2
  go_enter Try.func71, Try.ntmps71
  go_wp2_with (first | (at_make; refine wpList_make_full _ rfl _ _ 65 rfl w.heap.size 68 i8 (.agg zero8) 8 Try.underlying65 I8.out.1 I8.out.2.1 I8.out.2.2.1 .i64 .i64 _ _ m rfl rfl rfl rfl (by rw [I8.out.2.2.2]; omega) (by unfold maxLen; omega) HB0.out.size ?_) | fail)
  intro w1 hown hgrow
  have HB1 := Lib.hid (HB0.out.grown hgrow HB0.out.size (fun k hk => by cases hk))
  have HR1 : Hid (RowAt w1 w.heap.size 68 (dig8 f)) := Lib.hid ((hgrow.block _ HR0.out.lt (by simp)).trans HR0.out)
  have HN1 := Lib.hid (show NewD w.heap.size w1 (.slice (some ⟨w.heap.size + 1, 0, none⟩) m m) ([] ++ zerosF m) from by
    unfold NewD
    rw [List.nil_append, show (zerosF m).length = m by simp [zerosF]]
    have := hown
    rw [flat_zeros] at this
    exact this)
  clear hown hgrow HR0 HB0
  go_wp2
  go_loopg [13] m (fun q i wr => ∃ (j : Nat) (g : Nat → Nat) (A : List (Nat → Nat)), q + j = m ∧ i = .int .i64 j ∧ IsRow n g ∧ A ++ leadF n (cs.drop j) g = res ∧ A.length = j ∧ NewD w.heap.size wr (.slice (some ⟨w.heap.size + 1, 0, none⟩) m m) (A ++ zerosF q) ∧ RowAt wr w.heap.size 68 (dig8 g) ∧ Below w.heap.size w wr)
  case atStart => exact ⟨0, f, [], by omega, rfl, HF.out, HRES.out, rfl, HN1.out, HR1.out, HB1.out⟩
  case round =>
    clear HF HRES HN1 HR1 HB1
    obtain ⟨j, g, A, hq, rfl, hg, hr, hA, hn, hr0, hb0⟩ := hrel
    have HG := Lib.hid hg
    have HRR := Lib.hid hr
    have HAL := Lib.hid hA
    have HN := Lib.hid hn
    have HR := Lib.hid hr0
    have HB := Lib.hid hb0
    clear hg hr hr0 hb0 hA hn
    by_cases hlt : j < m
    · obtain ⟨q', rfl⟩ : ∃ q', gk = q' + 1 := ⟨gk - 1, by omega⟩
      obtain ⟨gb, off, rfl, hgb, hc⟩ := HA.out (by omega)
      have hjx : j < cs.length := by rw [HM.out]; exact hlt
      have hr := HRR.out
      rw [List.drop_eq_getElem_cons hjx] at hr
      have hrow := HC.out _ (List.getElem_mem hjx)
      have hload := hc j hjx
      generalize cs[j] = x at *
      have HL : Hid (wr.rangeAt gb (off + j * 8) (cells8 x)) := Lib.hid (fun k u hu => (HB.out.cell (p := ⟨gb, off + j * 8 + k, none⟩) hgb).trans (hload k u hu))
      have HR2 := Lib.hid (show (A ++ [g]) ++ leadF n (cs.drop (j + 1)) (mulR n g x) = res from by rw [← hr]; simp [leadF])
      have HX := Lib.hid hrow
      have hji : (j : Int) < m := by omega
      have HRX := Lib.hid (HR.out.push (.cells (dig8 x) 68))
      have HBX := Lib.hid (HB.out.alloc HB.out.size (.cells (dig8 x) 68))
      have HXX := Lib.hid (RowAt.new wr 68 (dig8 x))
      have HNX := Lib.hid (HN.out.kept ((Below.refl _ _).alloc (Nat.le_refl _) (.cells (dig8 x) 68)))
      have hgrlt := (HN.out.lt (w.heap.size + 1) rfl).2
      have hrlt := HR.out.lt
      have hset := zerosF_set A g q'
      rw [HAL.out] at hset
      have HSET := Lib.hid hset
      have hlen : j < (A ++ zerosF (q' + 1)).length := by rw [List.length_append, HAL.out]; simp [zerosF]
      clear hc hr hload hrow HRR hset
      go_wp2_with (first | (refine wpList_store_row rfl 68 _ _ rfl _ _ rfl rfl 68 _ (heap_at _ _ _ (by simp)) (by kernel_rfl) rfl (by kernel_rfl) ?_; rw [setRow_at _ _ _ _ _ (by simp)]) | (refine wpList_load8 rfl _ rfl gb (off + j * 8) rfl x HL.out ?_) | (refine wpList_load_row rfl 68 _ rfl _ rfl 68 _ _ _ (HRX.out) Try.underlying68 rfl (by kernel_rfl) ?_) | (refine wpList_store8 rfl _ _ rfl w.heap.size (w.heap.size + 1) m m j (A ++ zerosF (q' + 1)) g HNX.out hlen (j * 8) rfl rfl rfl HBX.out ?_) | fail)
      intro w7 hn7 hb7 hk7 hs7
      rw [HSET.out] at hn7
      have HN7 := Lib.hid hn7
      have HB7 := Lib.hid hb7
      have HR7 : Hid (RowAt w7 w.heap.size 68 (dig8 g)) := Lib.hid ((hk7 _ (by omega)).trans HRX.out)
      have HX7 : Hid (RowAt w7 wr.heap.size 68 (dig8 x)) := Lib.hid ((hk7 _ (by omega)).trans HXX.out)
      clear hn7 hb7 hk7 hs7 HNX HBX HRX HXX HL HN HR HB HSET
      go_wp2_with (first | (refine wpList_load_row rfl 68 _ rfl _ rfl 68 _ _ _ (HR7.out) Try.underlying68 rfl (by kernel_rfl) ?_) | (refine wpList_load_row rfl 68 _ rfl _ rfl 68 _ _ _ (HX7.out) Try.underlying68 rfl (by kernel_rfl) ?_) | fail)
      refine (times_row n g x HG.out HX.out _).mono ?_
      rintro e w8 ⟨rfl, hb8⟩
      have HR8 := Lib.hid (HR7.out.kept hb8)
      have HB8 := Lib.hid (HB7.out.trans (hb8.mono HB7.out.size))
      have HN8 := Lib.hid (HN7.out.kept hb8)
      have HG8 := Lib.hid (isRow_mul HG.out HX.out)
      clear hb8 HR7 HB7 HN7 HX7
      go_wp2_with (first | (refine wpList_store_row rfl 68 _ _ rfl _ _ rfl rfl 68 _ (HR8.out) (by kernel_rfl) rfl (by kernel_rfl) ?_) | fail)
      go_roundg q'
      case measure => omega
      case rel => exact ⟨j + 1, mulR n g x, A ++ [g], by omega, by go_num, HG8.out, HR2.out, by rw [List.length_append, HAL.out]; rfl, HN8.out.setRowOther _ _ (by simp [Value.ownBlock]), HR8.out.row _, below_setRow HB8.out (Nat.le_refl _) _⟩
    · obtain rfl : gk = 0 := by omega
      obtain rfl : j = m := by omega
      have hr := HRR.out
      rw [List.drop_eq_nil_of_le (by rw [HM.out]; exact Nat.le_refl _)] at hr
      have hr : A = res := by rw [← hr]; simp [leadF]
      subst hr
      have hn := HN.out
      rw [show zerosF 0 = [] from rfl, List.append_nil] at hn
      have HN2 := Lib.hid hn
      clear hn HN
      go_wp2
      go_ret
      exact ⟨_, rfl, HN2.out, HB.out⟩
end Go.Proofs.Ytpfnamiacagocaa
