/- The changes around a list of rows, the program. -/
import Derived.Test.YtnoepobbecobbaaUH
import Derived.Test.YtnoepobbecobbaaSE
namespace Go.Proofs.Ytnoepobbecobbaa
open Go.RowKit
set_option linter.unusedSimpArgs false
set_option linter.unusedVariables false

set_option maxRecDepth 100000 in
set_option maxHeartbeats 1000000 in
theorem changesAround_any (n : Nat) (v : Value) (fs : List (Nat → Nat)) (hr : Rows n fs) (hl : fs.length ≤ 1000) (w : World) (h : Digs w v fs) :
    Calls Try.prog 74 #[v] w (TextsAny (rndL n fs) (rndB n fs) w) := by
  unfold TextsAny
  obtain ⟨m, hm⟩ : ∃ m, fs.length = m := ⟨_, rfl⟩
  by_cases h2 : fs.length < 2
  · have hB := rnd_two hr h2
    have hL : rndL n fs = [] := by unfold rndL; rw [hB]; rfl
    rw [hB, hL]
    obtain ⟨a, cap, rfl, hcap, ha⟩ := h
    rw [hm] at h2 ⊢
    have hmi : (m : Int) < 2 := by omega
    clear hr hl ha hcap hm hB hL
    go_enter Try.func74, Try.ntmps74
    go_wp2
    go_ret2
    exact ⟨_, rfl, New.nil _ _ _, Below.refl _ _⟩
  · obtain ⟨a, cap, rfl, hcap, ha⟩ := h
    have ha : 0 < m → ∃ g off, a = some ⟨g, off, none⟩ ∧ g < w.heap.size ∧ ∀ i (h : i < fs.length), w.rangeAt g (off + i * 8) (cells8 fs[i]) := fun h0 => ha (by rw [hm]; exact h0)
    rw [hm] at h2 ⊢
    have hmi : (m : Int) ≤ 1000 := by omega
    have hm2 : ¬ (m : Int) < 2 := by omega
    have HA := Lib.hid ha
    have HR := Lib.hid hr
    have HM := Lib.hid hm
    obtain ⟨i0, hi0, hz0, hz1, hz2⟩ := info_parts infoText
    have I0 := Lib.hid (⟨hi0, hz0, hz1, hz2⟩ : _ ∧ _ ∧ _ ∧ _)
    generalize hres : rndB n fs = res
    have HRES := Lib.hid hres
    have HML : Hid (m ≤ 1000) := Lib.hid (by omega)
    clear ha hm hcap hr hl hi0 hz0 hz1 hz2 hres
    go_enter Try.func74, Try.ntmps74
    go_wp2_with (first | (at_make; refine wpList_make_full _ rfl _ _ 22 rfl w.heap.size 9 i0 (.string ⟨#[]⟩) 1 Try.underlying22 I0.out.1 I0.out.2.1 I0.out.2.2.1 .i64 .i64 _ _ m rfl rfl rfl rfl (by rw [I0.out.2.2.2]; omega) (by unfold maxLen; omega) (Nat.le_refl _) ?_) | fail)
    intro w1 hown hgrow
    have HB1 := Lib.hid ((Below.refl _ w).grown hgrow (Nat.le_refl _) (fun k hk => by cases hk))
    have HN1 : Hid (New w.heap.size w1 9 (.slice (some ⟨w.heap.size, 0, none⟩) m m) (strs [] ++ blanks m)) := Lib.hid (by
      have := hown
      rw [toList_madeCells_one] at this
      exact New.of_row this (by simp [strs, blanks]))
    clear hown hgrow
    go_wp2
    go_loopg [17] m (fun q i wr => ∃ j : Nat, q + j = m ∧ i = .int .i64 j ∧ nxB n fs j = true ∧ New w.heap.size wr 9 (.slice (some ⟨w.heap.size, 0, none⟩) m m) (strs (nxL n fs j) ++ blanks q) ∧ Below w.heap.size w wr)
    case atStart => exact ⟨0, by omega, rfl, rfl, HN1.out, HB1.out⟩
    case round =>
      clear HN1 HB1
      obtain ⟨j, hq, rfl, hB, hn, hb⟩ := hrel
      have HQ := Lib.hid hq
      have HBB := Lib.hid hB
      have HN := Lib.hid hn
      have HB := Lib.hid hb
      clear hq hB hn hb
      by_cases hlt : j < m
      · obtain ⟨q', rfl⟩ : ∃ q', gk = q' + 1 := ⟨gk - 1, by have := HQ.out; omega⟩
        obtain ⟨gb, off, rfl, hgb, hc⟩ := HA.out (by omega)
        obtain ⟨k2, hk2⟩ : ∃ k2, (j + 1) % m = k2 := ⟨_, rfl⟩
        have hk2m : k2 < m := by rw [← hk2]; exact Nat.mod_lt _ (by omega)
        have hjx : j < fs.length := by rw [HM.out]; exact hlt
        have hkx : k2 < fs.length := by rw [HM.out]; exact hk2m
        have hr1 := HR.out _ (List.getElem_mem hjx)
        have hr2 := HR.out _ (List.getElem_mem hkx)
        have hnx := nxt_at (n := n) hjx hkx (by rw [HM.out]; exact hk2)
        have hmod : ((j : Int) + 1) % (m : Int) = (k2 : Int) := by rw [← hk2]; simp
        have g4 : Int.tmod ((j : Int) + 1) (m : Int) = (k2 : Int) := by rw [Int.tmod_eq_emod_of_nonneg (by omega)]; exact hmod
        have hload := hc j hjx
        have hload2 := hc k2 hkx
        generalize fs[j] = x at *
        generalize fs[k2] = y at *
        have HCALL := Lib.hid (changeTo_any n x y hr1 hr2)
        rw [← hnx] at HCALL
        have hji : (j : Int) < (m : Int) := by omega
        have hki : (k2 : Int) < (m : Int) := by omega
        have hm0 : ¬ ((m : Int) = 0) := by omega
        have hm0b : ((m : Int) == 0) = false := by rw [beq_eq_false_iff_ne]; exact hm0
        have hm0n : ¬ m = 0 := by omega
        have hwA : IntKind.i64.wrap ((j : Int) + 1) = (j : Int) + 1 := IntWalk.i64_in _ ⟨by omega, by omega⟩
        have hwB : IntKind.i64.wrap (k2 : Int) = (k2 : Int) := IntWalk.i64_in _ ⟨by omega, by omega⟩
        have hk0 : (0 : Int) ≤ (k2 : Int) := by omega
        have hwC : IntKind.i64.wrap (Int.tmod ((j : Int) + 1) (m : Int)) = (k2 : Int) := by rw [g4]; exact hwB
        have hm0m : (m == 0) = false := by rw [beq_eq_false_iff_ne]; exact hm0n
        have HL : Hid (wr.rangeAt gb (off + j * 8) (cells8 x)) := Lib.hid (fun k u hu => (HB.out.cell (p := ⟨gb, off + j * 8 + k, none⟩) hgb).trans (hload k u hu))
        have HL2 : Hid (∀ i, i < 8 → wr.cell? ⟨gb, off + k2 * 8 + i, none⟩ = some (.int .u8 (y i))) := Lib.hid (fun i hi => (HB.out.cell (p := ⟨gb, off + k2 * 8 + i, none⟩) hgb).trans (hload2 i _ (by
          have := dig8_get y i hi
          rw [← Array.getElem?_toList] at this
          exact this)))
        have hgr : gb < wr.heap.size := Nat.lt_of_lt_of_le hgb HB.out.size
        have HXX := Lib.hid (RowAt.new wr 80 (dig8 x))
        have HSK : Hid (∀ w', Below (wr.heap.size + 1) (wr.alloc (.cells (dig8 x) 80)) w' → (w'.cell? ⟨wr.heap.size, 0, none⟩ = some (.int .u8 (x 0)) ∧ w'.cell? ⟨wr.heap.size, 1, none⟩ = some (.int .u8 (x 1)) ∧ w'.cell? ⟨wr.heap.size, 2, none⟩ = some (.int .u8 (x 2)) ∧ w'.cell? ⟨wr.heap.size, 3, none⟩ = some (.int .u8 (x 3)) ∧ w'.cell? ⟨wr.heap.size, 4, none⟩ = some (.int .u8 (x 4)) ∧ w'.cell? ⟨wr.heap.size, 5, none⟩ = some (.int .u8 (x 5)) ∧ w'.cell? ⟨wr.heap.size, 6, none⟩ = some (.int .u8 (x 6)) ∧ w'.cell? ⟨wr.heap.size, 7, none⟩ = some (.int .u8 (x 7)) ∧ w'.cell? ⟨gb, off + k2 * 8, none⟩ = some (.int .u8 (y 0)) ∧ w'.cell? ⟨gb, off + k2 * 8 + 1, none⟩ = some (.int .u8 (y 1)) ∧ w'.cell? ⟨gb, off + k2 * 8 + 2, none⟩ = some (.int .u8 (y 2)) ∧ w'.cell? ⟨gb, off + k2 * 8 + 3, none⟩ = some (.int .u8 (y 3)) ∧ w'.cell? ⟨gb, off + k2 * 8 + 4, none⟩ = some (.int .u8 (y 4)) ∧ w'.cell? ⟨gb, off + k2 * 8 + 5, none⟩ = some (.int .u8 (y 5)) ∧ w'.cell? ⟨gb, off + k2 * 8 + 6, none⟩ = some (.int .u8 (y 6)) ∧ w'.cell? ⟨gb, off + k2 * 8 + 7, none⟩ = some (.int .u8 (y 7)) ∧ Below (wr.heap.size + 1) (wr.alloc (.cells (dig8 x) 80)) w')) := Lib.hid (fun w' h => by
          have hx := HXX.out.keep h (by omega)
          have h0 : ∀ i, i < 8 → w'.cell? ⟨gb, off + k2 * 8 + i, none⟩ = some (.int .u8 (y i)) := fun i hi =>
            ((h.cell (p := ⟨gb, off + k2 * 8 + i, none⟩) (show gb < wr.heap.size + 1 by omega)).trans ((((Below.refl _ wr).alloc (Nat.le_refl _) (.cells (dig8 x) 80)).cell (p := ⟨gb, off + k2 * 8 + i, none⟩) hgr))).trans (HL2.out i hi)
          exact ⟨hx.cell 0 rfl, hx.cell 1 rfl, hx.cell 2 rfl, hx.cell 3 rfl, hx.cell 4 rfl, hx.cell 5 rfl, hx.cell 6 rfl, hx.cell 7 rfl, h0 0 (by omega), h0 1 (by omega), h0 2 (by omega), h0 3 (by omega), h0 4 (by omega), h0 5 (by omega), h0 6 (by omega), h0 7 (by omega), h⟩)
        have HXB : Hid (∀ W, Below (wr.heap.size + 1) (wr.alloc (.cells (dig8 x) 80)) W → Below wr.heap.size wr W) := Lib.hid (fun W h => ((Below.refl _ wr).alloc (Nat.le_refl _) _).trans (h.mono (by omega)))
        have HW0 : Hid (Below (wr.heap.size + 1) (wr.alloc (.cells (dig8 x) 80)) (wr.alloc (.cells (dig8 x) 80)).drew) := Lib.hid (Below.refl _ _).drew
        have hwsz : (wr.alloc (.cells (dig8 x) 80)).drew.heap.size = wr.heap.size + 1 := by simp [World.drew]
        have HNO := Lib.hid (fun e => rnd_no (n := n) hjx e)
        have HYES := Lib.hid (fun l (e : nxt n fs j = some l) => nxB_succ (n := n) HBB.out e)
        clear hc hr1 hr2 hnx hjx hkx hmod hk2 hload hload2
        cases hx : nxt n fs j with
        | none =>
          have HF : Hid (res = false) := Lib.hid (by rw [← HRES.out]; exact HNO.out hx)
          rw [hx] at HCALL
          simp only [chEnd] at HCALL
          clear hx HYES HNO
          go_wp2_with (first | (refine wpList_store_row rfl 80 _ _ rfl _ _ rfl rfl 80 _ (heap_at _ _ _ (by simp)) (by kernel_rfl) rfl (by kernel_rfl) ?_; rw [setRow_at _ _ _ _ _ (by simp)]) | (refine wpList_load8 rfl _ rfl gb (off + j * 8) rfl x HL.out ?_) | fail)
          go_region_held3 (fun w' => w'.cell? ⟨wr.heap.size, 0, none⟩ = some (.int .u8 (x 0)) ∧ w'.cell? ⟨wr.heap.size, 1, none⟩ = some (.int .u8 (x 1)) ∧ w'.cell? ⟨wr.heap.size, 2, none⟩ = some (.int .u8 (x 2)) ∧ w'.cell? ⟨wr.heap.size, 3, none⟩ = some (.int .u8 (x 3)) ∧ w'.cell? ⟨wr.heap.size, 4, none⟩ = some (.int .u8 (x 4)) ∧ w'.cell? ⟨wr.heap.size, 5, none⟩ = some (.int .u8 (x 5)) ∧ w'.cell? ⟨wr.heap.size, 6, none⟩ = some (.int .u8 (x 6)) ∧ w'.cell? ⟨wr.heap.size, 7, none⟩ = some (.int .u8 (x 7)) ∧ w'.cell? ⟨gb, off + k2 * 8, none⟩ = some (.int .u8 (y 0)) ∧ w'.cell? ⟨gb, off + k2 * 8 + 1, none⟩ = some (.int .u8 (y 1)) ∧ w'.cell? ⟨gb, off + k2 * 8 + 2, none⟩ = some (.int .u8 (y 2)) ∧ w'.cell? ⟨gb, off + k2 * 8 + 3, none⟩ = some (.int .u8 (y 3)) ∧ w'.cell? ⟨gb, off + k2 * 8 + 4, none⟩ = some (.int .u8 (y 4)) ∧ w'.cell? ⟨gb, off + k2 * 8 + 5, none⟩ = some (.int .u8 (y 5)) ∧ w'.cell? ⟨gb, off + k2 * 8 + 6, none⟩ = some (.int .u8 (y 6)) ∧ w'.cell? ⟨gb, off + k2 * 8 + 7, none⟩ = some (.int .u8 (y 7)) ∧ Below (wr.heap.size + 1) (wr.alloc (.cells (dig8 x) 80)) w') (first | exact HSK.out _ (by with_reducible exact HW0.out) | exact HSK.out _ (by with_reducible exact hb5)) (first | (go_at_call 123; refine (HCALL.out _).mono ?_; rintro e5 w5 ⟨rfl, hbb5⟩; have hb5 : Below (wr.heap.size + 1) (wr.alloc (.cells (dig8 x) 80)) w5 := HW0.out.trans (hbb5.mono (by rw [hwsz]; exact Nat.le_refl _))) | fail)
          have HB5 := Lib.hid (HB.out.trans ((HXB.out _ hb5).mono HB.out.size))
          clear hb5 hbb5
          go_wp2
          go_ret2
          exact ⟨_, by rw [HF.out]; rfl, by unfold rndL; rw [HRES.out, HF.out]; exact New.nil _ _ _, HB5.out⟩
        | some l =>
          obtain ⟨hy1, hy2⟩ := HYES.out l hx
          have HY1 := Lib.hid hy1
          have hset := blanks_set (nxL n fs j) l q'
          rw [nxL_len, ← hy2] at hset
          have HSET := Lib.hid hset
          rw [hx] at HCALL
          simp only [chEnd] at HCALL
          have hnl := nxL_len n fs j
          have HLEN : Hid ((nxL n fs j).length + q' + 1 = m) := Lib.hid (by rw [hnl]; have := HQ.out; omega)
          clear hx HYES HNO hy1 hy2 hset
          generalize txt l = tl at *
          go_wp2_with (first | (refine wpList_store_row rfl 80 _ _ rfl _ _ rfl rfl 80 _ (heap_at _ _ _ (by simp)) (by kernel_rfl) rfl (by kernel_rfl) ?_; rw [setRow_at _ _ _ _ _ (by simp)]) | (refine wpList_load8 rfl _ rfl gb (off + j * 8) rfl x HL.out ?_) | fail)
          go_region_held3 (fun w' => w'.cell? ⟨wr.heap.size, 0, none⟩ = some (.int .u8 (x 0)) ∧ w'.cell? ⟨wr.heap.size, 1, none⟩ = some (.int .u8 (x 1)) ∧ w'.cell? ⟨wr.heap.size, 2, none⟩ = some (.int .u8 (x 2)) ∧ w'.cell? ⟨wr.heap.size, 3, none⟩ = some (.int .u8 (x 3)) ∧ w'.cell? ⟨wr.heap.size, 4, none⟩ = some (.int .u8 (x 4)) ∧ w'.cell? ⟨wr.heap.size, 5, none⟩ = some (.int .u8 (x 5)) ∧ w'.cell? ⟨wr.heap.size, 6, none⟩ = some (.int .u8 (x 6)) ∧ w'.cell? ⟨wr.heap.size, 7, none⟩ = some (.int .u8 (x 7)) ∧ w'.cell? ⟨gb, off + k2 * 8, none⟩ = some (.int .u8 (y 0)) ∧ w'.cell? ⟨gb, off + k2 * 8 + 1, none⟩ = some (.int .u8 (y 1)) ∧ w'.cell? ⟨gb, off + k2 * 8 + 2, none⟩ = some (.int .u8 (y 2)) ∧ w'.cell? ⟨gb, off + k2 * 8 + 3, none⟩ = some (.int .u8 (y 3)) ∧ w'.cell? ⟨gb, off + k2 * 8 + 4, none⟩ = some (.int .u8 (y 4)) ∧ w'.cell? ⟨gb, off + k2 * 8 + 5, none⟩ = some (.int .u8 (y 5)) ∧ w'.cell? ⟨gb, off + k2 * 8 + 6, none⟩ = some (.int .u8 (y 6)) ∧ w'.cell? ⟨gb, off + k2 * 8 + 7, none⟩ = some (.int .u8 (y 7)) ∧ Below (wr.heap.size + 1) (wr.alloc (.cells (dig8 x) 80)) w') (first | exact HSK.out _ (by with_reducible exact HW0.out) | exact HSK.out _ (by with_reducible exact hb5)) (first | (go_at_call 123; refine (HCALL.out _).mono ?_; rintro e5 w5 ⟨rfl, hbb5⟩; have hb5 : Below (wr.heap.size + 1) (wr.alloc (.cells (dig8 x) 80)) w5 := HW0.out.trans (hbb5.mono (by rw [hwsz]; exact Nat.le_refl _))) | fail)
          have HX5 := Lib.hid (HXB.out _ hb5)
          have HB5 := Lib.hid (HB.out.trans (HX5.out.mono HB.out.size))
          have HN5 := Lib.hid (HN.out.kept HX5.out)
          clear hb5 hbb5 HN HB HX5 HXX HSK HXB HW0 HL HL2
          obtain ⟨u, hu⟩ : ∃ u, (strs (nxL n fs j) ++ blanks (q' + 1))[j]? = some u := ⟨_, List.getElem?_eq_getElem (by rw [List.length_append, strs_len, hnl]; simp [blanks])⟩
          have c2 := HN5.out.own.cell j u hu
          have f2 := HN5.out.own.free j
          have HN6 := Lib.hid (HN5.out.own.set j (.string tl))
          clear hu
          go_wp2
          go_roundg q'
          case measure => have := HQ.out; omega
          case rel => exact ⟨j + 1, by have := HQ.out; omega, by go_num, HY1.out, ⟨by have := HN6.out; rw [HSET.out] at this; exact this, HN5.out.base⟩, HB5.out.setCell (Nat.le_refl _) _⟩
      · obtain rfl : j = m := by have := HQ.out; omega
        obtain rfl : gk = 0 := by have := HQ.out; omega
        have hfl := HM.out
        have HT : Hid (res = true) := Lib.hid (by rw [← HRES.out]; exact rnd_yes (by omega) (by rw [hfl]; exact HBB.out))
        have hji : (0 : Int) < (j : Int) := by omega
        have HL : Hid (rndL n fs = nxL n fs j) := Lib.hid (by unfold rndL; rw [HRES.out, HT.out, hfl]; rfl)
        have hn := HN.out
        rw [show blanks 0 = [] from rfl, List.append_nil] at hn
        have HN2 := Lib.hid hn
        clear hn HN
        go_wp2
        go_ret2
        exact ⟨_, by rw [HT.out]; rfl, by rw [HL.out]; exact HN2.out, HB.out⟩

set_option maxRecDepth 100000 in
set_option maxHeartbeats 1000000 in
theorem iChangesIn_any (v : Value) (L : List (List Nat)) (w : World) (h : Txts w v L) (hl : L.length ≤ 2000000) (hs : ∀ l ∈ L, l.length ≤ maxLen) :
    Calls Try.prog 37 #[v] w (TextsAny (chgL L) (areB L) w) := by
  have HC := Lib.hid (rowListOf_any v L w h hl hs)
  unfold ListOut6 at HC
  unfold TextsAny
  cases hb : listB L
  · obtain ⟨e1, e2⟩ := are_no hb
    rw [e1, e2]
    rw [hb] at HC
    clear h hl hs hb e1 e2
    go_enter Try.func37, Try.ntmps37
    go_wp2_with fail
    refine HC.out.mono ?_
    rintro e w1 ⟨v1, rfl, hn1, hb1⟩
    go_wp2
    go_ret2
    exact ⟨_, rfl, New.nil _ _ _, hb1⟩
  · obtain ⟨e1, e2⟩ := are_yes hb
    have HX := Lib.hid (fun v' w' (h' : Digs w' v' (rF L)) => changesAround_any (firstN L) v' (rF L) (rowsB_rows hb) (by rw [rF_len]; have := rowsB_len hb; omega) w' h')
    rw [← e1, ← e2] at HX
    rw [hb, if_pos rfl] at HC
    generalize chgL L = cl at *
    generalize areB L = cb at *
    unfold TextsAny at HX
    clear h hl hs hb e1 e2
    go_enter Try.func37, Try.ntmps37
    go_wp2_with fail
    refine HC.out.mono ?_
    rintro e w1 ⟨v1, rfl, hn1, hb1⟩
    have HB1 := Lib.hid hb1
    have HD1 := Lib.hid hn1.digs
    clear hb1 hn1
    go_wp2_with fail
    refine (HX.out _ _ HD1.out).mono ?_
    rintro e w2 ⟨v2, rfl, hn2, hb2⟩
    have HN2 := Lib.hid (hn2.lower HB1.out.size)
    have HB2 := Lib.hid (HB1.out.trans (hb2.mono HB1.out.size))
    obtain ⟨ua, uc, rfl, -⟩ := hn2.own.view
    clear hb2 hn2
    go_wp2
    go_ret2
    exact ⟨_, rfl, HN2.out, HB2.out⟩

set_option maxRecDepth 100000 in
set_option maxHeartbeats 1000000 in
theorem iAreNext_any (v : Value) (L : List (List Nat)) (w : World) (h : Txts w v L) (hl : L.length ≤ 2000000) (hs : ∀ l ∈ L, l.length ≤ maxLen) :
    Calls Try.prog 35 #[v] w fun e w' => e = .returned (.tuple #[.bool (areB L), .bool (listB L)]) ∧ Below w.heap.size w w' := by
  have HC := Lib.hid (rowListOf_any v L w h hl hs)
  unfold ListOut6 at HC
  cases hb : listB L
  · obtain ⟨e1, e2⟩ := are_no hb
    rw [e1]
    rw [hb] at HC
    clear h hl hs hb e1 e2
    go_enter Try.func35, Try.ntmps35
    go_wp2_with fail
    refine HC.out.mono ?_
    rintro e w1 ⟨v1, rfl, hn1, hb1⟩
    go_wp2
    go_ret2
    exact ⟨rfl, hb1⟩
  · obtain ⟨e1, e2⟩ := are_yes hb
    have HX := Lib.hid (fun v' w' (h' : Digs w' v' (rF L)) => changesAround_any (firstN L) v' (rF L) (rowsB_rows hb) (by rw [rF_len]; have := rowsB_len hb; omega) w' h')
    rw [← e1, ← e2] at HX
    rw [hb, if_pos rfl] at HC
    generalize chgL L = cl at *
    generalize areB L = cb at *
    unfold TextsAny at HX
    clear h hl hs hb e1 e2
    go_enter Try.func35, Try.ntmps35
    go_wp2_with fail
    refine HC.out.mono ?_
    rintro e w1 ⟨v1, rfl, hn1, hb1⟩
    have HB1 := Lib.hid hb1
    have HD1 := Lib.hid hn1.digs
    clear hb1 hn1
    go_wp2_with fail
    refine (HX.out _ _ HD1.out).mono ?_
    rintro e w2 ⟨v2, rfl, hn2, hb2⟩
    have HB2 := Lib.hid (HB1.out.trans (hb2.mono HB1.out.size))
    obtain ⟨ua, uc, rfl, -⟩ := hn2.own.view
    clear hb2 hn2
    go_wp2
    go_ret2
    exact ⟨rfl, HB2.out⟩
end Go.Proofs.Ytnoepobbecobbaa
