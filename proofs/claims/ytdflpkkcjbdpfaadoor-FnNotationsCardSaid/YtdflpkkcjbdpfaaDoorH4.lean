/- HalvesOf in the model. -/
import Derived.Test.YtdflpkkcjbdpfaaDoorH3
namespace Go.Proofs.YtdflpkkcjbdpfaaDoor
open Go.RowKit
set_option linter.unusedSimpArgs false

set_option maxRecDepth 100000 in
theorem slice_lh {W : World} {a : Option Addr} {m cap : Nat} {L : List (List Nat)} (h : Txts W (.slice a m cap) L) (k r : Nat) (hk : k + r ≤ L.length) :
    ∃ u, (∀ W', (Instr.sliceAt 24 (.slice a m cap) (some (.int .i64 k)) (some (.int .i64 (k + r))) none).run Tryd.prog W' = .ok u W') ∧ Txts W u ((L.drop k).take r) := by
  obtain ⟨a', cap', hv, hcap, hc⟩ := h
  injection hv with e1 e2 e3
  subst e1 e2 e3
  refine ⟨.slice (if cap = k then a else a.map (·.add k)) r (cap - k), fun W' => ?_, ?_⟩
  · rw [run_sliceAt_slice W' _ _ _ _ _ Tryd.underlying24, run_slice_lh W' _ _ _ _ Tryd.underlying24 .i64 .i64 _ _ (by omega) (by omega) (by omega), show (sizeOf (Tryd.prog.elem 24)).run Tryd.prog W' = .ok 1 W' by kernel_rfl]
    simp [Result.andThen, sliced, show ((k : Int) + r).toNat = k + r by omega]
  · have e : ((L.drop k).take r).length = r := by simp; omega
    refine ⟨_, cap - k, by rw [e], by omega, fun h0 => ?_⟩
    rw [e] at h0
    obtain ⟨g, off, rfl, hg, hcc⟩ := hc (by omega)
    refine ⟨g, off + k, ?_, hg, fun j hj => ?_⟩
    · rw [if_neg (by omega)]
      simp [add_at]
    · rw [e] at hj
      rw [Nat.add_assoc, hcc (k + j) (by omega)]
      simp [List.getD_eq_getElem?_getD, hj]
theorem palB_odd {L : List (List Nat)} (h : palB L = true) : L.length % 2 = 1 := by
  unfold palB at h
  simp only [Bool.and_eq_true, decide_eq_true_eq] at h
  exact h.2

set_option maxRecDepth 100000 in
set_option maxHeartbeats 1000000 in
theorem l3Halves_any (v : Value) (L : List (List Nat)) (w : World) (h : Txts w v L) (hl : L.length ≤ 1000) :
    Calls Tryd.prog 31 #[v] w (TwoRes (halves L) w) := by
  obtain ⟨m, hm⟩ : ∃ m, L.length = m := ⟨_, rfl⟩
  have hh : halvesF L (m - 1) = halves L := by unfold halves; rw [hm]
  obtain ⟨a, cap, rfl, hcap, _⟩ := id h
  rw [hm] at h hl ⊢
  have HT := Lib.hid h
  have HM := Lib.hid hm
  generalize halves L = res at *
  have HH := Lib.hid hh
  have hl2 : (m : Int) ≤ 1000 := by omega
  clear h hm hcap hh
  go_enter Tryd.func31, Tryd.ntmps31
  go_wp2
  go_loopg [5] m (fun q sj wr => ∃ j : Nat, q + j = m + 1 ∧ 1 ≤ j ∧ sj = .int .i64 j ∧ halvesF L (m - j) = res ∧ Below w.heap.size w wr)
  case atStart => exact ⟨1, by omega, by omega, rfl, HH.out, Below.refl _ _⟩
  case round =>
    clear HH
    obtain ⟨j, hqj, hj, rfl, hf, hb⟩ := hrel
    have HF := Lib.hid hf
    have HB := Lib.hid hb
    clear hf hb
    by_cases hlt : j < m
    · obtain ⟨k, hk⟩ : ∃ k, m - j = k := ⟨_, rfl⟩
      have hf := HF.out
      rw [hk] at hf
      have h0 : 0 < k := by omega
      have hki : (m : Int) - j = k := by omega
      have hji : (j : Int) < m := by omega
      have HF2 := Lib.hid ((halvesF_pos L k h0).symm.trans hf)
      obtain ⟨u1, hu1, ht1⟩ := slice_h (HT.out.kept HB.out) k (by rw [HM.out]; omega)
      obtain ⟨u2, hu2, ht2⟩ := slice_l (HT.out.kept HB.out) k (by rw [HM.out]; omega)
      have HT1 := Lib.hid ht1
      have HT2 := Lib.hid ht2
      have HL1 : Hid ((L.take k).length = k) := Lib.hid (by have := HM.out; simp; omega)
      have HL2 : Hid ((L.drop k).length = j) := Lib.hid (by have := HM.out; simp; omega)
      clear ht1 ht2 HF hf
      go_wp2_with fail
      refine (l3Same_any u1 (L.take k) _ HT1.out (by rw [HL1.out]; omega)).mono ?_
      rintro e w2 ⟨rfl, hb2⟩
      have HB2 := Lib.hid (HB.out.trans (hb2.mono HB.out.size))
      have HT22 := Lib.hid (HT2.out.kept hb2)
      have hf := HF2.out
      clear hb2 HT1 HT2 HB HF2
      cases hp1 : palB (L.take k)
      · rw [hp1] at hf
        have HR : Hid (halvesF L (k - 1) = res) := Lib.hid hf
        clear hf hp1
        go_wp2
        go_roundg (m - j)
        case measure => omega
        case rel => exact ⟨j + 1, by omega, by omega, by go_num, by rw [show m - (j + 1) = k - 1 by omega]; exact HR.out, HB2.out⟩
      · rw [hp1, Bool.true_and] at hf
        have HF2 := Lib.hid hf
        have HP1 := Lib.hid hp1
        clear hf hp1
        go_wp2_with fail
        refine (l3Same_any u2 (L.drop k) _ HT22.out (by rw [HL2.out]; omega)).mono ?_
        rintro e w3 ⟨rfl, hb3⟩
        have HB3 := Lib.hid (HB2.out.trans (hb3.mono HB2.out.size))
        have hf := HF2.out
        clear hb3 HT22 HB2 HF2
        cases hp2 : palB (L.drop k)
        · rw [hp2] at hf
          have HR : Hid (halvesF L (k - 1) = res) := Lib.hid hf
          clear hf hp2
          go_wp2
          go_roundg (m - j)
          case measure => omega
          case rel => exact ⟨j + 1, by omega, by omega, by go_num, by rw [show m - (j + 1) = k - 1 by omega]; exact HR.out, HB3.out⟩
        · rw [hp2] at hf
          have HR : Hid (res = some (half (L.take k), half (L.drop k))) := Lib.hid hf.symm
          have ho1 : k % 2 = 1 := by have := palB_odd HP1.out; rw [HL1.out] at this; exact this
          have ho2 : j % 2 = 1 := by have := palB_odd hp2; rw [HL2.out] at this; exact this
          obtain ⟨r1, hr1⟩ : ∃ r, (k + 1) / 2 = r := ⟨_, rfl⟩
          obtain ⟨r2, hr2⟩ : ∃ r, (j + 1) / 2 = r := ⟨_, rfl⟩
          have e1 : half (L.take k) = L.take r1 := by
            unfold half
            rw [HL1.out, List.take_take]
            congr 1
            omega
          have e2 : half (L.drop k) = (L.drop k).take r2 := by
            unfold half
            rw [HL2.out]
            congr 1
            omega
          rw [e1, e2] at HR
          obtain ⟨u3, hu3, ht3⟩ := slice_h (HT.out.kept HB3.out) r1 (by rw [HM.out]; omega)
          obtain ⟨u4, hu4, ht4⟩ := slice_lh (HT.out.kept HB3.out) k r2 (by rw [HM.out]; omega)
          have hq1 : ((k : Int) + 1) / 2 = r1 := by omega
          have hq2 : ((j : Int) + 1) / 2 = r2 := by omega
          have hq3 : ((k : Int) + 1).tdiv 2 = r1 := by rw [Int.tdiv_eq_ediv_of_nonneg (by omega)]; exact hq1
          have hq4 : ((j : Int) + 1).tdiv 2 = r2 := by rw [Int.tdiv_eq_ediv_of_nonneg (by omega)]; exact hq2
          have hw1 : IntKind.i64.wrap ((k : Int) + 1) = (k : Int) + 1 := IntWalk.i64_in _ ⟨by omega, by omega⟩
          have hw2 : IntKind.i64.wrap ((j : Int) + 1) = (j : Int) + 1 := IntWalk.i64_in _ ⟨by omega, by omega⟩
          have hw3 : IntKind.i64.wrap (r1 : Int) = r1 := IntWalk.i64_in _ ⟨by omega, by omega⟩
          have hw4 : IntKind.i64.wrap (r2 : Int) = r2 := IntWalk.i64_in _ ⟨by omega, by omega⟩
          have hw5 : IntKind.i64.wrap ((k : Int) + r2) = (k : Int) + r2 := IntWalk.i64_in _ ⟨by omega, by omega⟩
          have HL3 : Hid ((L.take r1).length ≤ 1000) := Lib.hid (by have := HM.out; simp; omega)
          have HL4 : Hid (((L.drop k).take r2).length ≤ 1000) := Lib.hid (by have := HM.out; simp; omega)
          have HT3 := Lib.hid ht3
          have HT4 := Lib.hid ht4
          generalize L.take r1 = X at *
          generalize (L.drop k).take r2 = Y at *
          clear hf hp2 e1 e2 hr1 hr2 ht3 ht4 hu1 hu2
          go_wp2
          have HS3 : Hid (∀ W, Below w3.heap.size w3 W → Calls Tryd.prog 55 #[u3] W fun e w' => Copied X W e w' ∧ Below w3.heap.size w3 w') := Lib.hid (fun W hW => (l1OwnS_any u3 X W (HT3.out.kept hW) HL3.out).mono fun e w' h => ⟨h, by obtain ⟨_, _, _, hb⟩ := h; exact hW.trans (hb.mono hW.size)⟩)
          have HS4 : Hid (∀ W, Below w3.heap.size w3 W → Calls Tryd.prog 55 #[u4] W fun e w' => Copied Y W e w' ∧ Below w3.heap.size w3 w') := Lib.hid (fun W hW => (l1OwnS_any u4 Y W (HT4.out.kept hW) HL4.out).mono fun e w' h => ⟨h, by obtain ⟨_, _, _, hb⟩ := h; exact hW.trans (hb.mono hW.size)⟩)
          go_region_held3 (fun w' => Below w3.heap.size w3 w') (first | assumption | exact Below.refl _ _ | exact (Below.refl _ _).drew) (first | (go_at_call 55; refine (HS3.out _ (by first | assumption | exact Below.refl _ _ | exact (Below.refl _ _).drew)).mono ?_; rintro e4 w4 ⟨⟨v4, rfl, hn4, hb4⟩, hB4⟩) | (go_at_call 55; refine (HS4.out _ (by first | assumption | exact Below.refl _ _ | exact (Below.refl _ _).drew)).mono ?_; rintro e5 w5 ⟨⟨v5, rfl, hn5, hb5⟩, hB5⟩) | fail)
          have HN4 := Lib.hid ((hn4.kept hb5).lower (B' := w.heap.size) HB3.out.size)
          have HN5 := Lib.hid (hn5.lower (B' := w.heap.size) (Nat.le_trans HB3.out.size hB4.size))
          have HAP : Hid (∀ g, v4.ownBlock = some g → v5.ownBlock ≠ some g) := Lib.hid (fun g h2 h3 => by
            have := hn4.own.lt g h2
            have := hn5.base g h3
            omega)
          have HB5 := Lib.hid (HB3.out.trans (hB5.mono HB3.out.size))
          clear hn4 hn5 hb4 hb5 hB4 hB5
          go_wp2
          go_ret3
          exact ⟨v4, v5, by rw [HR.out]; rfl, by rw [HR.out]; exact HN4.out, by rw [HR.out]; exact HN5.out, HAP.out, HB5.out⟩
    · have HR : Hid (res = none) := Lib.hid (by have := HF.out; rw [show m - j = 0 by omega] at this; exact this.symm)
      clear HF
      have hji : ¬ (j : Int) < m := by omega
      go_wp2
      go_ret3
      exact ⟨_, _, by rw [HR.out]; rfl, by rw [HR.out]; exact New.nil _ _ _, by rw [HR.out]; exact New.nil _ _ _, fun g hg => by simp [Value.ownBlock] at hg, HB.out⟩
end Go.Proofs.YtdflpkkcjbdpfaaDoor
