/- slices.DeleteFunc of rows, with the closure of MeetIn: the rows that stay. -/
import Derived.Test.YtnoepobbecobbaaUO
namespace Go.Proofs.Ytnoepobbecobbaa
open Go.RowKit
set_option linter.unusedSimpArgs false
set_option linter.unusedVariables false

noncomputable def stayF (S : List (Nat → Nat)) (xs : List (Nat → Nat)) : List (Nat → Nat) := xs.filter fun x => inB x S
theorem stay_all {S xs : List (Nat → Nat)} (h : ∀ t (h : t < xs.length), inB xs[t] S = true) : stayF S xs = xs := by
  unfold stayF
  rw [List.filter_eq_self]
  intro x hx
  obtain ⟨t, ht, rfl⟩ := List.getElem_of_mem hx
  exact h t ht
theorem stay_step {S xs : List (Nat → Nat)} (j : Nat) (hj : j < xs.length) : stayF S (xs.take (j + 1)) = stayF S (xs.take j) ++ (if inB xs[j] S = true then [xs[j]] else []) := by
  unfold stayF
  rw [List.take_succ_eq_append_getElem hj, List.filter_append]
  simp [List.filter_cons]
theorem stay_start {S xs : List (Nat → Nat)} (k : Nat) (hk : k < xs.length) (h : ∀ t (h : t < xs.length), t < k → inB xs[t] S = true) (hn : inB xs[k] S = false) : stayF S (xs.take (k + 1)) = xs.take k := by
  rw [stay_step k hk, hn]
  simp only [Bool.false_eq_true, if_false, List.append_nil]
  refine stay_all (fun t ht => ?_)
  have htk : t < k := by rw [List.length_take] at ht; omega
  have := h t (by omega) htk
  simpa using this
theorem set_takeF {Y : List (Nat → Nat)} {x : Nat → Nat} (i : Nat) (hi : i < Y.length) : (Y.set i x).take (i + 1) = Y.take i ++ [x] := by
  rw [List.take_succ_eq_append_getElem (by simpa using hi), List.take_set, List.set_eq_of_length_le (by simp; exact Nat.min_le_left _ _), List.getElem_set_self]

set_option maxRecDepth 100000 in
set_option maxHeartbeats 1000000 in
theorem deleteFuncM_any (n : Nat) (S : List (Nat → Nat)) (cb mb B : Nat) (v : Value) (xs : List (Nat → Nat)) (hx : Rows n xs) (hl : xs.length ≤ 1000) (W : World) (hB : B ≤ W.heap.size) (hr : RowAt W cb 86 #[.map (some mb)]) (hs : SetAt W n mb S) (hv : NewD B W v xs) :
    Calls Try.prog 85 #[v, .func (.func 86) #[] #[.pointer (some ⟨cb, 0, none⟩)]] W fun e w' => (∃ v', e = .returned v' ∧ NewD B w' v' (stayF S xs)) ∧ Below B W w' := by
  obtain ⟨m, hm⟩ : ∃ m, xs.length = m := ⟨_, rfl⟩
  have hap := hv.apartSet hs
  have hcb : v.ownBlock ≠ some cb := by
    intro e
    obtain ⟨_, h2⟩ := hv
    rcases h2 with ⟨rfl, _⟩ | ⟨g, cap, cur, rfl, _, hg, _⟩
    · simp [Value.ownBlock] at e
    · have e : g = cb := by simpa [Value.ownBlock] using e
      subst e
      have := hg.symm.trans hr
      simp at this
  obtain ⟨a, cap, rfl, hmc, ha⟩ := hv.view hm
  have HI := Lib.hid (indexFuncM_any n S cb mb _ B xs hx hl W hr hs hv)
  rw [hm] at hl
  have HV := Lib.hid hv
  have HA := Lib.hid ha
  have HM := Lib.hid hm
  have HX := Lib.hid hx
  have HR := Lib.hid hr
  have HS := Lib.hid hs
  have HAP := Lib.hid hap
  have HCB := Lib.hid hcb
  have HCM := Lib.hid hmc
  have hmi : (m : Int) ≤ 1000 := by omega
  obtain ⟨res, hres⟩ : ∃ res, stayF S xs = res := ⟨_, rfl⟩
  have HRES := Lib.hid hres
  rw [hres]
  clear hv ha hm hx hr hs hres hap hcb hmc
  go_enter Try.func85, Try.ntmps85
  go_wp2_with fail
  refine HI.out.mono ?_
  rintro e w1 ⟨⟨k0, hk0, hall, hres⟩, hb1⟩
  have HR1 := Lib.hid (HR.out.kept hb1)
  have HS1 := Lib.hid (HS.out.kept hb1)
  have HV1 := Lib.hid (HV.out.kept hb1)
  have HB1 : Hid (Below B W w1) := Lib.hid (hb1.mono hB)
  have HZ1 := Lib.hid (Nat.le_trans hB hb1.size)
  clear HR HV HS hb1 HI
  rcases hres with ⟨rfl, rfl⟩ | ⟨hk1, hno, rfl⟩
  · have hfil := stay_all (S := S) (xs := xs) (fun t ht => hall t ht ht)
    have hr2 : xs = res := hfil.symm.trans HRES.out
    subst hr2
    clear hall hfil
    go_wp2
    go_ret
    exact ⟨⟨_, rfl, HV1.out⟩, HB1.out⟩
  · have hk0m : k0 < m := by rw [← HM.out]; exact hk1
    obtain ⟨g, rfl⟩ := HA.out (by omega)
    have HST := Lib.hid (stay_start (S := S) (xs := xs) k0 hk1 hall hno)
    have hgB : B ≤ g := (HV1.out.lt g rfl).1
    have hgmb : mb ≠ g := fun e => HAP.out (by simp [Value.ownBlock, e])
    have hgcb : cb ≠ g := fun e => HCB.out (by simp [Value.ownBlock, e])
    have hk0n : ¬ ((k0 : Int) = -1) := by omega
    have hk8 : (k0 : Int) ≤ 1000 := by omega
    clear hall hno HA HAP HCB hk1
    go_wp2
    go_loopg [5, 6, 7] m (fun q si sj _ wr => ∃ (i j : Nat) (Y : List (Nat → Nat)), (m - j ≤ q ∧ j ≤ m) ∧ si = .int .i64 i ∧ sj = .int .i64 j ∧ i < j ∧ Y.length = m ∧ Y.take i = stayF S (xs.take j) ∧ (∀ t (h1 : t < Y.length) (h2 : t < xs.length), j ≤ t → Y[t] = xs[t]) ∧ NewD B wr (.slice (some ⟨g, 0, none⟩) m cap) Y ∧ RowAt wr cb 86 #[.map (some mb)] ∧ SetAt wr n mb S ∧ Below B W wr ∧ B ≤ wr.heap.size)
    case atStart => exact ⟨k0, k0 + 1, xs, by omega, rfl, by go_num, by omega, HM.out, HST.out.symm, fun t _ _ _ => rfl, HV1.out, HR1.out, HS1.out, HB1.out, HZ1.out⟩
    case round =>
      clear HST HV1 HR1 HB1 HZ1 HS1
      obtain ⟨i, j, Y, hqj, rfl, rfl, hij, hY, htk, hdr, hn, hr, hs, hb, hz⟩ := hrel
      have HY := Lib.hid hY
      have HTK := Lib.hid htk
      have HDR := Lib.hid hdr
      have HN := Lib.hid hn
      have HR := Lib.hid hr
      have HS := Lib.hid hs
      have HB := Lib.hid hb
      have HZ := Lib.hid hz
      clear hY htk hdr hn hr hb hz hs
      by_cases hlt : j < m
      · have hjx : j < xs.length := by rw [HM.out]; exact hlt
        have hjy : j < Y.length := by rw [HY.out]; exact hlt
        have hiy : i < Y.length := by omega
        have hyx : Y[j] = xs[j] := HDR.out j hjy hjx (Nat.le_refl _)
        have hload := HN.out.at8 j hjy
        rw [hyx] at hload
        have HL := Lib.hid hload
        have hxj := HX.out _ (List.getElem_mem hjx)
        have hstep := stay_step (S := S) (xs := xs) j hjx
        have HDR2 : Hid (∀ t (h1 : t < Y.length) (h2 : t < xs.length), j + 1 ≤ t → Y[t] = xs[t]) := Lib.hid (fun t h1 h2 h3 => HDR.out t h1 h2 (by omega))
        obtain ⟨x, hxx⟩ : ∃ x, xs[j] = x := ⟨_, rfl⟩
        rw [hxx] at HL hxj hstep
        have hji : (j : Int) < m := by omega
        have him : (i : Int) < m := by omega
        have hal := (Below.refl wr.heap.size wr).alloc (Nat.le_refl _) (.cells (dig8 x) 80)
        have HXX := Lib.hid (RowAt.new wr 80 (dig8 x))
        have HNX := Lib.hid (HN.out.kept hal)
        have HRX := Lib.hid (HR.out.kept hal)
        have HSX := Lib.hid (HS.out.kept hal)
        have HBX := Lib.hid (HB.out.trans (hal.mono HZ.out))
        have HZX : Hid (B ≤ (wr.alloc (.cells (dig8 x) 80)).heap.size) := Lib.hid (Nat.le_trans HZ.out hal.size)
        have HC := Lib.hid (closureM_any n S cb mb x hxj _ HRX.out HSX.out)
        clear hal hload hyx hxx HN HR HS HDR
        cases hk : inB x S
        · rw [hk] at HC hstep
          have HSTEP : Hid (Y.take i = stayF S (xs.take (j + 1))) := Lib.hid (by rw [hstep, HTK.out]; simp)
          clear hk hstep
          go_wp2_with (first | (refine wpList_store_row rfl 80 _ _ rfl _ _ rfl rfl 80 _ (heap_at _ _ _ (by simp)) (by kernel_rfl) rfl (by kernel_rfl) ?_; rw [setRow_at _ _ _ _ _ (by simp)]) | (refine wpList_load8 rfl _ rfl g (j * 8) rfl x HL.out ?_) | (refine wpList_load_row rfl 80 _ rfl _ rfl 80 _ _ _ (HXX.out) Try.underlying80 rfl (by kernel_rfl) ?_) | (go_at_call 86; refine HC.out.mono ?_; rintro e w2 ⟨rfl, hb2⟩) | fail)
          have HN2 := Lib.hid (HNX.out.kept hb2)
          have HR2 := Lib.hid (HRX.out.kept hb2)
          have HS2 := Lib.hid (HSX.out.kept hb2)
          have HB2 := Lib.hid (HBX.out.trans (hb2.mono HZX.out))
          have HZ2 := Lib.hid (Nat.le_trans HZX.out hb2.size)
          clear hb2
          go_wp2
          go_roundg (m - (j + 1))
          case measure => omega
          case rel => exact ⟨i, j + 1, Y, by omega, rfl, by go_num, by omega, HY.out, HSTEP.out, HDR2.out, HN2.out, HR2.out, HS2.out, HB2.out, HZ2.out⟩
        · rw [hk] at HC hstep
          have HSTEP : Hid ((Y.set i x).take (i + 1) = stayF S (xs.take (j + 1))) := Lib.hid (by rw [hstep, set_takeF i hiy, HTK.out]; simp)
          clear hk hstep
          go_wp2_with (first | (refine wpList_store_row rfl 80 _ _ rfl _ _ rfl rfl 80 _ (heap_at _ _ _ (by simp)) (by kernel_rfl) rfl (by kernel_rfl) ?_; rw [setRow_at _ _ _ _ _ (by simp)]) | (refine wpList_load8 rfl _ rfl g (j * 8) rfl x HL.out ?_) | (refine wpList_load_row rfl 80 _ rfl _ rfl 80 _ _ _ (HX2.out) Try.underlying80 rfl (by kernel_rfl) ?_) | (refine wpList_load_row rfl 80 _ rfl _ rfl 80 _ _ _ (HXX.out) Try.underlying80 rfl (by kernel_rfl) ?_) | (refine wpList_store8 rfl _ _ rfl B g m cap i Y x HN2.out hiy (i * 8) rfl rfl rfl HB2.out ?_) | (go_at_call 86; refine HC.out.mono ?_; rintro e w2 ⟨rfl, hb2⟩; have HX2 := Lib.hid (HXX.out.kept hb2); have HN2 := Lib.hid (HNX.out.kept hb2); have HR2 := Lib.hid (HRX.out.kept hb2); have HS2 := Lib.hid (HSX.out.kept hb2); have HB2 := Lib.hid (HBX.out.trans (hb2.mono HZX.out)); have HZ2 := Lib.hid (Nat.le_trans HZX.out hb2.size); clear hb2) | fail)
          intro w3 hn3 hb3 hk3 hs3
          have HN3 := Lib.hid hn3
          have HB3 := Lib.hid hb3
          have HR3 : Hid (RowAt w3 cb 86 #[.map (some mb)]) := Lib.hid ((hk3 cb hgcb).trans HR2.out)
          have HS3 := Lib.hid (HS2.out.block (hk3 mb hgmb))
          have HZ3 : Hid (B ≤ w3.heap.size) := Lib.hid (by rw [hs3]; exact HZ2.out)
          clear hn3 hb3 hk3 hs3
          go_wp2
          go_roundg (m - (j + 1))
          case measure => omega
          case rel =>
            refine ⟨i + 1, j + 1, Y.set i x, by omega, by go_num, by go_num, by omega, by simpa using HY.out, HSTEP.out, fun t h1 h2 h3 => ?_, HN3.out, HR3.out, HS3.out, HB3.out, HZ3.out⟩
            rw [List.getElem_set_ne (by omega)]
            exact HDR2.out t (by simpa using h1) h2 h3
      · obtain rfl : j = m := by omega
        have hfin : Y.take i = res := by rw [HTK.out, List.take_of_length_le (by rw [HM.out]; exact Nat.le_refl _), HRES.out]
        have hjj : ¬ (j : Int) < (j : Int) := by omega
        have hii : (i : Int) < (j : Int) := by omega
        have hmc : j ≤ cap := HCM.out
        have hs1 := fun W' => cutD_l g 0 j cap i (by omega) hmc W'
        have hs2 := fun W' => cutD_h g 0 j cap i (by omega) hmc (by omega) W'
        rw [Nat.zero_add] at hs1
        have hcl : ∀ ty, (Builtin.clear_ #[62] ty #[.slice (some ⟨g, i * 8, none⟩) (j - i) (cap - i)]).run Try.prog wr = .ok (.tuple #[]) (wr.setCells g (i * 8) (Builtin.zeroCells zero8 (j - i)).toList) :=
          fun ty => run_clear8 wr _ ty Try.underlying62 g (i * 8) (j - i) _ (by omega) (fun t ht => (HN.out.cellsOk (i * 8 + t) (by omega)).1) (fun t ht => (HN.out.cellsOk (i * 8 + t) (by omega)).2)
        have hf := HN.out.front i (by omega) (Builtin.zeroCells zero8 (j - i)).toList
        rw [hfin] at hf
        have HO2 := Lib.hid hf
        have HB2 := Lib.hid (below_cellsK hgB (Builtin.zeroCells zero8 (j - i)).toList (i * 8) wr HB.out)
        clear hf hfin HTK HDR HRES HN HR HB HZ HX HY HM HS
        go_wp2
        go_ret
        exact ⟨⟨_, rfl, HO2.out⟩, HB2.out⟩
end Go.Proofs.Ytnoepobbecobbaa
