/- The list that blocks denote, in the program. -/
import Derived.Test.YtpnagaokmfaaiaaDoorU6
import Derived.Test.YtpnagaokmfaaiaaDoorC4
namespace Go.Proofs.YtpnagaokmfaaiaaDoor
open Go.RowKit
set_option linter.unusedSimpArgs false

def joinP (bs : List (List (List Nat))) : List (List Nat) := if bs.length = 1 then bs.flatten else bs.flatMap pal
def joinOk (bs : List (List (List Nat))) : Bool := decide (bs.length ≤ 4) && decide ((joinP bs).length ≤ 40)
/-- the list, if there are not too many blocks and changes -/
def JoinRes (bs : List (List (List Nat))) (w : World) (B : Nat) (e : Ending) (w' : World) : Prop :=
  ∃ v, e = .returned (.tuple #[v, .bool (joinOk bs)]) ∧ (joinOk bs = true → New B w' 9 v (strs (joinP bs))) ∧ Below w.heap.size w w'
theorem palOk_iff {α : Type} (xs : List α) (h : xs ≠ []) : palOk xs = decide ((pal xs).length ≤ 40) := by
  have h0 : 0 < xs.length := List.length_pos_iff.2 h
  unfold palOk
  rw [pal_len, Bool.eq_iff_iff, decide_eq_true_eq, decide_eq_true_eq]
  omega

def accP (bs : List (List (List Nat))) (j : Nat) : List (List Nat) := (bs.take j).flatMap pal
theorem accP_step (bs : List (List (List Nat))) (j : Nat) (hj : j < bs.length) : accP bs (j + 1) = accP bs j ++ pal bs[j] := by
  unfold accP
  rw [List.take_succ_eq_append_getElem hj, List.flatMap_append]
  simp
theorem accP_all (bs : List (List (List Nat))) : accP bs bs.length = bs.flatMap pal := by simp [accP]
theorem accP_le (bs : List (List (List Nat))) (j : Nat) : (accP bs j).length ≤ (bs.flatMap pal).length := by
  unfold accP
  conv => rhs; rw [← List.take_append_drop j bs, List.flatMap_append, List.length_append]
  omega
theorem joinOk_false {bs : List (List (List Nat))} {j : Nat} (h1 : bs.length ≠ 1) (h : 40 < (accP bs j).length) : joinOk bs = false := by
  have := accP_le bs j
  unfold joinOk joinP
  rw [if_neg h1, decide_eq_false (show ¬ (bs.flatMap pal).length ≤ 40 by omega), Bool.and_false]
set_option maxRecDepth 100000 in
set_option maxHeartbeats 1000000 in
theorem joinBlocks_any (v : Value) (vs : List Value) (bs : List (List (List Nat))) (B : Nat) (w : World) (h : LS B w v vs bs) (hBw : B ≤ w.heap.size) (hl : 1 ≤ bs.length ∧ bs.length ≤ 1000) (hne : ∀ b ∈ bs, b ≠ []) (hb1 : ∀ b ∈ bs, b.length ≤ 1000) :
    Calls Tryd.prog 42 #[v] w (JoinRes bs w B) := by
  obtain ⟨m, hm⟩ : ∃ m, bs.length = m := ⟨_, rfl⟩
  have HLS := Lib.hid h
  obtain ⟨a, cap, rfl, ha⟩ := h.own.own.view
  have hvl : vs.length = m := by rw [h.len, hm]
  rw [hvl] at ha HLS ⊢
  rw [hm] at hl
  have hmi : (m : Int) ≤ 1000 := by omega
  have HM := Lib.hid hm
  have HA := Lib.hid ha
  have HNE := Lib.hid hne
  have HB1 := Lib.hid hb1
  clear h ha hm hvl hne hb1
  by_cases h4 : 4 < m
  · have hj : joinOk bs = false := by unfold joinOk; rw [HM.out, decide_eq_false (by omega)]; rfl
    unfold JoinRes
    rw [hj]
    have h4' : (4 : Int) < m := by omega
    clear hj HLS HA
    go_enter Tryd.func42, Tryd.ntmps42
    go_wp2
    go_ret2
    exact ⟨_, rfl, fun h => by simp at h, Below.refl _ _⟩
  · have h4' : (m : Int) ≤ 4 := by omega
    obtain ⟨g, rfl⟩ := HA.out (by omega)
    by_cases h1 : m = 1
    · subst h1
      obtain ⟨b0, hb0⟩ : ∃ b0, bs = [b0] := by
        have := HM.out
        match bs, this with
        | [x], _ => exact ⟨x, rfl⟩
      subst hb0
      obtain ⟨u, hu1, hu2⟩ := HLS.out.inner 0 (by simp)
      have c0 := HLS.out.own.own.cell 0 u hu1
      have hjp : joinP [b0] = b0 := by simp [joinP]
      have hjo : joinOk [b0] = decide (b0.length ≤ 40) := by unfold joinOk; rw [hjp]; rfl
      obtain ⟨au, cu, rfl, hau⟩ := hu2.own.view
      rw [strs_len] at hu2 c0 hu1
      have hlen : b0.length ≤ 1000 := HB1.out b0 (by simp)
      have hdec : decide ((b0.length : Int) ≤ 40) = decide (b0.length ≤ 40) := by
        rw [Bool.eq_iff_iff, decide_eq_true_eq, decide_eq_true_eq]; omega
      unfold JoinRes
      rw [hjp, hjo]
      have HU := Lib.hid hu2
      have HDEC := Lib.hid hdec
      clear hau hu1 hu2 HA HNE HB1 HM HLS hjp hjo hdec
      go_enter Tryd.func42, Tryd.ntmps42
      go_wp2
      go_quiet (fail)
      go_wp2
      go_ret2
      exact ⟨_, by rw [← HDEC.out]; rfl, fun _ => HU.out.drewN _, below_drewN (Below.refl _ _) _⟩
    · have h1' : ((m : Int) == 1) = false := by rw [beq_eq_false_iff_ne]; omega
      have hgl : g < w.heap.size := HLS.out.own.own.lt g rfl
      have HF : Hid (∀ j, 40 < (accP bs j).length → joinOk bs = false) := Lib.hid (fun j hj => joinOk_false (by rw [HM.out]; exact h1) hj)
      have HT : Hid ((accP bs m).length ≤ 40 → joinOk bs = true ∧ joinP bs = accP bs m) := Lib.hid (fun h9 => by
        rw [← HM.out, accP_all] at h9 ⊢
        have e : joinP bs = bs.flatMap pal := by unfold joinP; rw [if_neg (by rw [HM.out]; exact h1)]
        refine ⟨?_, e⟩
        unfold joinOk
        rw [e, decide_eq_true h9, HM.out, decide_eq_true (show m ≤ 4 by omega)]
        rfl)
      obtain ⟨i0, hi0, hz0, hz1, hz2⟩ := info_parts infoText
      have I0 := Lib.hid (⟨hi0, hz0, hz1, hz2⟩ : _ ∧ _ ∧ _ ∧ _)
      unfold JoinRes
      generalize joinOk bs = ok at *
      clear HA hi0 hz0 hz1 hz2
      go_enter Tryd.func42, Tryd.ntmps42
      go_wp2
      go_loopg [4, 25] m (fun q lv i wr => ∃ j : Nat, j ≤ m ∧ q + j = m ∧ i = .int .i64 j ∧ New w.heap.size wr 9 lv (strs (accP bs j)) ∧ (accP bs j).length ≤ 40 ∧ Below w.heap.size w wr)
      case atStart => exact ⟨0, by omega, rfl, rfl, New.nil _ _ _, by simp [accP], Below.refl _ _⟩
      case round =>
        obtain ⟨j, hj, hq, rfl, hnew, hlen, hb⟩ := hrel
        have HN := Lib.hid hnew
        have HB := Lib.hid hb
        obtain ⟨al, cl, hu4, hal⟩ := hnew.own.view
        rw [strs_len] at hu4
        subst hu4
        have HAL := Lib.hid hal
        have HLEN := Lib.hid hlen
        clear hnew hb hal
        by_cases hlt : j < m
        · have hjx : j < bs.length := by rw [HM.out]; exact hlt
          obtain ⟨u, hu1, hu2⟩ := HLS.out.inner j hjx
          have c1 := (HB.out.cell (p := ⟨g, j, none⟩) hgl).trans (HLS.out.own.own.cell j u hu1)
          have HU := Lib.hid (hu2.own.kept HB.out).txts
          have hji : (j : Int) < m := by omega
          have hstep := accP_step bs j hjx
          have hbne := HNE.out bs[j] (List.getElem_mem hjx)
          have hbl := HB1.out bs[j] (List.getElem_mem hjx)
          have hpo := palOk_iff bs[j] hbne
          have HPO := Lib.hid hpo
          have HSTEP := Lib.hid hstep
          have hpl : 0 < (pal bs[j]).length := by
            have := List.length_pos_iff.2 hbne
            rw [pal_len]; omega
          have HPL := Lib.hid hpl
          have HMA : Hid (∀ W, Txts W u bs[j] → Calls Tryd.prog 22 #[u] W _) := Lib.hid (fun W h => iMirrorAll_any u bs[j] W h (by omega))
          have hout : palOk bs[j] = true → palOut bs[j] = pal bs[j] := fun h => by unfold palOut; rw [h]; rfl
          have HOUT := Lib.hid hout
          generalize accP bs j = acc at *
          generalize bs[j] = bj at *
          clear hu1 hu2 hstep hpo hbne hpl hout
          go_wp2_with fail
          refine (HMA.out _ HU.out).mono ?_
          rintro e w2 ⟨v2, rfl, hn2, hb2⟩
          have HB2 := Lib.hid (HB.out.trans (hb2.mono HB.out.size))
          have HN2 := Lib.hid (HN.out.kept hb2)
          cases hk : palOk bj
          · have HOK : Hid (ok = false) := Lib.hid (HF.out (j + 1) (by
              rw [HSTEP.out, List.length_append]
              have := HPO.out
              rw [hk] at this
              have := of_decide_eq_false this.symm
              omega))
            clear hn2 hb2 hk
            go_wp2
            go_ret2
            exact ⟨_, by rw [HOK.out]; rfl, fun h => (by rw [HOK.out] at h; cases h), HB2.out⟩
          · rw [HOUT.out hk] at hn2
            have HV2 := Lib.hid hn2
            obtain ⟨a2, c2', hv2, ha2⟩ := hn2.own.view
            rw [strs_len] at hv2 ha2
            subst hv2
            obtain ⟨g2, rfl⟩ := ha2 HPL.out
            have hp40 : (pal bj).length ≤ 40 := by
              have := HPO.out
              rw [hk] at this
              exact of_decide_eq_true this.symm
            obtain ⟨n2, hn2'⟩ : ∃ n2, (pal bj).length = n2 := ⟨_, rfl⟩
            obtain ⟨n1, hn1'⟩ : ∃ n1, acc.length = n1 := ⟨_, rfl⟩
            rw [hn2'] at hp40 HV2
            rw [hn1'] at hlen HN2
            have HN1E := Lib.hid hn1'
            have HN2E := Lib.hid hn2'
            rw [hn2', hn1']
            clear hn2 hb2 hk ha2 HN hn1' hn2' HAL HLEN
            by_cases hbig : 40 < n1 + n2
            · have HOK : Hid (ok = false) := Lib.hid (HF.out (j + 1) (by
                rw [HSTEP.out, List.length_append, HN1E.out, HN2E.out]; exact hbig))
              have hbi : decide ((40 : Int) < (n1 : Int) + n2) = true := by rw [decide_eq_true_eq]; omega
              clear hbig
              go_wp2
              go_ret2
              exact ⟨_, by rw [HOK.out]; rfl, fun h => (by rw [HOK.out] at h; cases h), HB2.out⟩
            · have hbi : decide ((40 : Int) < (n1 : Int) + n2) = false := by rw [decide_eq_false_iff_not]; omega
              have hcells : ∀ t y, (strs (pal bj))[t]? = some y → w2.cell? ((⟨g2, 0, none⟩ : Addr).add t) = some y := fun t y hy => by
                rw [add_at, Nat.zero_add]
                exact HV2.out.own.cell t y hy
              have HCE := Lib.hid hcells
              clear hcells
              go_wp2_with (at_builtin; refine wpList_appN rfl (.tmp 44) (.tmp 45) 24 rfl 9 i0 (.string ⟨#[]⟩) 16 Tryd.underlying24 I0.out.1 I0.out.2.1 I0.out.2.2.1 I0.out.2.2.2 rfl w.heap.size w _ (strs acc) rfl HN2.out ⟨g2, 0, none⟩ n2 _ (strs (pal bj)) rfl (by rw [strs_len, HN2E.out]) HCE.out (strs_one _) HB2.out.size HB2.out (by rw [strs_len, HN1E.out]; omega) (by omega) ?_)
              intro v4 w4 hn4 _ hb4 _ _
              have e4 : strs acc ++ strs (pal bj) = strs (accP bs (j + 1)) := by rw [HSTEP.out]; simp [strs]
              rw [e4] at hn4
              have HN4 := Lib.hid hn4
              have HB4 := Lib.hid hb4
              clear hn4 hb4 e4
              go_wp2
              go_roundg (m - (j + 1))
              case measure => omega
              case rel => exact ⟨j + 1, by omega, by omega, by go_num, HN4.out, by rw [HSTEP.out, List.length_append, HN1E.out, HN2E.out]; omega, HB4.out⟩
        · obtain rfl : j = m := by omega
          obtain ⟨hok, hjp⟩ := HT.out HLEN.out
          have HJP := Lib.hid hjp
          have HOK := Lib.hid hok
          clear hok hjp HF HT
          go_wp2
          go_ret2
          exact ⟨_, by rw [HOK.out]; rfl, fun _ => by rw [HJP.out]; exact HN.out.lower hBw, HB.out⟩
end Go.Proofs.YtpnagaokmfaaiaaDoor
