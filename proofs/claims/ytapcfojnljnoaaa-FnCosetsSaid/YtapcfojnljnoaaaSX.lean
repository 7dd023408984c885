/- The model's test whether rows are a group. -/
import Derived.Test.YtapcfojnljnoaaaSW
namespace Go.Proofs.Ytapcfojnljnoaaa
open Go.RowKit
set_option linter.unusedSimpArgs false
set_option linter.unusedVariables false

noncomputable def rowA (n : Nat) (fs : List (Nat → Nat)) (a : Nat → Nat) : Bool := fs.all fun b => inB (mulR n a b) fs
noncomputable def allA (n : Nat) (fs : List (Nat → Nat)) : Bool := fs.all (rowA n fs)
theorem allA_no {n : Nat} {fs : List (Nat → Nat)} {a b : Nat → Nat} (ha : a ∈ fs) (hb : b ∈ fs) (h : inB (mulR n a b) fs = false) : allA n fs = false := by
  cases hc : allA n fs with
  | false => rfl
  | true =>
    have h1 := List.all_eq_true.1 hc a ha
    have h2 := List.all_eq_true.1 h1 b hb
    rw [h] at h2
    cases h2
theorem inB_rowsIn (f : Nat → Nat) (fs : List (Nat → Nat)) : inB f (rowsIn fs) = inB f fs := by
  unfold inB
  congr 1
  exact propext (mem_rowsIn fs f)

set_option maxRecDepth 100000 in
set_option maxHeartbeats 1000000 in
theorem l6Group_none (v : Value) (w : World) (h : Txts w v []) :
    Calls Try.prog 68 #[v] w fun e w' => e = .returned (.bool false) ∧ Below w.heap.size w w' := by
  obtain ⟨a, cap, rfl, hcap, ha⟩ := h
  clear hcap ha
  go_enter Try.func68, Try.ntmps68
  go_wp2
  go_quiet (fail)
  go_wp2
  go_ret
  exact ⟨rfl, drawnBelow (Below.refl _ _) _⟩

set_option maxRecDepth 100000 in
set_option maxHeartbeats 1000000 in
theorem l6Group_off (n : Nat) (v : Value) (fs : List (Nat → Nat)) (hg : Rows n fs) (h0 : 0 < fs.length) (hl : fs.length ≤ 1000) (hf0 : fs[0] ≠ rdf n) (w : World) (h : Txts w v (rowsL n fs)) :
    Calls Try.prog 68 #[v] w fun e w' => e = .returned (.bool false) ∧ Below w.heap.size w w' := by
  obtain ⟨m, hm⟩ : ∃ m, fs.length = m := ⟨_, rfl⟩
  obtain ⟨a, cap, rfl, hcap, ha⟩ := h
  have hr0 := hg _ (List.getElem_mem h0)
  have h3 := hr0.three
  have h8 := hr0.eight
  rw [rowsL_len, hm] at ha ⊢
  have hl : m ≤ 1000 := by omega
  have hl' : (m : Int) ≤ 1000 := by omega
  have hc2 : ∃ g off, a = some ⟨g, off, none⟩ ∧ g < w.heap.size ∧ ∀ j (hj : j < fs.length), w.cell? ⟨g, off + j, none⟩ = some (.string (strOf n fs[j])) := by
    obtain ⟨g, off, e, hg, hcc⟩ := ha (by omega)
    refine ⟨g, off, e, hg, fun j hj => ?_⟩
    rw [hcc j (by rw [← hm]; exact hj), rowsL, List.getD_eq_getElem?_getD, List.getElem?_map, List.getElem?_eq_getElem hj, Option.map_some, Option.getD_some, txt_rowL]
  obtain ⟨gb, off, rfl, hgb, hcc⟩ := hc2
  have c0 := hcc 0 h0
  rw [Nat.add_zero] at c0
  have hs0 : (strOf n fs[0]).size = n := strOf_size _ _
  have hmp : (0 : Int) < (m : Int) := by omega
  have hmi : ((m : Int) == 0) = false := by rw [beq_eq_false_iff_ne]; omega
  have hrd := isRow_rdf h3 h8
  have hrn := l1Rounds_any n h8
  rw [← strOf_rdf] at hrn
  have HRN : Hid (∀ w, Calls Try.prog 100 #[.int .i64 n] w fun e w' => e = .returned (.string (strOf n (rdf n))) ∧ w' = w) := Lib.hid (fun w => (hrn w).mono fun e w' h => ⟨h.1, h.2.symm⟩)
  have hne : strOf n fs[0] ≠ strOf n (rdf n) := fun e => hf0 (strOf_inj hr0 hrd e)
  have hnb := str_other hr0 hrd hf0
  generalize strOf n fs[0] = s0 at *
  generalize strOf n (rdf n) = s1 at *
  clear hcc hm hcap ha hg hrd hrn hr0 hf0
  clear h0
  go_enter Try.func68, Try.ntmps68
  go_wp2
  go_quiet ((go_at_call 100; exact Calls.quiet_of_same (HRN.out _)))
  go_wp2
  go_ret
  exact ⟨rfl, drawnBelow (Below.refl _ _) _⟩

set_option maxRecDepth 100000 in
set_option maxHeartbeats 1000000 in
theorem l6Group_yes (n : Nat) (v : Value) (fs : List (Nat → Nat)) (hg : Rows n fs) (h0 : 0 < fs.length) (hl : fs.length ≤ 1000) (hf0 : fs[0] = rdf n) (w : World) (h : Txts w v (rowsL n fs)) :
    Calls Try.prog 68 #[v] w fun e w' => e = .returned (.bool (allA n fs)) ∧ Below w.heap.size w w' := by
  obtain ⟨m, hm⟩ : ∃ m, fs.length = m := ⟨_, rfl⟩
  obtain ⟨a, cap, rfl, hcap, ha⟩ := h
  have hr0 := hg _ (List.getElem_mem h0)
  have h3 := hr0.three
  have h8 := hr0.eight
  rw [rowsL_len, hm] at ha ⊢
  have hl : m ≤ 1000 := by omega
  have hl' : (m : Int) ≤ 1000 := by omega
  have hc2 : ∃ g off, a = some ⟨g, off, none⟩ ∧ g < w.heap.size ∧ ∀ j (hj : j < fs.length), w.cell? ⟨g, off + j, none⟩ = some (.string (strOf n fs[j])) := by
    obtain ⟨g, off, e, hg, hcc⟩ := ha (by omega)
    refine ⟨g, off, e, hg, fun j hj => ?_⟩
    rw [hcc j (by rw [← hm]; exact hj), rowsL, List.getD_eq_getElem?_getD, List.getElem?_map, List.getElem?_eq_getElem hj, Option.map_some, Option.getD_some, txt_rowL]
  obtain ⟨gb, off, rfl, hgb, hcc⟩ := hc2
  have c0 := hcc 0 h0
  rw [Nat.add_zero] at c0
  have hs0 : (strOf n fs[0]).size = n := strOf_size _ _
  have hmp : (0 : Int) < (m : Int) := by omega
  have hmi : ((m : Int) == 0) = false := by rw [beq_eq_false_iff_ne]; omega
  have hrd := isRow_rdf h3 h8
  have hrn := l1Rounds_any n h8
  rw [← strOf_rdf] at hrn
  have HRN : Hid (∀ w, Calls Try.prog 100 #[.int .i64 n] w fun e w' => e = .returned (.string (strOf n (rdf n))) ∧ w' = w) := Lib.hid (fun w => (hrn w).mono fun e w' h => ⟨h.1, h.2.symm⟩)
  rw [hf0] at c0 hs0
  have HCC := Lib.hid hcc
  have HM := Lib.hid hm
  have HG := Lib.hid hg
  have HTM := Lib.hid (fun f g w (hf : IsRow n f) (hg : IsRow n g) => l1Times_any n f g (strOf n f) (strOf n g) (isStr_row hf) (isStr_row hg) hf.eight (fun i hi => ⟨hg.lo i hi, hg.hi i hi⟩) w)
  have HPL := Lib.hid (fun f w (hf : IsRow n f) => l1PlaceR hf w)
  have HSN := Lib.hid (l6Seen_any n h8)
  have HPX := Lib.hid (fun f => plR_lt n f)
  have hfx : (fact n : Int) ≤ 40320 := by have := fact_le h8; omega
  generalize hall : allA n fs = res at *
  have HALL := Lib.hid hall
  generalize strOf n (rdf n) = s1 at *
  generalize fact n = fn at *
  clear hcc hm hcap ha hg hrd hrn hr0 hf0 hall
  clear h0
  go_enter Try.func68, Try.ntmps68
  go_wp2
  go_quiet ((go_at_call 100; exact Calls.quiet_of_same (HRN.out _)))
  go_wp2_with fail
  refine (HSN.out _).mono ?_
  rintro e w1 ⟨rfl, hs1, hb1⟩
  have HB1 := Lib.hid ((drawnBelow (Below.refl w.heap.size w) _).trans hb1)
  have HS1 : Hid (SeenAt w1 w.heap.size n []) := Lib.hid hs1
  clear hs1 hb1
  go_wp2
  clear c0
  go_loopg [31] m (fun q i wr => ∃ j : Nat, q + j = m ∧ i = .int .i64 j ∧ SeenAt wr w.heap.size n (rowsIn (fs.take j)) ∧ Below w.heap.size w wr)
  case atStart => exact ⟨0, by omega, rfl, HS1.out, HB1.out⟩
  case round =>
    clear HS1 HB1
    obtain ⟨j, hq, rfl, hs, hb⟩ := hrel
    have HQI := Lib.hid hq
    have HS := Lib.hid hs
    have HB := Lib.hid hb
    clear hq hs hb
    by_cases hlt : j < m
    · have hjx : j < fs.length := by rw [HM.out]; exact hlt
      have hrow := HG.out _ (List.getElem_mem hjx)
      have c2 := (HB.out.cell (p := ⟨gb, off + j, none⟩) hgb).trans (HCC.out j hjx)
      have hset := rowsIn_take hjx
      generalize fs[j] = x at *
      have hji : (j : Int) < m := by omega
      have HSET := Lib.hid hset
      have HROW := Lib.hid hrow
      have HPY := Lib.hid (fun w => HPL.out x w hrow)
      have hpy : (plR n x : Int) < (fn : Int) := by have := HPX.out x; omega
      generalize strOf n x = sx at *
      generalize hplr : plR n x = py at *
      have HPLR := Lib.hid hplr
      clear hset hrow hplr
      go_wp2_with fail
      refine (HPY.out _).mono ?_
      rintro e w6 ⟨rfl, hb6⟩
      have HS6 := Lib.hid (HS.out.kept hb6)
      have HB6 := Lib.hid (HB.out.trans (hb6.mono HB.out.size))
      have hc6 := HS6.out.cell HROW.out
      rw [HPLR.out] at hc6
      obtain ⟨c6, f6⟩ := hc6
      have hs7 := HS6.out.set HROW.out
      rw [HPLR.out, ← HSET.out] at hs7
      have HS7 := Lib.hid hs7
      have HB7 := Lib.hid (HB6.out.setCell (p := ⟨w.heap.size, py, none⟩) (Nat.le_refl w.heap.size) (.bool true))
      clear hb6 HS HB hs7 HS6 HB6
      go_wp2
      go_roundg (gk - 1)
      case measure => have := HQI.out; omega
      case rel => exact ⟨j + 1, by have := HQI.out; omega, by go_num, HS7.out, HB7.out⟩
    · obtain rfl : j = m := by have := HQI.out; omega
      have hs := HS.out
      rw [List.take_of_length_le (by rw [HM.out]; exact Nat.le_refl _)] at hs
      have HS1 := Lib.hid hs
      clear hs HS hlt HQI
      go_wp2
      go_loopg [42] j (fun q i wr => ∃ t : Nat, q + t = j ∧ i = .int .i64 t ∧ (fs.take t).all (rowA n fs) = true ∧ SeenAt wr w.heap.size n (rowsIn fs) ∧ Below w.heap.size w wr)
      case atStart => exact ⟨0, by omega, rfl, by simp, HS1.out, HB.out⟩
      case round =>
        clear HS1 HB
        obtain ⟨t, hq, rfl, hall, hs, hb⟩ := hrel
        have HQI := Lib.hid hq
        have HS := Lib.hid hs
        have HB := Lib.hid hb
        have HAL := Lib.hid hall
        clear hq hs hb hall
        by_cases hlt : t < j
        · obtain ⟨qo, rfl⟩ : ∃ q', gk = q' + 1 := ⟨gk - 1, by have := HQI.out; omega⟩
          have htx : t < fs.length := by rw [HM.out]; exact hlt
          have hrowa := HG.out _ (List.getElem_mem htx)
          have c2 := (HB.out.cell (p := ⟨gb, off + t, none⟩) hgb).trans (HCC.out t htx)
          have HTK : Hid (fs.take (t + 1) = fs.take t ++ [fs[t]]) := Lib.hid (by rw [List.take_add_one, List.getElem?_eq_getElem htx]; rfl)
          have HMA := Lib.hid (List.getElem_mem htx)
          generalize fs[t] = xa at *
          have hti : (t : Int) < j := by omega
          have HRA := Lib.hid hrowa
          clear hrowa
          have HTA := Lib.hid (fun x w (hx : IsRow n x) => HTM.out xa x w HRA.out hx)
          generalize hsa : strOf n xa = sa at *
          clear hsa
          go_wp2
          go_loopg [48] j (fun q i wr => ∃ k : Nat, q + k = j ∧ i = .int .i64 k ∧ (fs.take k).all (fun b => inB (mulR n xa b) fs) = true ∧ SeenAt wr w.heap.size n (rowsIn fs) ∧ Below w.heap.size w wr)
          case atStart => exact ⟨0, by omega, rfl, by simp, HS.out, HB.out⟩
          case round =>
            clear HS HB c2
            obtain ⟨k, hq, rfl, hall, hs, hb⟩ := hrel
            have HQK := Lib.hid hq
            have HS := Lib.hid hs
            have HB := Lib.hid hb
            have HAK := Lib.hid hall
            clear hq hs hb hall
            by_cases hlk : k < j
            · have hkx : k < fs.length := by rw [HM.out]; exact hlk
              have hrowb := HG.out _ (List.getElem_mem hkx)
              have c2 := (HB.out.cell (p := ⟨gb, off + k, none⟩) hgb).trans (HCC.out k hkx)
              have HTKK : Hid (fs.take (k + 1) = fs.take k ++ [fs[k]]) := Lib.hid (by rw [List.take_add_one, List.getElem?_eq_getElem hkx]; rfl)
              have HMB := Lib.hid (List.getElem_mem hkx)
              generalize fs[k] = x at *
              have hki : (k : Int) < j := by omega
              have HTX : Hid (∀ w, Calls _ _ #[.string sa, .string (strOf n x)] w _) := Lib.hid (fun w => HTA.out x w hrowb)
              have hmul : strOf n (mulF xa x) = strOf n (mulR n xa x) := strOf_mul _ _
              rw [hmul] at HTX
              have hyr : IsRow n (mulR n xa x) := isRow_mul HRA.out hrowb
              have HNO : Hid (inB (mulR n xa x) fs = false → res = false) := Lib.hid (fun h => by rw [← HALL.out]; exact allA_no HMA.out HMB.out h)
              have HYES : Hid (inB (mulR n xa x) fs = true → (fs.take (k + 1)).all (fun b => inB (mulR n xa b) fs) = true) := Lib.hid (fun h => by
                rw [HTKK.out, List.all_append, HAK.out]
                simp [h])
              generalize mulR n xa x = y at *
              have HYR := Lib.hid hyr
              have HPY := Lib.hid (fun w => HPL.out y w hyr)
              have hpy : (plR n y : Int) < (fn : Int) := by have := HPX.out y; omega
              generalize strOf n x = sx at *
              clear hrowb hmul hyr
              generalize strOf n y = sy at *
              generalize hplr : plR n y = py at *
              have HPLR := Lib.hid hplr
              clear hplr
              go_wp2_with fail
              refine (HTX.out _).mono ?_
              rintro e w5 ⟨rfl, rfl⟩
              clear HTX
              go_wp2_with fail
              refine (HPY.out _).mono ?_
              rintro e w6 ⟨rfl, hb6⟩
              have HS6 := Lib.hid (HS.out.kept hb6)
              have HB6 := Lib.hid (HB.out.trans (hb6.mono HB.out.size))
              have hc6 := HS6.out.cell HYR.out
              rw [HPLR.out, inB_rowsIn] at hc6
              obtain ⟨c6, f6⟩ := hc6
              clear hb6 HS HB
              cases hin : inB y fs
              · rw [hin] at c6
                have := HNO.out hin
                subst this
                go_wp2
                go_ret
                exact ⟨rfl, HB6.out⟩
              · rw [hin] at c6
                have HY := Lib.hid (HYES.out hin)
                go_wp2
                go_roundg (gk - 1)
                case measure => have := HQK.out; omega
                case rel => exact ⟨k + 1, by have := HQK.out; omega, by go_num, HY.out, HS6.out, HB6.out⟩
            · obtain rfl : k = j := by have := HQK.out; omega
              have hra : rowA n fs xa = true := by
                have := HAK.out
                rw [List.take_of_length_le (by rw [HM.out]; exact Nat.le_refl _)] at this
                exact this
              have HY : Hid ((fs.take (t + 1)).all (rowA n fs) = true) := Lib.hid (by
                rw [HTK.out, List.all_append, HAL.out]
                simp [hra])
              clear hra hlk
              go_wp2
              go_roundg qo
              case measure => omega
              case rel => exact ⟨t + 1, by have := HQI.out; omega, by go_num, HY.out, HS.out, HB.out⟩
        · obtain rfl : t = j := by have := HQI.out; omega
          have hr : true = res := by
            rw [← HALL.out]
            have := HAL.out
            rw [List.take_of_length_le (by rw [HM.out]; exact Nat.le_refl _)] at this
            exact this.symm
          subst hr
          clear hlt HALL
          go_wp2
          go_ret
          exact ⟨rfl, HB.out⟩
end Go.Proofs.Ytapcfojnljnoaaa
