/- The group that rows generate, in the model. -/
import Derived.Test.YtapcfojnljnoaaaSR
namespace Go.Proofs.Ytapcfojnljnoaaa
open Go.RowKit
set_option linter.unusedSimpArgs false
set_option linter.unusedVariables false

theorem l1PlaceR {n : Nat} {f : Nat → Nat} (hf : IsRow n f) (w : World) : Calls Try.prog 102 #[.string (strOf n f)] w fun e w' => e = .returned (.int .i64 (plR n f)) ∧ Below w.heap.size w w' := l1Place_any n f hf w
theorem strs_rowsL_get (n : Nat) (fs : List (Nat → Nat)) (k : Nat) (hk : k < fs.length) : (strs (rowsL n fs))[k]? = some (.string (strOf n fs[k])) := by
  simp [strs, rowsL, List.getElem?_eq_getElem hk, txt_rowL]
theorem SeenAt.apart {B W} {T : TypeId} {v : Value} {xs : List Value} {g n : Nat} {S : List (Nat → Nat)} (h : New B W T v xs) (hs : SeenAt W g n S) (hne : T ≠ 4) : v.ownBlock ≠ some g := by
  obtain ⟨cs, h1, _⟩ := hs
  exact h.apartRow h1 hne
def closeT (n : Nat) (r : Option (List (Nat → Nat))) : List (List Nat) := match r with | some G => rowsL n (sortF n G) | none => []
theorem closeT_some (n : Nat) (G : List (Nat → Nat)) : closeT n (some G) = rowsL n (sortF n G) := rfl
theorem closeT_none (n : Nat) : closeT n none = [] := rfl

set_option maxRecDepth 100000 in
set_option maxHeartbeats 1000000 in
theorem l6Close_any (n : Nat) (v : Value) (gens : List (Nat → Nat)) (hg : Rows n gens) (h0 : 0 < gens.length) (hl : gens.length ≤ 1000) (w : World) (h : Txts w v (rowsL n gens)) :
    Calls Try.prog 64 #[v] w (TextsAny (closeT n (bfsR n gens)) (bfsR n gens).isSome w) := by
  obtain ⟨m, hm⟩ : ∃ m, gens.length = m := ⟨_, rfl⟩
  obtain ⟨a, cap, rfl, hcap, ha⟩ := h
  have hr0 := hg _ (List.getElem_mem h0)
  have h3 := hr0.three
  have h8 := hr0.eight
  rw [rowsL_len, hm] at ha ⊢
  rw [hm] at hl
  have hl' : (m : Int) ≤ 1000 := by omega
  have hc2 : ∃ g off, a = some ⟨g, off, none⟩ ∧ g < w.heap.size ∧ ∀ j (hj : j < gens.length), w.cell? ⟨g, off + j, none⟩ = some (.string (strOf n gens[j])) := by
    obtain ⟨g, off, e, hg, hcc⟩ := ha (by omega)
    refine ⟨g, off, e, hg, fun j hj => ?_⟩
    rw [hcc j (by rw [← hm]; exact hj), rowsL, List.getD_eq_getElem?_getD, List.getElem?_map, List.getElem?_eq_getElem hj, Option.map_some, Option.getD_some, txt_rowL]
  obtain ⟨gb, off, rfl, hgb, hcc⟩ := hc2
  have c0 := hcc 0 h0
  rw [Nat.add_zero] at c0
  have hs0 : (strOf n gens[0]).size = n := strOf_size _ _
  generalize strOf n gens[0] = s0 at *
  have HCC := Lib.hid hcc
  have HM := Lib.hid hm
  have HG := Lib.hid hg
  have hsort : ∀ G, bfsR n gens = some G → G.length ≤ 800 ∧ Rows n G := fun G e => by
    have := bfsR_spec hg
    rw [e] at this
    exact ⟨this.len, this.rows h3 h8 hg⟩
  have HSO := Lib.hid hsort
  obtain ⟨i0, hi0, hz0, hz1, hz2⟩ := info_parts infoText
  have I0 := Lib.hid (⟨hi0, hz0, hz1, hz2⟩ : _ ∧ _ ∧ _ ∧ _)
  have HTM := Lib.hid (fun f g w (hf : IsRow n f) (hg : IsRow n g) => l1Times_any n f g (strOf n f) (strOf n g) (isStr_row hf) (isStr_row hg) hf.eight (fun i hi => ⟨hg.lo i hi, hg.hi i hi⟩) w)
  have HPL := Lib.hid (fun f w (hf : IsRow n f) => l1PlaceR hf w)
  have hmp : (0 : Int) < (m : Int) := by omega
  have hrd := isRow_rdf h3 h8
  have HRN := Lib.hid (l1Rounds_any n h8)
  have HSN := Lib.hid (l6Seen_any n h8)
  have HRW := Lib.hid hrd
  rw [← strOf_rdf] at HRN
  have HP0 := Lib.hid (fun w => l1PlaceR hrd w)
  have hs1 : (strOf n (rdf n)).size = n := strOf_size _ _
  have hp0 : (plR n (rdf n) : Int) < (fact n : Nat) := by have := plR_lt n (rdf n); omega
  have HPX := Lib.hid (fun f => plR_lt n f)
  have hfx : (fact n : Int) ≤ 40320 := by have := fact_le h8; omega
  generalize hres : bfsR n gens = res at *
  have HRES := Lib.hid hres
  clear hcc hm hcap ha hg hi0 hz0 hz1 hz2 hrd hsort hres hr0 h0
  generalize hst : strOf n (rdf n) = s1 at *
  generalize hpl : plR n (rdf n) = p0 at *
  have HST := Lib.hid hst
  have HPE := Lib.hid hpl
  generalize hfn : fact n = fn at *
  have HFN := Lib.hid hfn
  clear hst hpl hfn
  go_enter Try.func64, Try.ntmps64
  go_wp2_with fail
  refine (HRN.out _).mono ?_
  rintro e w1 ⟨rfl, rfl⟩
  go_wp2_with fail
  refine (HSN.out _).mono ?_
  rintro e w1 ⟨rfl, hs1, hb1⟩
  have HS1 := Lib.hid hs1
  have HB1 := Lib.hid hb1
  have HGS : Hid (w.heap.size ≤ w.heap.size) := Lib.hid (Nat.le_refl _)
  clear hs1 hb1
  go_wp2_with fail
  refine (HP0.out _).mono ?_
  rintro e w2 ⟨rfl, hb2⟩
  have HS2 := Lib.hid (HS1.out.kept hb2)
  have HB2 := Lib.hid (HB1.out.trans (hb2.mono HB1.out.size))
  have hc := HS2.out.cell HRW.out
  rw [HPE.out] at hc
  obtain ⟨c1, f1⟩ := hc
  have hs3 := HS2.out.set HRW.out
  rw [HPE.out] at hs3
  have HS3 := Lib.hid hs3
  have HB3 := Lib.hid (HB2.out.setCell (p := ⟨w.heap.size, p0, none⟩) (Nat.le_refl w.heap.size) (.bool true))
  clear hb2 hs3 HS1 HB1
  have hl1 := Own.lit (w2.setCell ⟨w.heap.size, p0, none⟩ (.bool true)) 9 [.string s1] (by simp)
  have hwz : w.heap.size ≤ w2.heap.size := HB2.out.size
  have HN3 : Hid (New w.heap.size ((w2.setCell ⟨w.heap.size, p0, none⟩ (.bool true)).alloc (.cells #[.string s1] 9)) 9 (.slice (some ⟨w2.heap.size, 0, none⟩) 1 1) (strs (rowsL n [rdf n]))) := Lib.hid (by
    have hz : (w2.setCell ⟨w.heap.size, p0, none⟩ (.bool true)).heap.size = w2.heap.size := by simp
    rw [hz] at hl1
    refine ⟨?_, fun g hg => by simp [Value.ownBlock] at hg; omega⟩
    have e : strs (rowsL n [rdf n]) = [.string s1] := by simp [strs, rowsL, txt_rowL, HST.out]
    rw [e]
    exact hl1)
  have HS4 := Lib.hid (HS3.out.kept ((Below.refl _ _).alloc (Nat.le_refl _) (.cells #[.string s1] 9)))
  have HB4 := Lib.hid (HB3.out.alloc HB3.out.size (.cells #[.string s1] 9))
  clear hl1 HS2 HB2 HS3 HB3
  go_wp2
  clear c0 c1 f1
  go_loopg [6, 7] 802 (fun q wv i wr => ∃ (k : Nat) (out : List (Nat → Nat)), q + k = 802 ∧ i = .int .i64 k ∧ k ≤ out.length ∧ out.length ≤ 800 ∧ Rows n out ∧ New w.heap.size wr 9 wv (strs (rowsL n out)) ∧ SeenAt wr w.heap.size n out ∧ bfs n gens q k out = res ∧ Below w.heap.size w wr)
  case atStart => exact ⟨0, [rdf n], rfl, rfl, by simp, by simp, fun x hx => by simp at hx; rw [hx]; exact HRW.out, HN3.out, by have := HS4.out; rwa [show withF [] (rdf n) = [rdf n] from rfl] at this, HRES.out, HB4.out⟩
  case round =>
    clear HN3 HS4 HRES HB4
    obtain ⟨k, out, hq, rfl, hk, h800, hro, hn, hs, hr, hb⟩ := hrel
    obtain ⟨qq, rfl⟩ : ∃ q', gk = q' + 1 := ⟨gk - 1, by omega⟩
    have HQQ := Lib.hid hq
    have HN := Lib.hid hn
    have HS := Lib.hid hs
    have HB := Lib.hid hb
    have HL8 := Lib.hid h800
    have HRO := Lib.hid hro
    unfold bfs at hr
    obtain ⟨ol, hol⟩ : ∃ k', out.length = k' := ⟨_, rfl⟩
    obtain ⟨ua, uc, rfl, -⟩ := hn.own.view
    have hsl : (strs (rowsL n out)).length = ol := by rw [strs_len, rowsL_len, hol]
    rw [hsl] at HN ⊢
    have HOL := Lib.hid hol
    clear hq hn hs hb h800 hro
    by_cases hlt : k < out.length
    · rw [dif_pos hlt] at hr
      generalize hf0 : out[k] = f0 at *
      have HR := Lib.hid hr
      have hf0r : IsRow n f0 := by rw [← hf0]; exact HRO.out _ (List.getElem_mem hlt)
      have HF0 := Lib.hid hf0r
      have HLT := Lib.hid hlt
      have hpos : (k : Int) < (ol : Int) := by omega
      have HF0E : Hid (∀ t, (out ++ t)[k]? = some f0) := Lib.hid (fun t => by rw [List.getElem?_append_left hlt, List.getElem?_eq_getElem hlt, hf0])
      clear hr hf0r hlt hf0 hol hsl
      go_wp2
      clear hpos
      go_loopg [33, 6] m (fun q i wv wr => ∃ (j : Nat) (o2 t2 : List (Nat → Nat)), q + j = m ∧ i = .int .i64 j ∧ o2 = out ++ t2 ∧ o2.length ≤ out.length + j ∧ Rows n o2 ∧ New w.heap.size wr 9 wv (strs (rowsL n o2)) ∧ SeenAt wr w.heap.size n o2 ∧ stepF n f0 (gens.drop j) o2 = stepF n f0 gens out ∧ Below w.heap.size w wr)
      case atStart => exact ⟨0, out, [], by omega, rfl, by simp, by omega, HRO.out, HN.out, HS.out, rfl, HB.out⟩
      case round =>
        clear HN HS HB
        obtain ⟨j, o2, t2, hq, rfl, ho2, hl2, hro, hn, hs, hst, hb⟩ := hrel
        have HQI := Lib.hid hq
        have HN := Lib.hid hn
        have HS := Lib.hid hs
        have HB := Lib.hid hb
        have HST2 := Lib.hid hst
        have HL2 := Lib.hid hl2
        have HO2 := Lib.hid ho2
        have HRO2 := Lib.hid hro
        have hko : k < o2.length := by rw [ho2, List.length_append]; have := HLT.out; omega
        have hk2 : o2[k] = f0 := by
          have := HF0E.out t2
          rw [← ho2, List.getElem?_eq_getElem hko] at this
          exact Option.some.inj this
        have hcell := strs_rowsL_get n o2 k hko
        rw [hk2] at hcell
        obtain ⟨o2l, ho2l⟩ : ∃ k', o2.length = k' := ⟨_, rfl⟩
        obtain ⟨ua, uc, rfl, hua⟩ := hn.own.view
        have hsl : (strs (rowsL n o2)).length = o2l := by rw [strs_len, rowsL_len, ho2l]
        rw [hsl] at HN hua ⊢
        obtain ⟨gu, rfl⟩ := hua (by omega)
        have c1 := HN.out.own.cell k _ hcell
        have hki : (k : Int) < (o2l : Int) := by omega
        have HOL2 := Lib.hid ho2l
        clear hq hn hs hb hst hl2 ho2 hro hcell hsl hko ho2l hk2
        by_cases hlt : j < m
        · have hjx : j < gens.length := by rw [HM.out]; exact hlt
          have hrow := HG.out _ (List.getElem_mem hjx)
          have c2 := (HB.out.cell (p := ⟨gb, off + j, none⟩) hgb).trans (HCC.out j hjx)
          have hst := HST2.out
          rw [List.drop_eq_getElem_cons hjx, stepF_cons] at hst
          generalize gens[j] = x at *
          have hji : (j : Int) < m := by omega
          have HTX : Hid (∀ w, Calls _ _ #[.string (strOf n f0), .string (strOf n x)] w _) := Lib.hid (fun w => HTM.out f0 x w HF0.out hrow)
          have hmul : strOf n (mulF f0 x) = strOf n (mulR n f0 x) := strOf_mul _ _
          rw [hmul] at HTX
          have hyr : IsRow n (mulR n f0 x) := isRow_mul HF0.out hrow
          have HST3 := Lib.hid hst
          generalize mulR n f0 x = y at *
          have HYR := Lib.hid hyr
          have HPY := Lib.hid (fun w => HPL.out y w hyr)
          have hpy : (plR n y : Int) < (fn : Int) := by have := HPX.out y; omega
          have htxt : Value.string (strOf n y) = .string (txt (rowL n y)) := by rw [txt_rowL]
          have HTXT := Lib.hid htxt
          generalize strOf n x = sx at *
          generalize strOf n f0 = sf at *
          clear hst HST2 hrow hmul hyr htxt
          generalize strOf n y = sy at *
          generalize hplr : plR n y = py at *
          have HPLR := Lib.hid hplr
          clear hplr
          go_wp2_with fail
          refine (HTX.out _).mono ?_
          rintro e w5 ⟨rfl, rfl⟩
          clear HTX
          go_wp2_with fail
          refine (HPY.out _).mono ?_
          rintro e w6 ⟨rfl, hb6⟩
          have HS6 := Lib.hid (HS.out.kept hb6)
          have HN6 := Lib.hid (HN.out.kept hb6)
          have HB6 := Lib.hid (HB.out.trans (hb6.mono HB.out.size))
          have hc6 := HS6.out.cell HYR.out
          rw [HPLR.out] at hc6
          obtain ⟨c6, f6⟩ := hc6
          clear hb6 HS HN HB
          cases hin : inB y o2
          · rw [hin] at c6
            have hout := inB_no.1 hin
            have HW := Lib.hid (with_new hout)
            clear hout
            go_wp2_with fail
            refine (HPY.out _).mono ?_
            rintro e w7 ⟨rfl, hb7⟩
            have HS7 := Lib.hid (HS6.out.kept hb7)
            have HN7 := Lib.hid (HN6.out.kept hb7)
            have HB7 := Lib.hid (HB6.out.trans (hb7.mono HB6.out.size))
            have hc7 := HS7.out.cell HYR.out
            rw [HPLR.out, hin] at hc7
            obtain ⟨c7, f7⟩ := hc7
            have hap := SeenAt.apart HN7.out HS7.out (by decide)
            have hs8 := HS7.out.set HYR.out
            rw [HPLR.out, HW.out] at hs8
            have HS8 := Lib.hid hs8
            have HN8 := Lib.hid (HN7.out.setOther w.heap.size py (.bool true) hap)
            have HB8 := Lib.hid (HB7.out.setCell (p := ⟨w.heap.size, py, none⟩) (Nat.le_refl w.heap.size) (.bool true))
            have HZ8 : Hid ((w7.setCell ⟨w.heap.size, py, none⟩ (.bool true)).heap.size = w7.heap.size) := Lib.hid (by simp)
            clear hb7 HS6 HN6 HB6 hap hs8 HS7 HN7 HB7
            go_wp2_with (at_builtin; refine wpList_app1 rfl (.tmp 53) (.tmp 55) 22 rfl 9 i0 (.string ⟨#[]⟩) 16 Try.underlying22 I0.out.1 I0.out.2.1 I0.out.2.2.1 I0.out.2.2.2 rfl w.heap.size w _ (strs (rowsL n o2)) rfl HN8.out (by rw [HZ8.out]; rfl) rfl HB8.out.size HB8.out (by rw [strs_len, rowsL_len, HOL2.out]; have h1 := HL2.out; have h2 := HL8.out; have h3 := HOL2.out; omega) (by omega) ?_)
            intro v9 w9 hn9 hk9 hb9 _
            rw [HTXT.out, strs_snoc, show rowsL n o2 ++ [rowL n y] = rowsL n (o2 ++ [y]) by simp [rowsL]] at hn9
            have HN9 := Lib.hid hn9
            have HB9 := Lib.hid hb9
            have hap := SeenAt.apart HN8.out HS8.out (by decide)
            have HS9 := Lib.hid (HS8.out.keptBut hk9 hap)
            obtain ⟨ua9, uc9, rfl, -⟩ := hn9.own.view
            clear hn9 hb9 hk9 hap HN8 HS8 HB8
            go_wp2
            go_roundg (gk - 1)
            case measure => have := HQI.out; omega
            case rel =>
              refine ⟨j + 1, o2 ++ [y], t2 ++ [y], by have := HQI.out; omega, by go_num, by rw [HO2.out, List.append_assoc], by rw [List.length_append]; have := HL2.out; simp; omega, ?_, HN9.out, HS9.out, ?_, HB9.out⟩
              · intro z hz
                rcases List.mem_append.1 hz with hz | hz
                · exact HRO2.out z hz
                · simp at hz; rw [hz]; exact HYR.out
              · rw [← HW.out]; exact HST3.out
          · rw [hin] at c6
            have hinn := inB_iff.1 hin
            have HW := Lib.hid (with_in hinn)
            clear hinn
            go_wp2
            go_roundg (gk - 1)
            case measure => have := HQI.out; omega
            case rel =>
              exact ⟨j + 1, o2, t2, by have := HQI.out; omega, by go_num, HO2.out, by have := HL2.out; omega, HRO2.out, by have := HN6.out; exact this, HS6.out, by have := HST3.out; rwa [HW.out] at this, HB6.out⟩
        · obtain rfl : j = m := by have := HQI.out; omega
          have hst := HST2.out
          rw [List.drop_eq_nil_of_le (by rw [HM.out]; exact Nat.le_refl _)] at hst
          have hst : o2 = stepF n f0 gens out := hst
          have hr := HR.out
          rw [← hst, HOL2.out] at hr
          by_cases h8b : 800 < o2l
          · rw [if_pos h8b] at hr
            have hbi : (800 : Int) < (o2l : Int) := by omega
            clear hst HST2
            subst hr
            go_wp2
            go_ret2
            exact ⟨_, rfl, New.nil _ _ _, HB.out⟩
          · rw [if_neg h8b] at hr
            have hbi : ¬ (800 : Int) < (o2l : Int) := by omega
            have HR2 := Lib.hid hr
            have hkl : k + 1 ≤ o2.length := by rw [HO2.out, List.length_append]; have := HLT.out; omega
            clear hst hr HST2 HR
            go_wp2
            go_roundg qq
            case measure => omega
            case rel => exact ⟨k + 1, o2, by have := HQQ.out; omega, by go_num, hkl, by have := HOL2.out; omega, HRO2.out, HN.out, HS.out, HR2.out, HB.out⟩
    · rw [dif_neg hlt] at hr
      have hki : ¬ (k : Int) < (ol : Int) := by omega
      subst hr
      have HSR := Lib.hid (fun w h => l6Sort_any n 1000 out (by have := HL8.out; omega) (by omega) HRO.out (.slice ua ol uc) w h)
      unfold TextsOut at HSR
      have HTX := Lib.hid HN.out.own.txts
      clear hlt hol hsl hk
      go_wp2_with fail
      refine (HSR.out _ HTX.out).mono ?_
      rintro e w9 ⟨v9, rfl, hn9, hb9⟩
      have HN9 := Lib.hid (hn9.lower HB.out.size)
      have HB9 := Lib.hid (HB.out.trans (hb9.mono HB.out.size))
      clear hn9 hb9
      go_wp2
      go_ret2
      exact ⟨_, rfl, HN9.out, HB9.out⟩
end Go.Proofs.Ytapcfojnljnoaaa
