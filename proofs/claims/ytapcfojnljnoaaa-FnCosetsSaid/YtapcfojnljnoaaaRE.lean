/- CosetsIn, the model. -/
import Derived.Test.YtapcfojnljnoaaaRD
import Derived.Deep.RegionHeld
import Derived.BigGuardPart
namespace Go.Proofs.Ytapcfojnljnoaaa
open Go.RowKit
set_option linter.unusedSimpArgs false
set_option linter.unusedVariables false

section
variable {P : Program} {ops : Array Oper} {Q : Exit → Act → World → Prop} {md : Region.Mode} {S : World → Prop} {fuel : Nat} {listed : Array Bool} {a : Act} {w : World}
/-- an operation that is not wanted is passed over -/
theorem heldSkip (i : Nat) (d : Option Tmp) (hi : ∃ oi, ops[i]? = some oi ∧ oi.dst = d ∧ Region.wanted oi (yielded ops a.tmps) = false) (hs : Region.noSelect ops = true) (hf : Region.free md ops listed i = true) (hr : (Region.ready md ops listed).contains i = true)
    (hQ : ∀ c a w, Q (.panic c) (a.put d undef) w → Q (.panic c) a w) (hS : S w) (h : wpAnyH P md ops Q S fuel (listed.setIfInBounds i true) (a.put d undef) w) : wpAnyH P md ops Q S (fuel + 1) listed a w := by
  obtain ⟨oi, h1, rfl, h3⟩ := hi
  exact wpAnyH_take h1 hs hf hr hQ (.inr ⟨h3, rfl⟩) hS h
/-- an operation that is wanted and yields v -/
theorem heldTake (i : Nat) (d : Option Tmp) (v : Value) (hi : ∃ oi, ops[i]? = some oi ∧ oi.dst = d ∧ Region.wanted oi (yielded ops a.tmps) = true ∧ ∀ w, S w → (execOp a.eval oi).run P w = .ok (.value v) w) (hs : Region.noSelect ops = true) (hf : Region.free md ops listed i = true) (hr : (Region.ready md ops listed).contains i = true)
    (hQ : ∀ c a w, Q (.panic c) (a.put d v) w → Q (.panic c) a w) (hS : S w) (h : wpAnyH P md ops Q S fuel (listed.setIfInBounds i true) (a.put d v) w) : wpAnyH P md ops Q S (fuel + 1) listed a w := by
  obtain ⟨oi, h1, rfl, h3, h4⟩ := hi
  exact wpAnyH_take h1 hs hf hr hQ (.inl ⟨h3, h4⟩) hS h
/-- the one operation that may come up is not wanted -/
theorem heldPass (i : Nat) (d : Option Tmp) (hi : ∃ oi, ops[i]? = some oi ∧ oi.dst = d ∧ Region.wanted oi (yielded ops a.tmps) = false) (hr : Region.ready md ops listed = [i]) (hS : S w)
    (h : wpAnyH P md ops Q S fuel (listed.setIfInBounds i true) (a.put d undef) w) : wpAnyH P md ops Q S (fuel + 1) listed a w := by
  obtain ⟨oi, h1, rfl, h3⟩ := hi
  refine wpAnyH_ready hr (by simp) (AllReadyH.cons h1 (fun K hK => ?_) AllReadyH.nil)
  rw [if_neg (by rw [h3]; simp)]
  exact hK.out _ _ hS fun _ => h
end
theorem ded_rows' {n : Nat} : ∀ {fs out : List (Nat → Nat)}, Rows n fs → Rows n out → Rows n (fs.foldl dedS out)
  | [], out, _, h => h
  | f :: fs, out, hf, h => by
    rw [List.foldl_cons]
    refine ded_rows' hf.tail ?_
    unfold dedS
    split
    · exact h
    · intro x hx
      rcases List.mem_append.1 hx with hx | hx
      · exact h x hx
      · simp at hx; rw [hx]; exact hf.head
theorem ded_rows {n : Nat} {fs : List (Nat → Nat)} (h : Rows n fs) : Rows n (fs.foldl dedS []) := ded_rows' h fun x hx => by simp at hx
theorem l6LeastC (n : Nat) (x : Nat → Nat) (v : Value) (gs : List (Nat → Nat)) (hx : IsRow n x) (hg : Rows n gs) (hG : IsGrp n gs) (hl : gs.length ≤ 1000) (w : World) (h : Txts w v (rowsL n (gs.map (mulR n x)))) :
    Calls Try.prog 72 #[v] w fun e w' => e = .returned (.string (strOf n (leastF n gs x))) ∧ Below w.heap.size w w' := by
  have h0 : 0 < (sortF n (gs.map (mulR n x))).length := cos_pos (n := n) (gs := gs) (x := x) hG
  have := l6Least_any n v (gs.map (mulR n x)) (rows_map hx hg) h0 (by rw [List.length_map]; exact hl) w h
  rw [least_get (cos_pos hG)]
  exact this
theorem rows_cells {w : World} {g off m cap n : Nat} {fs : List (Nat → Nat)} (h : Txts w (.slice (some ⟨g, off, none⟩) m cap) (rowsL n fs)) : ∀ j (hj : j < fs.length), w.cell? ⟨g, off + j, none⟩ = some (.string (strOf n fs[j])) := by
  intro j hj
  obtain ⟨a', cap', e, _, ha⟩ := h
  injection e with e1 e2 e3
  subst e1
  obtain ⟨g', off', e, hg, hc⟩ := ha (by rw [rowsL_len]; omega)
  injection e with e
  injection e with e4 e5
  subst e4 e5
  rw [hc j (by rw [rowsL_len]; exact hj), rowsL, List.getD_eq_getElem?_getD, List.getElem?_map, List.getElem?_eq_getElem hj, Option.map_some, Option.getD_some, txt_rowL]
theorem listB_at {n : Nat} {L : List (List Nat)} : (listB L && !(decide (0 < L.length) && !decide (firstN L = n))) = rowsB n L := by
  cases L with
  | nil => simp [listB, rowsB]
  | cons x t =>
    have h1 : listB (x :: t) = rowsB x.length (x :: t) := rfl
    have h2 : firstN (x :: t) = x.length := rfl
    rw [h1, h2]
    by_cases hx : x.length = n
    · simp [hx]
    · rw [decide_eq_false hx]
      have : rowsB n (x :: t) = false := by
        have : rowB n x = false := by simp [rowB]; intro _; omega
        simp [rowsB, this]
      rw [this]; simp

set_option maxRecDepth 100000 in
set_option maxHeartbeats 1000000 in
theorem sCosetsIn_any (v u : Value) (L M : List (List Nat)) (w : World) (h : Txts w v L) (hu : Txts w u M) (hl : L.length ≤ 2000000) (hs : ∀ l ∈ L, l.length ≤ maxLen) (hl2 : M.length ≤ 2000000) (hs2 : ∀ l ∈ M, l.length ≤ maxLen) :
    Calls Try.prog 33 #[v, u] w (TextsAny (ciL L M) (ciB L M) w) := by
  have hC := fun w h => l6Rising_any v L w h hl hs
  have hC : ∀ w, Txts w v L → Calls Try.prog 67 #[v] w fun e w' => e = .returned (.bool (riseB L)) ∧ Below w.heap.size w w' := hC
  have HC := Lib.hid hC
  have HR := Lib.hid (fun w h => l6Rows_any u M w h hl2 hs2)
  have HT := Lib.hid h
  have HU := Lib.hid hu
  have HW0 : Hid (Below w.heap.size w w.drew) := Lib.hid (Below.refl _ _).drew
  unfold TextsAny
  clear hC
  obtain ⟨m, hm⟩ : ∃ m, L.length = m := ⟨_, rfl⟩
  obtain ⟨um, hum⟩ : ∃ m, M.length = m := ⟨_, rfl⟩
  obtain ⟨a, cap, rfl, -, -⟩ := id h
  obtain ⟨ub, uc, rfl, -, -⟩ := id hu
  by_cases hr : riseB L = true
  · have HG := Lib.hid (fun w (h : Txts w (.slice a L.length cap) L) => l6Group_rise (.slice a L.length cap) L hr w h)
    by_cases hg : isG L = true
    · obtain ⟨_, hb, h0, h3, h8, hrows, hrise, hgrp, hfl⟩ := isG_facts hg
      obtain ⟨g, off, s0, rfl, hgl, c0, hs0⟩ := txts_first h h0
      have hmp : (0 : Int) < (m : Int) := by omega
      by_cases hlb : listB M = true
      · by_cases hz : rowsB (firstN L) M = true
        · have hB : ciB L M = true := by unfold ciB; rw [hg, hz]; rfl
          rw [ciL_yes hB, hB]
          by_cases hM0 : 0 < M.length
          · have hfe : firstN M = firstN L := by
              have := listB_at (n := firstN L) (L := M)
              rw [hz, hlb, decide_eq_true hM0] at this
              simpa using this
            have hMT := Txts.rows hu hz
            obtain ⟨gu, ou, su, rfl, hgu, cu, hsu⟩ := txts_first hu hM0
            have hump : (0 : Int) < (um : Int) := by omega
            have hne : (((firstN M : Nat) : Int) != ((firstN L : Nat) : Int)) = false := by rw [hfe]; simp
            have HSK : Hid (∀ w', Below w.heap.size w w' → (w'.cell? ⟨gu, ou, none⟩ = some (.string su) ∧ w'.cell? ⟨g, off, none⟩ = some (.string s0) ∧ Below w.heap.size w w')) := Lib.hid (fun w' hb => ⟨(hb.cell (p := ⟨gu, ou, none⟩) hgu).trans cu, (hb.cell (p := ⟨g, off, none⟩) hgl).trans c0, hb⟩)
            have hlrows : Rows (firstN L) (rF M) := rowsB_rows hz
            have hll : (rF M).length ≤ 800 := by rw [rF_len]; exact rowsB_len hz
            have hmrows := rows_cells hMT
            have HLF := Lib.hid (fun x w (hx : IsRow (firstN L) x) h => l6Left_any (firstN L) x hx (.slice (some ⟨g, off, none⟩) m cap) (rF L) hrows (by omega) w (Txts.rows h hb))
            have HLE := Lib.hid (fun x v w (hx : IsRow (firstN L) x) h => l6LeastC (firstN L) x v (rF L) hx hrows hgrp (by omega) w h)
            have hlsrows := least_rows hlrows hrows hgrp
            unfold ciF
            obtain ⟨ls, hls⟩ : ∃ ls, rF M = ls := ⟨_, rfl⟩
            have hlum : ls.length = um := by rw [← hls, rF_len]; exact hum
            rw [hls] at hlrows hll hmrows hlsrows ⊢
            have hum8 : um ≤ 800 := by omega
            have hums : (um : Int) ≤ 800 := by omega
            have HLR := Lib.hid hlrows
            have HLM := Lib.hid hlum
            have HMR := Lib.hid hmrows
            obtain ⟨al, hal⟩ : ∃ al, ls.map (leastF (firstN L) (rF L)) = al := ⟨_, rfl⟩
            have hall : al.length = um := by rw [← hal, List.length_map]; exact hlum
            rw [hal] at hlsrows ⊢
            have HSO := Lib.hid (fun v w h => l6Sort_any (firstN L) 1000 al (by omega) (by omega) hlsrows v w h)
            obtain ⟨ss, hss⟩ : ∃ ss, sortF (firstN L) al = ss := ⟨_, rfl⟩
            have hsr : Rows (firstN L) ss := by rw [← hss]; exact rows_sort hlsrows
            have hsl : ss.length = um := by rw [← hss, sortF_len]; exact hall
            rw [hss] at HSO ⊢
            have HSR := Lib.hid hsr
            have HSLN := Lib.hid hsl
            have HALM := Lib.hid hal
            unfold TextsOut at HLF HSO
            obtain ⟨i0, hi0, hz0, hz1, hz2⟩ := info_parts infoText
            have I0 := Lib.hid (⟨hi0, hz0, hz1, hz2⟩ : _ ∧ _ ∧ _ ∧ _)
            rw [hr, hm] at HC
            rw [hg, hm] at HG
            rw [hlb, hum] at HR
            rw [hm] at HT
            rw [hum] at HU
            rw [hm, hum]
            generalize hres : dedF ss = res
            have HRES := Lib.hid hres
            generalize firstN L = n at *
            generalize firstN M = n2 at *
            generalize rF L = gs at *
            clear h hu hl hs hl2 hs2 hr hg hb h0 h3 h8 hrows hrise hgrp hfl hlb hz hB hM0 hm hum hls hlrows hll hmrows hlsrows hlum hal hall hss hsr hsl hi0 hz0 hz1 hz2 hres hMT hfe c0 cu
            go_enter Try.func33, Try.ntmps33
            go_wp2
            first | go_region_held (fun w' => w'.cell? ⟨gu, ou, none⟩ = some (.string su) ∧ w'.cell? ⟨g, off, none⟩ = some (.string s0) ∧ Below w.heap.size w w') (first | exact HSK.out _ (by with_reducible exact HW0.out) | exact HSK.out _ (by with_reducible exact hb5) | exact HSK.out _ (by with_reducible exact hb6) | exact HSK.out _ (by with_reducible exact hb7)) (first | (go_at_call 67; refine (HC.out _ (HT.out.kept HW0.out)).mono ?_; rintro e5 w5 ⟨rfl, hbb5⟩; have hb5 : Below w.heap.size w w5 := HW0.out.trans (hbb5.mono HW0.out.size); have hS5 := HSK.out _ hb5) | (go_at_call 68; refine (HG.out _ (HT.out.kept hb5)).mono ?_; rintro e6 w6 ⟨rfl, hbb6⟩; have hb6 : Below w.heap.size w w6 := hb5.trans (hbb6.mono hb5.size); have hS6 := HSK.out _ hb6) | (go_at_call 50; refine (HR.out _ (HU.out.kept hb6)).mono ?_; rintro e7 w7 ⟨rfl, hbb7⟩; have hb7 : Below w.heap.size w w7 := hb6.trans (hbb7.mono hb6.size); have hS7 := HSK.out _ hb7) | fail) | fail
            all_goals
              have HB7 := Lib.hid hb7
              clear HSK HC HG HR HW0
              go_wp2
              go_loopg [6, 43] um (fun q o i wr => ∃ (j : Nat) (u : Value), q + j = um ∧ o = u ∧ i = .int .i64 j ∧ New w.heap.size wr 9 u (strs (rowsL n ((ls.take j).map (leastF n gs)))) ∧ Below w.heap.size w wr)
              case atStart => exact ⟨0, _, by omega, rfl, rfl, New.nil _ _ _, HB7.out⟩
              case round =>
                clear HB7
                obtain ⟨j, u, hq, rfl, rfl, hn, hb⟩ := hrel
                have HQ := Lib.hid hq
                have HN := Lib.hid hn
                have HB := Lib.hid hb
                obtain ⟨ua, uc', rfl, -⟩ := hn.own.view
                clear hq hn hb
                by_cases hlt : j < um
                · have hjx : j < ls.length := by rw [HLM.out]; exact hlt
                  have hrow := HLR.out _ (List.getElem_mem hjx)
                  have c2 := (HB.out.cell (p := ⟨gu, ou + j, none⟩) hgu).trans (HMR.out j hjx)
                  have HTK : Hid ((ls.take (j + 1)).map (leastF n gs) = (ls.take j).map (leastF n gs) ++ [leastF n gs ls[j]]) := Lib.hid (by
                    rw [List.take_add_one, List.getElem?_eq_getElem hjx, List.map_append]
                    rfl)
                  have hAl : ((ls.take j).map (leastF n gs)).length ≤ 1000 := by rw [List.length_map, List.length_take]; omega
                  generalize ls[j] = x at *
                  have hji : (j : Int) < um := by omega
                  have HLX := Lib.hid (fun w h => HLF.out x w hrow h)
                  have HEX := Lib.hid (fun v w h => HLE.out x v w hrow h)
                  have HTXT : Hid (Value.string (strOf n (leastF n gs x)) = .string (txt (rowL n (leastF n gs x)))) := Lib.hid (by rw [txt_rowL])
                  generalize leastF n gs x = y at *
                  generalize strOf n x = sx at *
                  generalize strOf n y = sy at *
                  generalize (ls.take j).map (leastF n gs) = A at *
                  have HT5 := Lib.hid (HT.out.kept HB.out)
                  clear hrow
                  go_wp2_with fail
                  refine (HLX.out _ HT5.out).mono ?_
                  rintro e w5 ⟨v5, rfl, hn5, hb5⟩
                  have HB5 := Lib.hid (HB.out.trans (hb5.mono HB.out.size))
                  have HN5 := Lib.hid (HN.out.kept hb5)
                  have HX5 := Lib.hid hn5.own.txts
                  clear hn5 hb5 HT5 HB HN
                  go_wp2_with fail
                  refine (HEX.out _ _ HX5.out).mono ?_
                  rintro e w6 ⟨rfl, hb6⟩
                  have HB6 := Lib.hid (HB5.out.trans (hb6.mono HB5.out.size))
                  have HN6 := Lib.hid (HN5.out.kept hb6)
                  clear hb6 HB5 HN5 HX5
                  go_wp2_with (at_builtin; refine wpList_app1 rfl (.tmp 47) (.tmp 52) 22 rfl 9 i0 (.string ⟨#[]⟩) 16 Try.underlying22 I0.out.1 I0.out.2.1 I0.out.2.2.1 I0.out.2.2.2 rfl w.heap.size w _ (strs (rowsL n A)) rfl HN6.out rfl rfl HB6.out.size HB6.out (by rw [strs_len, rowsL_len]; omega) (by omega) ?_)
                  intro v7 w8 hn7 _ hb8 _
                  rw [HTXT.out, strs_snoc, show rowsL n A ++ [rowL n y] = rowsL n (A ++ [y]) by simp [rowsL], ← HTK.out] at hn7
                  have HN7 := Lib.hid hn7
                  have HB8 := Lib.hid hb8
                  obtain ⟨ua7, uc7, rfl, -⟩ := hn7.own.view
                  clear hn7 hb8 HN6 HB6
                  go_wp2
                  go_roundg (gk - 1)
                  case measure => have := HQ.out; omega
                  case rel => exact ⟨j + 1, _, by have := HQ.out; omega, rfl, by go_num, HN7.out, HB8.out⟩
                · obtain rfl : j = um := by have := HQ.out; omega
                  have hn := HN.out
                  rw [List.take_of_length_le (by rw [HLM.out]; exact Nat.le_refl _), HALM.out] at hn
                  have ht := hn.own.txts
                  have hll9 : (strs (rowsL n ((ls.take j).map (leastF n gs)))).length = (strs (rowsL n al)).length := by rw [List.take_of_length_le (by rw [HLM.out]; exact Nat.le_refl _), HALM.out]
                  rw [hll9]
                  have HT9 := Lib.hid ht
                  clear hn ht hll9 HN hlt HQ
                  go_wp2_with fail
                  refine (HSO.out _ _ HT9.out).mono ?_
                  rintro e w9 ⟨v9, rfl, hn9, hb9⟩
                  have hsl9 : (strs (rowsL n ss)).length = j := by rw [strs_len, rowsL_len]; exact HSLN.out
                  obtain ⟨sa, sc, rfl, hsa⟩ := hn9.own.view
                  rw [hsl9] at hsa ⊢
                  have HSC : Hid (∀ (k : Nat) (hk : k < ss.length) W, Below w9.heap.size w9 W → ∀ g, sa = some ⟨g, 0, none⟩ → W.cell? ⟨g, k, none⟩ = some (.string (strOf n ss[k]))) := Lib.hid (fun k hk W hW g e => by
                    subst e
                    exact (hn9.own.kept hW).cell k _ (strs_rowsL_get n ss k hk))
                  have HSA := Lib.hid hsa
                  have HB9 := Lib.hid (HB.out.trans (hb9.mono HB.out.size))
                  clear hn9 hb9 hsl9 hsa HB HT9
                  go_wp2
                  go_loopg [7, 58] j (fun q o i wr => ∃ (t : Nat) (u : Value), q + t = j ∧ o = u ∧ i = .int .i64 t ∧ New w9.heap.size wr 9 u (strs (rowsL n ((ss.take t).foldl dedS []))) ∧ Below w9.heap.size w9 wr)
                  case atStart => exact ⟨0, _, by omega, rfl, rfl, New.nil _ _ _, Below.refl _ _⟩
                  case round =>
                    obtain ⟨t, u, hq, rfl, rfl, hn, hb⟩ := hrel
                    have HQ := Lib.hid hq
                    have HN := Lib.hid hn
                    have HB := Lib.hid hb
                    clear hq hn hb
                    by_cases hlt : t < j
                    · have htx : t < ss.length := by rw [HSLN.out]; exact hlt
                      have hrow := HSR.out _ (List.getElem_mem htx)
                      obtain ⟨gs9, rfl⟩ := HSA.out (by omega)
                      have c1 := HSC.out t htx _ HB.out gs9 rfl
                      have HTK : Hid ((ss.take (t + 1)).foldl dedS [] = dedS ((ss.take t).foldl dedS []) ss[t]) := Lib.hid (by
                        rw [List.take_add_one, List.getElem?_eq_getElem htx, List.foldl_append]
                        rfl)
                      have hor : Rows n ((ss.take t).foldl dedS []) := ded_rows (HSR.out.take t)
                      have hol : ((ss.take t).foldl dedS []).length ≤ 800 := by
                        have := ded_len (ss.take t) []
                        rw [List.length_take] at this
                        simp at this
                        omega
                      generalize (ss.take t).foldl dedS [] = o2 at *
                      generalize ss[t] = y at *
                      have hti : (t : Int) < (j : Int) := by omega
                      have HTXT : Hid (Value.string (strOf n y) = .string (txt (rowL n y))) := Lib.hid (by rw [txt_rowL])
                      rcases Nat.eq_zero_or_pos o2.length with hz | hz
                      · have hz : o2 = [] := List.eq_nil_of_length_eq_zero hz
                        subst hz
                        have HD : Hid ((ss.take (t + 1)).foldl dedS [] = [] ++ [y]) := Lib.hid (by rw [HTK.out]; simp [dedS])
                        have hv := HN.out
                        obtain ⟨oa, oc, rfl, -⟩ := hv.own.view
                        have hz0 : (strs (rowsL n [])).length = 0 := rfl
                        rw [hz0] at hv ⊢
                        have HN := Lib.hid hv
                        generalize strOf n y = sy at *
                        clear hv hz0 hrow hor hol HTK
                        go_wp2_with (at_builtin; refine wpList_app1 rfl (.tmp 75) (.tmp 77) 22 rfl 9 i0 (.string ⟨#[]⟩) 16 Try.underlying22 I0.out.1 I0.out.2.1 I0.out.2.2.1 I0.out.2.2.2 rfl w9.heap.size w9 _ (strs (rowsL n [])) rfl HN.out rfl rfl HB.out.size HB.out (by simp [strs, rowsL]) (by omega) ?_)
                        intro v10 w10 hn10 _ hb10 _
                        rw [HTXT.out, strs_snoc, show rowsL n [] ++ [rowL n y] = rowsL n ([] ++ [y]) by simp [rowsL], ← HD.out] at hn10
                        have HN10 := Lib.hid hn10
                        have HB10 := Lib.hid hb10
                        obtain ⟨ua10, uc10, rfl, -⟩ := hn10.own.view
                        clear hn10 hb10 HN HB
                        go_wp2
                        go_roundg (gk - 1)
                        case measure => have := HQ.out; omega
                        case rel => exact ⟨t + 1, _, by have := HQ.out; omega, rfl, by go_num, HN10.out, HB10.out⟩
                      · obtain ⟨k, hk⟩ : ∃ k, o2.length = k + 1 := ⟨o2.length - 1, by omega⟩
                        have hk1 : k < o2.length := by omega
                        have hlast : o2.getLast? = some o2[k] := by rw [List.getLast?_eq_getElem?, hk, Nat.add_sub_cancel, List.getElem?_eq_getElem hk1]
                        have hcell := strs_rowsL_get n o2 k hk1
                        have hzr := hor _ (List.getElem_mem hk1)
                        generalize o2[k] = z at *
                        have hv := HN.out
                        obtain ⟨oa, oc, rfl, hoa⟩ := hv.own.view
                        have hzl : (strs (rowsL n o2)).length = k + 1 := by rw [strs_len, rowsL_len]; exact hk
                        rw [hzl] at hv hoa ⊢
                        obtain ⟨go, rfl⟩ := hoa (by omega)
                        have c2 := hv.own.cell k _ hcell
                        have HN := Lib.hid hv
                        have hki : ((k + 1 : Nat) : Int) = (k : Int) + 1 := by omega
                        have hk800 : k < 800 := by omega
                        have hkk : (k : Int) < 800 := by omega
                        have hnz : (((k : Int) + 1) == 0) = false := by rw [beq_eq_false_iff_ne]; omega
                        have hw1 : IntKind.i64.wrap (k : Int) = k := IntWalk.i64_in _ ⟨by omega, by omega⟩
                        have hpos : (0 : Int) ≤ (k : Int) := by omega
                        have HKL := Lib.hid hk
                        clear hv hzl hoa hcell hk hk1 hz
                        by_cases hzy : z = y
                        · subst hzy
                          have HD : Hid ((ss.take (t + 1)).foldl dedS [] = o2) := Lib.hid (by rw [HTK.out]; simp [dedS, hlast])
                          generalize strOf n z = sy at *
                          clear hlast hrow hor hol HTK hzr hki
                          go_wp2
                          go_roundg (gk - 1)
                          case measure => have := HQ.out; omega
                          case rel => exact ⟨t + 1, _, by have := HQ.out; omega, rfl, by go_num, by rw [HD.out]; exact HN.out, HB.out⟩
                        · have HD : Hid ((ss.take (t + 1)).foldl dedS [] = o2 ++ [y]) := Lib.hid (by rw [HTK.out]; simp [dedS, hlast, hzy])
                          have hnb := str_other hzr hrow hzy
                          have hne : strOf n z ≠ strOf n y := fun e => hzy (strOf_inj hzr hrow e)
                          generalize strOf n y = sy at *
                          generalize strOf n z = sz at *
                          clear hlast hrow hor hol HTK hzr hki hzy
                          go_wp2_with (at_builtin; refine wpList_app1 rfl (.tmp 75) (.tmp 77) 22 rfl 9 i0 (.string ⟨#[]⟩) 16 Try.underlying22 I0.out.1 I0.out.2.1 I0.out.2.2.1 I0.out.2.2.2 rfl w9.heap.size w9 _ (strs (rowsL n o2)) rfl HN.out rfl rfl HB.out.size HB.out (by rw [strs_len, rowsL_len, HKL.out]; omega) (by omega) ?_)
                          intro v10 w10 hn10 _ hb10 _
                          rw [HTXT.out, strs_snoc, show rowsL n o2 ++ [rowL n y] = rowsL n (o2 ++ [y]) by simp [rowsL], ← HD.out] at hn10
                          have HN10 := Lib.hid hn10
                          have HB10 := Lib.hid hb10
                          obtain ⟨ua10, uc10, rfl, -⟩ := hn10.own.view
                          clear hn10 hb10 HN HB
                          go_wp2
                          go_roundg (gk - 1)
                          case measure => have := HQ.out; omega
                          case rel => exact ⟨t + 1, _, by have := HQ.out; omega, rfl, by go_num, HN10.out, HB10.out⟩
                    · obtain rfl : t = j := by have := HQ.out; omega
                      have hn := HN.out
                      rw [List.take_of_length_le (by rw [HSLN.out]; exact Nat.le_refl _), show ss.foldl dedS [] = res from HRES.out] at hn
                      have HN10 := Lib.hid (hn.lower HB9.out.size)
                      obtain ⟨ua10, uc10, rfl, -⟩ := hn.own.view
                      have HBF := Lib.hid (HB9.out.trans (HB.out.mono HB9.out.size))
                      clear hn HN HB hlt HQ
                      go_wp2
                      go_ret2
                      exact ⟨_, rfl, HN10.out, HBF.out⟩
          · obtain rfl : um = 0 := by omega
            have hlrows : Rows (firstN L) (rF M) := rowsB_rows hz
            have hll : (rF M).length ≤ 800 := by rw [rF_len]; exact rowsB_len hz
            have hmrows := (rfl : rF M = rF M)
            have HLF := Lib.hid (fun x w (hx : IsRow (firstN L) x) h => l6Left_any (firstN L) x hx (.slice (some ⟨g, off, none⟩) m cap) (rF L) hrows (by omega) w (Txts.rows h hb))
            have HLE := Lib.hid (fun x v w (hx : IsRow (firstN L) x) h => l6LeastC (firstN L) x v (rF L) hx hrows hgrp (by omega) w h)
            have hlsrows := least_rows hlrows hrows hgrp
            unfold ciF
            obtain ⟨ls, hls⟩ : ∃ ls, rF M = ls := ⟨_, rfl⟩
            have hlum : ls.length = 0 := by rw [← hls, rF_len]; exact hum
            rw [hls] at hlrows hll hmrows hlsrows ⊢
            have hum8 : 0 ≤ 800 := by omega
            have hums : (0 : Int) ≤ 800 := by omega
            have HLR := Lib.hid hlrows
            have HLM := Lib.hid hlum
            have HMR := Lib.hid hmrows
            obtain ⟨al, hal⟩ : ∃ al, ls.map (leastF (firstN L) (rF L)) = al := ⟨_, rfl⟩
            have hall : al.length = 0 := by rw [← hal, List.length_map]; exact hlum
            rw [hal] at hlsrows ⊢
            have HSO := Lib.hid (fun v w h => l6Sort_any (firstN L) 1000 al (by omega) (by omega) hlsrows v w h)
            obtain ⟨ss, hss⟩ : ∃ ss, sortF (firstN L) al = ss := ⟨_, rfl⟩
            have hsr : Rows (firstN L) ss := by rw [← hss]; exact rows_sort hlsrows
            have hsl : ss.length = 0 := by rw [← hss, sortF_len]; exact hall
            rw [hss] at HSO ⊢
            have HSR := Lib.hid hsr
            have HSLN := Lib.hid hsl
            have HALM := Lib.hid hal
            unfold TextsOut at HLF HSO
            obtain ⟨i0, hi0, hz0, hz1, hz2⟩ := info_parts infoText
            have I0 := Lib.hid (⟨hi0, hz0, hz1, hz2⟩ : _ ∧ _ ∧ _ ∧ _)
            rw [hr, hm] at HC
            rw [hg, hm] at HG
            rw [hlb, hum] at HR
            rw [hm] at HT
            rw [hum] at HU
            rw [hm, hum]
            generalize hres : dedF ss = res
            have HRES := Lib.hid hres
            generalize firstN L = n at *
            generalize firstN M = n2 at *
            generalize rF L = gs at *
            clear h hu hl hs hl2 hs2 hr hg hb h0 h3 h8 hrows hrise hgrp hfl hlb hz hB hM0 hm hum hls hlrows hll hmrows hlsrows hlum hal hall hss hsr hsl hi0 hz0 hz1 hz2 hres hs0 c0
            go_enter Try.func33, Try.ntmps33
            go_wp2
            refine wp_region_held_drew (S := fun w' => Below w.heap.size w w') (by kernel_rfl) HW0.out (fun hHeld => ?_)
            refine heldTake 0 (some 12) (.slice (some ⟨g, off, none⟩) m cap) ⟨_, rfl, rfl, by rfl, fun w hw => by rfl⟩ (by kernel_rfl) (by kernel_rfl) (by kernel_rfl) (fun _ _ _ h => h) (by assumption) ?_
            simp only [Act.put, List.setIfInBounds_toArray, List.set_cons_zero, List.set_cons_succ]
            refine wpAnyH_ready (rs := [1]) (by kernel_rfl) (by simp) ?_
            refine AllReadyH.cons rfl (fun K hK => ?_) AllReadyH.nil
            go_simp
            go_wp2_with fail
            refine (HC.out _ (HT.out.kept HW0.out)).mono ?_
            rintro e5 w5 ⟨rfl, hbb5⟩
            have hb5 : Below w.heap.size w w5 := HW0.out.trans (hbb5.mono HW0.out.size)
            go_wp2
            refine hK.out _ _ (hb5) (fun hHeld => ?_)
            clear hK K
            refine heldTake 2 (some 14) (.bool false) ⟨_, rfl, rfl, by rfl, fun w hw => by rfl⟩ (by kernel_rfl) (by kernel_rfl) (by kernel_rfl) (fun _ _ _ h => h) (by assumption) ?_
            simp only [Act.put, List.setIfInBounds_toArray, List.set_cons_zero, List.set_cons_succ]
            refine heldTake 3 (some 15) (.bool false) ⟨_, rfl, rfl, by rfl, fun w hw => by rfl⟩ (by kernel_rfl) (by kernel_rfl) (by kernel_rfl) (fun _ _ _ h => h) (by assumption) ?_
            simp only [Act.put, List.setIfInBounds_toArray, List.set_cons_zero, List.set_cons_succ]
            refine heldTake 4 (some 16) (.slice (some ⟨g, off, none⟩) m cap) ⟨_, rfl, rfl, by rfl, fun w hw => by rfl⟩ (by kernel_rfl) (by kernel_rfl) (by kernel_rfl) (fun _ _ _ h => h) (by assumption) ?_
            simp only [Act.put, List.setIfInBounds_toArray, List.set_cons_zero, List.set_cons_succ]
            refine wpAnyH_ready (rs := [5]) (by kernel_rfl) (by simp) ?_
            refine AllReadyH.cons rfl (fun K hK => ?_) AllReadyH.nil
            go_simp
            go_wp2_with fail
            refine (HG.out _ (HT.out.kept hb5)).mono ?_
            rintro e6 w6 ⟨rfl, hbb6⟩
            have hb6 : Below w.heap.size w w6 := hb5.trans (hbb6.mono hb5.size)
            go_wp2
            refine hK.out _ _ (hb6) (fun hHeld => ?_)
            clear hK K
            refine heldTake 6 (some 18) (.bool false) ⟨_, rfl, rfl, by rfl, fun w hw => by rfl⟩ (by kernel_rfl) (by kernel_rfl) (by kernel_rfl) (fun _ _ _ h => h) (by assumption) ?_
            simp only [Act.put, List.setIfInBounds_toArray, List.set_cons_zero, List.set_cons_succ]
            refine heldTake 7 (some 19) (.bool false) ⟨_, rfl, rfl, by rfl, fun w hw => by rfl⟩ (by kernel_rfl) (by kernel_rfl) (by kernel_rfl) (fun _ _ _ h => h) (by assumption) ?_
            simp only [Act.put, List.setIfInBounds_toArray, List.set_cons_zero, List.set_cons_succ]
            refine heldTake 8 (some 20) (.bool false) ⟨_, rfl, rfl, by rfl, fun w hw => by rfl⟩ (by kernel_rfl) (by kernel_rfl) (by kernel_rfl) (fun _ _ _ h => h) (by assumption) ?_
            simp only [Act.put, List.setIfInBounds_toArray, List.set_cons_zero, List.set_cons_succ]
            refine heldTake 9 (some 21) (.slice ub 0 uc) ⟨_, rfl, rfl, by rfl, fun w hw => by rfl⟩ (by kernel_rfl) (by kernel_rfl) (by kernel_rfl) (fun _ _ _ h => h) (by assumption) ?_
            simp only [Act.put, List.setIfInBounds_toArray, List.set_cons_zero, List.set_cons_succ]
            refine wpAnyH_ready (rs := [10]) (by kernel_rfl) (by simp) ?_
            refine AllReadyH.cons rfl (fun K hK => ?_) AllReadyH.nil
            go_simp
            go_wp2_with fail
            refine (HR.out _ (HU.out.kept hb6)).mono ?_
            rintro e7 w7 ⟨rfl, hbb7⟩
            have hb7 : Below w.heap.size w w7 := hb6.trans (hbb7.mono hb6.size)
            go_wp2
            refine hK.out _ _ (hb7) (fun hHeld => ?_)
            clear hK K
            refine heldTake 11 (some 23) (.bool false) ⟨_, rfl, rfl, by rfl, fun w hw => by rfl⟩ (by kernel_rfl) (by kernel_rfl) (by kernel_rfl) (fun _ _ _ h => h) (by assumption) ?_
            simp only [Act.put, List.setIfInBounds_toArray, List.set_cons_zero, List.set_cons_succ]
            refine heldTake 12 (some 24) (.bool false) ⟨_, rfl, rfl, by rfl, fun w hw => by rfl⟩ (by kernel_rfl) (by kernel_rfl) (by kernel_rfl) (fun _ _ _ h => h) (by assumption) ?_
            simp only [Act.put, List.setIfInBounds_toArray, List.set_cons_zero, List.set_cons_succ]
            refine heldTake 13 (some 25) (.bool false) ⟨_, rfl, rfl, by rfl, fun w hw => by rfl⟩ (by kernel_rfl) (by kernel_rfl) (by kernel_rfl) (fun _ _ _ h => h) (by assumption) ?_
            simp only [Act.put, List.setIfInBounds_toArray, List.set_cons_zero, List.set_cons_succ]
            refine heldTake 14 (some 26) (.slice ub 0 uc) ⟨_, rfl, rfl, by rfl, fun w hw => by rfl⟩ (by kernel_rfl) (by kernel_rfl) (by kernel_rfl) (fun _ _ _ h => h) (by assumption) ?_
            simp only [Act.put, List.setIfInBounds_toArray, List.set_cons_zero, List.set_cons_succ]
            refine heldTake 15 (some 27) (.int .i64 0) ⟨_, rfl, rfl, by rfl, fun w hw => by (first | rfl | (go_simp; done) | (simp [execOp, resolve, invoke, builtin]; done))⟩ (by kernel_rfl) (by kernel_rfl) (by kernel_rfl) (fun _ _ _ h => h) (by assumption) ?_
            simp only [Act.put, List.setIfInBounds_toArray, List.set_cons_zero, List.set_cons_succ]
            refine heldTake 16 (some 28) (.bool false) ⟨_, rfl, rfl, by rfl, fun w hw => by rfl⟩ (by kernel_rfl) (by kernel_rfl) (by kernel_rfl) (fun _ _ _ h => h) (by assumption) ?_
            simp only [Act.put, List.setIfInBounds_toArray, List.set_cons_zero, List.set_cons_succ]
            refine heldTake 17 (some 29) (.bool false) ⟨_, rfl, rfl, by rfl, fun w hw => by rfl⟩ (by kernel_rfl) (by kernel_rfl) (by kernel_rfl) (fun _ _ _ h => h) (by assumption) ?_
            simp only [Act.put, List.setIfInBounds_toArray, List.set_cons_zero, List.set_cons_succ]
            refine heldSkip 18 (some 30) ⟨_, rfl, rfl, by rfl⟩ (by kernel_rfl) (by kernel_rfl) (by kernel_rfl) (fun _ _ _ h => h) (by assumption) ?_
            simp only [Act.put, List.setIfInBounds_toArray, List.set_cons_zero, List.set_cons_succ]
            refine heldSkip 19 (some 31) ⟨_, rfl, rfl, by rfl⟩ (by kernel_rfl) (by kernel_rfl) (by kernel_rfl) (fun _ _ _ h => h) (by assumption) ?_
            simp only [Act.put, List.setIfInBounds_toArray, List.set_cons_zero, List.set_cons_succ]
            refine heldSkip 20 (some 32) ⟨_, rfl, rfl, by rfl⟩ (by kernel_rfl) (by kernel_rfl) (by kernel_rfl) (fun _ _ _ h => h) (by assumption) ?_
            simp only [Act.put, List.setIfInBounds_toArray, List.set_cons_zero, List.set_cons_succ]
            refine heldSkip 21 (some 33) ⟨_, rfl, rfl, by rfl⟩ (by kernel_rfl) (by kernel_rfl) (by kernel_rfl) (fun _ _ _ h => h) (by assumption) ?_
            simp only [Act.put, List.setIfInBounds_toArray, List.set_cons_zero, List.set_cons_succ]
            refine heldSkip 22 (some 34) ⟨_, rfl, rfl, by rfl⟩ (by kernel_rfl) (by kernel_rfl) (by kernel_rfl) (fun _ _ _ h => h) (by assumption) ?_
            simp only [Act.put, List.setIfInBounds_toArray, List.set_cons_zero, List.set_cons_succ]
            refine heldSkip 23 (some 35) ⟨_, rfl, rfl, by rfl⟩ (by kernel_rfl) (by kernel_rfl) (by kernel_rfl) (fun _ _ _ h => h) (by assumption) ?_
            simp only [Act.put, List.setIfInBounds_toArray, List.set_cons_zero, List.set_cons_succ]
            refine heldSkip 24 (some 36) ⟨_, rfl, rfl, by rfl⟩ (by kernel_rfl) (by kernel_rfl) (by kernel_rfl) (fun _ _ _ h => h) (by assumption) ?_
            simp only [Act.put, List.setIfInBounds_toArray, List.set_cons_zero, List.set_cons_succ]
            refine heldSkip 25 (some 37) ⟨_, rfl, rfl, by rfl⟩ (by kernel_rfl) (by kernel_rfl) (by kernel_rfl) (fun _ _ _ h => h) (by assumption) ?_
            simp only [Act.put, List.setIfInBounds_toArray, List.set_cons_zero, List.set_cons_succ]
            refine heldSkip 26 (some 38) ⟨_, rfl, rfl, by rfl⟩ (by kernel_rfl) (by kernel_rfl) (by kernel_rfl) (fun _ _ _ h => h) (by assumption) ?_
            simp only [Act.put, List.setIfInBounds_toArray, List.set_cons_zero, List.set_cons_succ]
            refine heldTake 27 (some 39) (.bool false) ⟨_, rfl, rfl, by rfl, fun w hw => by rfl⟩ (by kernel_rfl) (by kernel_rfl) (by kernel_rfl) (fun _ _ _ h => h) (by assumption) ?_
            simp only [Act.put, List.setIfInBounds_toArray, List.set_cons_zero, List.set_cons_succ]
            refine heldTake 28 (some 40) (.bool false) ⟨_, rfl, rfl, by rfl, fun w hw => by rfl⟩ (by kernel_rfl) (by kernel_rfl) (by kernel_rfl) (fun _ _ _ h => h) (by assumption) ?_
            simp only [Act.put, List.setIfInBounds_toArray, List.set_cons_zero, List.set_cons_succ]
            refine wpAnyH_done (by kernel_rfl) ?_ _
            have HB7 := Lib.hid hb7
            clear HC HG HR HW0
            go_wp2
            go_loopg [6, 43] 0 (fun q o i wr => ∃ (j : Nat) (u : Value), q + j = 0 ∧ o = u ∧ i = .int .i64 j ∧ New w.heap.size wr 9 u (strs (rowsL n ((ls.take j).map (leastF n gs)))) ∧ Below w.heap.size w wr)
            case atStart => exact ⟨0, _, by omega, rfl, rfl, New.nil _ _ _, HB7.out⟩
            case round =>
              clear HB7
              obtain ⟨j, u, hq, rfl, rfl, hn, hb⟩ := hrel
              have HQ := Lib.hid hq
              have HN := Lib.hid hn
              have HB := Lib.hid hb
              obtain ⟨ua, uc', rfl, -⟩ := hn.own.view
              clear hq hn hb
              by_cases hlt : j < 0
              · exact absurd hlt (by omega)
              · obtain rfl : j = 0 := by have := HQ.out; omega
                have hn := HN.out
                rw [List.take_of_length_le (by rw [HLM.out]; exact Nat.le_refl _), HALM.out] at hn
                have ht := hn.own.txts
                have hll9 : (strs (rowsL n ((ls.take 0).map (leastF n gs)))).length = (strs (rowsL n al)).length := by rw [List.take_of_length_le (by rw [HLM.out]; exact Nat.le_refl _), HALM.out]
                rw [hll9]
                have HT9 := Lib.hid ht
                clear hn ht hll9 HN hlt HQ
                go_wp2_with fail
                refine (HSO.out _ _ HT9.out).mono ?_
                rintro e w9 ⟨v9, rfl, hn9, hb9⟩
                have hsl9 : (strs (rowsL n ss)).length = 0 := by rw [strs_len, rowsL_len]; exact HSLN.out
                obtain ⟨sa, sc, rfl, hsa⟩ := hn9.own.view
                rw [hsl9] at hsa ⊢
                have HSC : Hid (∀ (k : Nat) (hk : k < ss.length) W, Below w9.heap.size w9 W → ∀ g, sa = some ⟨g, 0, none⟩ → W.cell? ⟨g, k, none⟩ = some (.string (strOf n ss[k]))) := Lib.hid (fun k hk W hW g e => by
                  subst e
                  exact (hn9.own.kept hW).cell k _ (strs_rowsL_get n ss k hk))
                have HSA := Lib.hid hsa
                have HB9 := Lib.hid (HB.out.trans (hb9.mono HB.out.size))
                clear hn9 hb9 hsl9 hsa HB HT9
                go_wp2
                go_loopg [7, 58] 0 (fun q o i wr => ∃ (t : Nat) (u : Value), q + t = 0 ∧ o = u ∧ i = .int .i64 t ∧ New w9.heap.size wr 9 u (strs (rowsL n ((ss.take t).foldl dedS []))) ∧ Below w9.heap.size w9 wr)
                case atStart => exact ⟨0, _, by omega, rfl, rfl, New.nil _ _ _, Below.refl _ _⟩
                case round =>
                  obtain ⟨t, u, hq, rfl, rfl, hn, hb⟩ := hrel
                  have HQ := Lib.hid hq
                  have HN := Lib.hid hn
                  have HB := Lib.hid hb
                  clear hq hn hb
                  by_cases hlt : t < 0
                  · exact absurd hlt (by omega)
                  · obtain rfl : t = 0 := by have := HQ.out; omega
                    have hn := HN.out
                    rw [List.take_of_length_le (by rw [HSLN.out]; exact Nat.le_refl _), show ss.foldl dedS [] = res from HRES.out] at hn
                    have HN10 := Lib.hid (hn.lower HB9.out.size)
                    obtain ⟨ua10, uc10, rfl, -⟩ := hn.own.view
                    have HBF := Lib.hid (HB9.out.trans (HB.out.mono HB9.out.size))
                    clear hn HN HB hlt HQ
                    go_wp2
                    go_ret2
                    exact ⟨_, rfl, HN10.out, HBF.out⟩
        · have hz : rowsB (firstN L) M = false := by simpa using hz
          have hB : ciB L M = false := by unfold ciB; rw [hz, Bool.and_false]
          rw [ciL_no hB, hB]
          have hq := listB_at (n := firstN L) (L := M)
          rw [hz, hlb] at hq
          have hM0 : 0 < M.length := by
            refine Classical.byContradiction fun h => ?_
            rw [decide_eq_false h] at hq
            simp at hq
          have hfe : firstN M ≠ firstN L := by
            intro e
            rw [decide_eq_true hM0, decide_eq_true e] at hq
            simp at hq
          obtain ⟨gu, ou, su, rfl, hgu, cu, hsu⟩ := txts_first hu hM0
          have hump : (0 : Int) < (um : Int) := by omega
          have hdec : decide ((0 : Int) < (um : Int)) = true := decide_eq_true hump
          have hne : (((firstN M : Nat) : Int) != ((firstN L : Nat) : Int)) = true := by simpa using (by omega : ¬ ((firstN M : Nat) : Int) = (firstN L : Nat))
          have HSK : Hid (∀ w', Below w.heap.size w w' → (w'.cell? ⟨gu, ou, none⟩ = some (.string su) ∧ w'.cell? ⟨g, off, none⟩ = some (.string s0) ∧ Below w.heap.size w w')) := Lib.hid (fun w' hb => ⟨(hb.cell (p := ⟨gu, ou, none⟩) hgu).trans cu, (hb.cell (p := ⟨g, off, none⟩) hgl).trans c0, hb⟩)
          rw [hr, hm] at HC
          rw [hg, hm] at HG
          rw [hlb, hum] at HR
          rw [hm] at HT
          rw [hum] at HU
          rw [hm, hum]
          generalize firstN L = n at *
          generalize firstN M = n2 at *
          clear h hu hl hs hl2 hs2 hr hg hb h0 h3 h8 hrows hrise hgrp hfl hlb hz hB hq hM0 hfe hm hum c0 cu
          go_enter Try.func33, Try.ntmps33
          go_wp2
          first | go_region_held (fun w' => w'.cell? ⟨gu, ou, none⟩ = some (.string su) ∧ w'.cell? ⟨g, off, none⟩ = some (.string s0) ∧ Below w.heap.size w w') (first | exact HSK.out _ (by with_reducible exact HW0.out) | exact HSK.out _ (by with_reducible exact hb5) | exact HSK.out _ (by with_reducible exact hb6) | exact HSK.out _ (by with_reducible exact hb7)) (first | (go_at_call 67; refine (HC.out _ (HT.out.kept HW0.out)).mono ?_; rintro e5 w5 ⟨rfl, hbb5⟩; have hb5 : Below w.heap.size w w5 := HW0.out.trans (hbb5.mono HW0.out.size); have hS5 := HSK.out _ hb5) | (go_at_call 68; refine (HG.out _ (HT.out.kept hb5)).mono ?_; rintro e6 w6 ⟨rfl, hbb6⟩; have hb6 : Below w.heap.size w w6 := hb5.trans (hbb6.mono hb5.size); have hS6 := HSK.out _ hb6) | (go_at_call 50; refine (HR.out _ (HU.out.kept hb6)).mono ?_; rintro e7 w7 ⟨rfl, hbb7⟩; have hb7 : Below w.heap.size w w7 := hb6.trans (hbb7.mono hb6.size); have hS7 := HSK.out _ hb7) | fail) | fail
          all_goals
            go_wp2
            go_ret2
            exact ⟨_, rfl, New.nil _ _ _, hb7⟩
      · have hlb : listB M = false := by simpa using hlb
        have hz : rowsB (firstN L) M = false := by
          have := listB_at (n := firstN L) (L := M)
          rw [hlb] at this
          simpa using this.symm
        have hB : ciB L M = false := by unfold ciB; rw [hz, Bool.and_false]
        rw [ciL_no hB, hB]
        have HSK : Hid (∀ w', Below w.heap.size w w' → Below w.heap.size w w') := Lib.hid (fun w' hb => hb)
        rw [hr, hm] at HC
        rw [hg, hm] at HG
        rw [hlb, hum] at HR
        rw [hm] at HT
        rw [hum] at HU
        rw [hm, hum]
        clear h hu hl hs hl2 hs2 hr hg hb h0 h3 h8 hrows hrise hgrp hfl hlb hz hB hm hum c0 hs0
        go_enter Try.func33, Try.ntmps33
        go_wp2
        refine wp_region_held_drew (S := fun w' => Below w.heap.size w w') (by kernel_rfl) HW0.out (fun hHeld => ?_)
        refine heldTake 0 (some 12) (.slice (some ⟨g, off, none⟩) m cap) ⟨_, rfl, rfl, by rfl, fun w hw => by rfl⟩ (by kernel_rfl) (by kernel_rfl) (by kernel_rfl) (fun _ _ _ h => h) (by assumption) ?_
        simp only [Act.put, List.setIfInBounds_toArray, List.set_cons_zero, List.set_cons_succ]
        refine wpAnyH_ready (rs := [1]) (by kernel_rfl) (by simp) ?_
        refine AllReadyH.cons rfl (fun K hK => ?_) AllReadyH.nil
        go_simp
        go_wp2_with fail
        refine (HC.out _ (HT.out.kept HW0.out)).mono ?_
        rintro e5 w5 ⟨rfl, hbb5⟩
        have hb5 : Below w.heap.size w w5 := HW0.out.trans (hbb5.mono HW0.out.size)
        go_wp2
        refine hK.out _ _ (hb5) (fun hHeld => ?_)
        clear hK K
        refine heldTake 2 (some 14) (.bool false) ⟨_, rfl, rfl, by rfl, fun w hw => by rfl⟩ (by kernel_rfl) (by kernel_rfl) (by kernel_rfl) (fun _ _ _ h => h) (by assumption) ?_
        simp only [Act.put, List.setIfInBounds_toArray, List.set_cons_zero, List.set_cons_succ]
        refine heldTake 3 (some 15) (.bool false) ⟨_, rfl, rfl, by rfl, fun w hw => by rfl⟩ (by kernel_rfl) (by kernel_rfl) (by kernel_rfl) (fun _ _ _ h => h) (by assumption) ?_
        simp only [Act.put, List.setIfInBounds_toArray, List.set_cons_zero, List.set_cons_succ]
        refine heldTake 4 (some 16) (.slice (some ⟨g, off, none⟩) m cap) ⟨_, rfl, rfl, by rfl, fun w hw => by rfl⟩ (by kernel_rfl) (by kernel_rfl) (by kernel_rfl) (fun _ _ _ h => h) (by assumption) ?_
        simp only [Act.put, List.setIfInBounds_toArray, List.set_cons_zero, List.set_cons_succ]
        refine wpAnyH_ready (rs := [5]) (by kernel_rfl) (by simp) ?_
        refine AllReadyH.cons rfl (fun K hK => ?_) AllReadyH.nil
        go_simp
        go_wp2_with fail
        refine (HG.out _ (HT.out.kept hb5)).mono ?_
        rintro e6 w6 ⟨rfl, hbb6⟩
        have hb6 : Below w.heap.size w w6 := hb5.trans (hbb6.mono hb5.size)
        go_wp2
        refine hK.out _ _ (hb6) (fun hHeld => ?_)
        clear hK K
        refine heldTake 6 (some 18) (.bool false) ⟨_, rfl, rfl, by rfl, fun w hw => by rfl⟩ (by kernel_rfl) (by kernel_rfl) (by kernel_rfl) (fun _ _ _ h => h) (by assumption) ?_
        simp only [Act.put, List.setIfInBounds_toArray, List.set_cons_zero, List.set_cons_succ]
        refine heldTake 7 (some 19) (.bool false) ⟨_, rfl, rfl, by rfl, fun w hw => by rfl⟩ (by kernel_rfl) (by kernel_rfl) (by kernel_rfl) (fun _ _ _ h => h) (by assumption) ?_
        simp only [Act.put, List.setIfInBounds_toArray, List.set_cons_zero, List.set_cons_succ]
        refine heldTake 8 (some 20) (.bool false) ⟨_, rfl, rfl, by rfl, fun w hw => by rfl⟩ (by kernel_rfl) (by kernel_rfl) (by kernel_rfl) (fun _ _ _ h => h) (by assumption) ?_
        simp only [Act.put, List.setIfInBounds_toArray, List.set_cons_zero, List.set_cons_succ]
        refine heldTake 9 (some 21) (.slice ub um uc) ⟨_, rfl, rfl, by rfl, fun w hw => by rfl⟩ (by kernel_rfl) (by kernel_rfl) (by kernel_rfl) (fun _ _ _ h => h) (by assumption) ?_
        simp only [Act.put, List.setIfInBounds_toArray, List.set_cons_zero, List.set_cons_succ]
        refine wpAnyH_ready (rs := [10]) (by kernel_rfl) (by simp) ?_
        refine AllReadyH.cons rfl (fun K hK => ?_) AllReadyH.nil
        go_simp
        go_wp2_with fail
        refine (HR.out _ (HU.out.kept hb6)).mono ?_
        rintro e7 w7 ⟨rfl, hbb7⟩
        have hb7 : Below w.heap.size w w7 := hb6.trans (hbb7.mono hb6.size)
        go_wp2
        refine hK.out _ _ (hb7) (fun hHeld => ?_)
        clear hK K
        refine heldTake 11 (some 23) (.bool true) ⟨_, rfl, rfl, by rfl, fun w hw => by rfl⟩ (by kernel_rfl) (by kernel_rfl) (by kernel_rfl) (fun _ _ _ h => h) (by assumption) ?_
        simp only [Act.put, List.setIfInBounds_toArray, List.set_cons_zero, List.set_cons_succ]
        refine heldTake 12 (some 24) (.bool true) ⟨_, rfl, rfl, by rfl, fun w hw => by rfl⟩ (by kernel_rfl) (by kernel_rfl) (by kernel_rfl) (fun _ _ _ h => h) (by assumption) ?_
        simp only [Act.put, List.setIfInBounds_toArray, List.set_cons_zero, List.set_cons_succ]
        refine heldTake 13 (some 25) (.bool true) ⟨_, rfl, rfl, by rfl, fun w hw => by rfl⟩ (by kernel_rfl) (by kernel_rfl) (by kernel_rfl) (fun _ _ _ h => h) (by assumption) ?_
        simp only [Act.put, List.setIfInBounds_toArray, List.set_cons_zero, List.set_cons_succ]
        refine heldSkip 14 (some 26) ⟨_, rfl, rfl, by rfl⟩ (by kernel_rfl) (by kernel_rfl) (by kernel_rfl) (fun _ _ _ h => h) (by assumption) ?_
        simp only [Act.put, List.setIfInBounds_toArray, List.set_cons_zero, List.set_cons_succ]
        refine heldSkip 15 (some 27) ⟨_, rfl, rfl, by rfl⟩ (by kernel_rfl) (by kernel_rfl) (by kernel_rfl) (fun _ _ _ h => h) (by assumption) ?_
        simp only [Act.put, List.setIfInBounds_toArray, List.set_cons_zero, List.set_cons_succ]
        refine heldSkip 16 (some 28) ⟨_, rfl, rfl, by rfl⟩ (by kernel_rfl) (by kernel_rfl) (by kernel_rfl) (fun _ _ _ h => h) (by assumption) ?_
        simp only [Act.put, List.setIfInBounds_toArray, List.set_cons_zero, List.set_cons_succ]
        refine heldSkip 17 (some 29) ⟨_, rfl, rfl, by rfl⟩ (by kernel_rfl) (by kernel_rfl) (by kernel_rfl) (fun _ _ _ h => h) (by assumption) ?_
        simp only [Act.put, List.setIfInBounds_toArray, List.set_cons_zero, List.set_cons_succ]
        refine heldSkip 18 (some 30) ⟨_, rfl, rfl, by rfl⟩ (by kernel_rfl) (by kernel_rfl) (by kernel_rfl) (fun _ _ _ h => h) (by assumption) ?_
        simp only [Act.put, List.setIfInBounds_toArray, List.set_cons_zero, List.set_cons_succ]
        refine heldSkip 19 (some 31) ⟨_, rfl, rfl, by rfl⟩ (by kernel_rfl) (by kernel_rfl) (by kernel_rfl) (fun _ _ _ h => h) (by assumption) ?_
        simp only [Act.put, List.setIfInBounds_toArray, List.set_cons_zero, List.set_cons_succ]
        refine heldSkip 20 (some 32) ⟨_, rfl, rfl, by rfl⟩ (by kernel_rfl) (by kernel_rfl) (by kernel_rfl) (fun _ _ _ h => h) (by assumption) ?_
        simp only [Act.put, List.setIfInBounds_toArray, List.set_cons_zero, List.set_cons_succ]
        refine heldSkip 21 (some 33) ⟨_, rfl, rfl, by rfl⟩ (by kernel_rfl) (by kernel_rfl) (by kernel_rfl) (fun _ _ _ h => h) (by assumption) ?_
        simp only [Act.put, List.setIfInBounds_toArray, List.set_cons_zero, List.set_cons_succ]
        refine heldSkip 22 (some 34) ⟨_, rfl, rfl, by rfl⟩ (by kernel_rfl) (by kernel_rfl) (by kernel_rfl) (fun _ _ _ h => h) (by assumption) ?_
        simp only [Act.put, List.setIfInBounds_toArray, List.set_cons_zero, List.set_cons_succ]
        refine heldSkip 23 (some 35) ⟨_, rfl, rfl, by rfl⟩ (by kernel_rfl) (by kernel_rfl) (by kernel_rfl) (fun _ _ _ h => h) (by assumption) ?_
        simp only [Act.put, List.setIfInBounds_toArray, List.set_cons_zero, List.set_cons_succ]
        refine heldSkip 24 (some 36) ⟨_, rfl, rfl, by rfl⟩ (by kernel_rfl) (by kernel_rfl) (by kernel_rfl) (fun _ _ _ h => h) (by assumption) ?_
        simp only [Act.put, List.setIfInBounds_toArray, List.set_cons_zero, List.set_cons_succ]
        refine heldSkip 25 (some 37) ⟨_, rfl, rfl, by rfl⟩ (by kernel_rfl) (by kernel_rfl) (by kernel_rfl) (fun _ _ _ h => h) (by assumption) ?_
        simp only [Act.put, List.setIfInBounds_toArray, List.set_cons_zero, List.set_cons_succ]
        refine heldSkip 26 (some 38) ⟨_, rfl, rfl, by rfl⟩ (by kernel_rfl) (by kernel_rfl) (by kernel_rfl) (fun _ _ _ h => h) (by assumption) ?_
        simp only [Act.put, List.setIfInBounds_toArray, List.set_cons_zero, List.set_cons_succ]
        refine heldSkip 27 (some 39) ⟨_, rfl, rfl, by rfl⟩ (by kernel_rfl) (by kernel_rfl) (by kernel_rfl) (fun _ _ _ h => h) (by assumption) ?_
        simp only [Act.put, List.setIfInBounds_toArray, List.set_cons_zero, List.set_cons_succ]
        refine heldTake 28 (some 40) (.bool true) ⟨_, rfl, rfl, by rfl, fun w hw => by rfl⟩ (by kernel_rfl) (by kernel_rfl) (by kernel_rfl) (fun _ _ _ h => h) (by assumption) ?_
        simp only [Act.put, List.setIfInBounds_toArray, List.set_cons_zero, List.set_cons_succ]
        refine wpAnyH_done (by kernel_rfl) ?_ _
        go_wp2
        go_ret2
        exact ⟨_, rfl, New.nil _ _ _, hb7⟩
    · have hg : isG L = false := by simpa using hg
      have hB : ciB L M = false := by unfold ciB; rw [hg]; rfl
      rw [ciL_no hB, hB]
      have HSK : Hid (∀ w', Below w.heap.size w w' → Below w.heap.size w w') := Lib.hid (fun w' hb => hb)
      rw [hr, hm] at HC
      rw [hg, hm] at HG
      rw [hm] at HT
      rw [hm, hum]
      clear h hu hl hs hl2 hs2 hr hg hB hm hum HU HR
      go_enter Try.func33, Try.ntmps33
      go_wp2
      refine wp_region_held_drew (S := fun w' => Below w.heap.size w w') (by kernel_rfl) HW0.out (fun hHeld => ?_)
      refine heldTake 0 (some 12) (.slice a m cap) ⟨_, rfl, rfl, by rfl, fun w hw => by rfl⟩ (by kernel_rfl) (by kernel_rfl) (by kernel_rfl) (fun _ _ _ h => h) (by assumption) ?_
      simp only [Act.put, List.setIfInBounds_toArray, List.set_cons_zero, List.set_cons_succ]
      refine wpAnyH_ready (rs := [1]) (by kernel_rfl) (by simp) ?_
      refine AllReadyH.cons rfl (fun K hK => ?_) AllReadyH.nil
      go_simp
      go_wp2_with fail
      refine (HC.out _ (HT.out.kept HW0.out)).mono ?_
      rintro e5 w5 ⟨rfl, hbb5⟩
      have hb5 : Below w.heap.size w w5 := HW0.out.trans (hbb5.mono HW0.out.size)
      go_wp2
      refine hK.out _ _ (hb5) (fun hHeld => ?_)
      clear hK K
      refine heldTake 2 (some 14) (.bool false) ⟨_, rfl, rfl, by rfl, fun w hw => by rfl⟩ (by kernel_rfl) (by kernel_rfl) (by kernel_rfl) (fun _ _ _ h => h) (by assumption) ?_
      simp only [Act.put, List.setIfInBounds_toArray, List.set_cons_zero, List.set_cons_succ]
      refine heldTake 3 (some 15) (.bool false) ⟨_, rfl, rfl, by rfl, fun w hw => by rfl⟩ (by kernel_rfl) (by kernel_rfl) (by kernel_rfl) (fun _ _ _ h => h) (by assumption) ?_
      simp only [Act.put, List.setIfInBounds_toArray, List.set_cons_zero, List.set_cons_succ]
      refine heldTake 4 (some 16) (.slice a m cap) ⟨_, rfl, rfl, by rfl, fun w hw => by rfl⟩ (by kernel_rfl) (by kernel_rfl) (by kernel_rfl) (fun _ _ _ h => h) (by assumption) ?_
      simp only [Act.put, List.setIfInBounds_toArray, List.set_cons_zero, List.set_cons_succ]
      refine wpAnyH_ready (rs := [5]) (by kernel_rfl) (by simp) ?_
      refine AllReadyH.cons rfl (fun K hK => ?_) AllReadyH.nil
      go_simp
      go_wp2_with fail
      refine (HG.out _ (HT.out.kept hb5)).mono ?_
      rintro e6 w6 ⟨rfl, hbb6⟩
      have hb6 : Below w.heap.size w w6 := hb5.trans (hbb6.mono hb5.size)
      go_wp2
      refine hK.out _ _ (hb6) (fun hHeld => ?_)
      clear hK K
      refine heldTake 6 (some 18) (.bool true) ⟨_, rfl, rfl, by rfl, fun w hw => by rfl⟩ (by kernel_rfl) (by kernel_rfl) (by kernel_rfl) (fun _ _ _ h => h) (by assumption) ?_
      simp only [Act.put, List.setIfInBounds_toArray, List.set_cons_zero, List.set_cons_succ]
      refine heldTake 7 (some 19) (.bool true) ⟨_, rfl, rfl, by rfl, fun w hw => by rfl⟩ (by kernel_rfl) (by kernel_rfl) (by kernel_rfl) (fun _ _ _ h => h) (by assumption) ?_
      simp only [Act.put, List.setIfInBounds_toArray, List.set_cons_zero, List.set_cons_succ]
      refine heldTake 8 (some 20) (.bool true) ⟨_, rfl, rfl, by rfl, fun w hw => by rfl⟩ (by kernel_rfl) (by kernel_rfl) (by kernel_rfl) (fun _ _ _ h => h) (by assumption) ?_
      simp only [Act.put, List.setIfInBounds_toArray, List.set_cons_zero, List.set_cons_succ]
      refine heldSkip 9 (some 21) ⟨_, rfl, rfl, by rfl⟩ (by kernel_rfl) (by kernel_rfl) (by kernel_rfl) (fun _ _ _ h => h) (by assumption) ?_
      simp only [Act.put, List.setIfInBounds_toArray, List.set_cons_zero, List.set_cons_succ]
      refine heldPass 10 (some 22) ⟨_, rfl, rfl, by rfl⟩ (by kernel_rfl) (by assumption) ?_
      simp only [Act.put, List.setIfInBounds_toArray, List.set_cons_zero, List.set_cons_succ]
      refine heldSkip 11 (some 23) ⟨_, rfl, rfl, by rfl⟩ (by kernel_rfl) (by kernel_rfl) (by kernel_rfl) (fun _ _ _ h => h) (by assumption) ?_
      simp only [Act.put, List.setIfInBounds_toArray, List.set_cons_zero, List.set_cons_succ]
      refine heldTake 12 (some 24) (.bool true) ⟨_, rfl, rfl, by rfl, fun w hw => by rfl⟩ (by kernel_rfl) (by kernel_rfl) (by kernel_rfl) (fun _ _ _ h => h) (by assumption) ?_
      simp only [Act.put, List.setIfInBounds_toArray, List.set_cons_zero, List.set_cons_succ]
      refine heldTake 13 (some 25) (.bool true) ⟨_, rfl, rfl, by rfl, fun w hw => by rfl⟩ (by kernel_rfl) (by kernel_rfl) (by kernel_rfl) (fun _ _ _ h => h) (by assumption) ?_
      simp only [Act.put, List.setIfInBounds_toArray, List.set_cons_zero, List.set_cons_succ]
      refine heldSkip 14 (some 26) ⟨_, rfl, rfl, by rfl⟩ (by kernel_rfl) (by kernel_rfl) (by kernel_rfl) (fun _ _ _ h => h) (by assumption) ?_
      simp only [Act.put, List.setIfInBounds_toArray, List.set_cons_zero, List.set_cons_succ]
      refine heldSkip 15 (some 27) ⟨_, rfl, rfl, by rfl⟩ (by kernel_rfl) (by kernel_rfl) (by kernel_rfl) (fun _ _ _ h => h) (by assumption) ?_
      simp only [Act.put, List.setIfInBounds_toArray, List.set_cons_zero, List.set_cons_succ]
      refine heldSkip 16 (some 28) ⟨_, rfl, rfl, by rfl⟩ (by kernel_rfl) (by kernel_rfl) (by kernel_rfl) (fun _ _ _ h => h) (by assumption) ?_
      simp only [Act.put, List.setIfInBounds_toArray, List.set_cons_zero, List.set_cons_succ]
      refine heldSkip 17 (some 29) ⟨_, rfl, rfl, by rfl⟩ (by kernel_rfl) (by kernel_rfl) (by kernel_rfl) (fun _ _ _ h => h) (by assumption) ?_
      simp only [Act.put, List.setIfInBounds_toArray, List.set_cons_zero, List.set_cons_succ]
      refine heldSkip 18 (some 30) ⟨_, rfl, rfl, by rfl⟩ (by kernel_rfl) (by kernel_rfl) (by kernel_rfl) (fun _ _ _ h => h) (by assumption) ?_
      simp only [Act.put, List.setIfInBounds_toArray, List.set_cons_zero, List.set_cons_succ]
      refine heldSkip 19 (some 31) ⟨_, rfl, rfl, by rfl⟩ (by kernel_rfl) (by kernel_rfl) (by kernel_rfl) (fun _ _ _ h => h) (by assumption) ?_
      simp only [Act.put, List.setIfInBounds_toArray, List.set_cons_zero, List.set_cons_succ]
      refine heldSkip 20 (some 32) ⟨_, rfl, rfl, by rfl⟩ (by kernel_rfl) (by kernel_rfl) (by kernel_rfl) (fun _ _ _ h => h) (by assumption) ?_
      simp only [Act.put, List.setIfInBounds_toArray, List.set_cons_zero, List.set_cons_succ]
      refine heldSkip 21 (some 33) ⟨_, rfl, rfl, by rfl⟩ (by kernel_rfl) (by kernel_rfl) (by kernel_rfl) (fun _ _ _ h => h) (by assumption) ?_
      simp only [Act.put, List.setIfInBounds_toArray, List.set_cons_zero, List.set_cons_succ]
      refine heldSkip 22 (some 34) ⟨_, rfl, rfl, by rfl⟩ (by kernel_rfl) (by kernel_rfl) (by kernel_rfl) (fun _ _ _ h => h) (by assumption) ?_
      simp only [Act.put, List.setIfInBounds_toArray, List.set_cons_zero, List.set_cons_succ]
      refine heldSkip 23 (some 35) ⟨_, rfl, rfl, by rfl⟩ (by kernel_rfl) (by kernel_rfl) (by kernel_rfl) (fun _ _ _ h => h) (by assumption) ?_
      simp only [Act.put, List.setIfInBounds_toArray, List.set_cons_zero, List.set_cons_succ]
      refine heldSkip 24 (some 36) ⟨_, rfl, rfl, by rfl⟩ (by kernel_rfl) (by kernel_rfl) (by kernel_rfl) (fun _ _ _ h => h) (by assumption) ?_
      simp only [Act.put, List.setIfInBounds_toArray, List.set_cons_zero, List.set_cons_succ]
      refine heldSkip 25 (some 37) ⟨_, rfl, rfl, by rfl⟩ (by kernel_rfl) (by kernel_rfl) (by kernel_rfl) (fun _ _ _ h => h) (by assumption) ?_
      simp only [Act.put, List.setIfInBounds_toArray, List.set_cons_zero, List.set_cons_succ]
      refine heldSkip 26 (some 38) ⟨_, rfl, rfl, by rfl⟩ (by kernel_rfl) (by kernel_rfl) (by kernel_rfl) (fun _ _ _ h => h) (by assumption) ?_
      simp only [Act.put, List.setIfInBounds_toArray, List.set_cons_zero, List.set_cons_succ]
      refine heldSkip 27 (some 39) ⟨_, rfl, rfl, by rfl⟩ (by kernel_rfl) (by kernel_rfl) (by kernel_rfl) (fun _ _ _ h => h) (by assumption) ?_
      simp only [Act.put, List.setIfInBounds_toArray, List.set_cons_zero, List.set_cons_succ]
      refine heldTake 28 (some 40) (.bool true) ⟨_, rfl, rfl, by rfl, fun w hw => by rfl⟩ (by kernel_rfl) (by kernel_rfl) (by kernel_rfl) (fun _ _ _ h => h) (by assumption) ?_
      simp only [Act.put, List.setIfInBounds_toArray, List.set_cons_zero, List.set_cons_succ]
      refine wpAnyH_done (by kernel_rfl) ?_ _
      go_wp2
      go_ret2
      exact ⟨_, rfl, New.nil _ _ _, hb6⟩
  · have hr : riseB L = false := by simpa using hr
    have hB : ciB L M = false := by unfold ciB isG; rw [hr]; rfl
    rw [ciL_no hB, hB]
    have HSK : Hid (∀ w', Below w.heap.size w w' → Below w.heap.size w w') := Lib.hid (fun w' hb => hb)
    rw [hr, hm] at HC
    rw [hm] at HT
    rw [hm, hum]
    clear h hu hl hs hl2 hs2 hr hB hm hum HU HR
    go_enter Try.func33, Try.ntmps33
    go_wp2
    refine wp_region_held_drew (S := fun w' => Below w.heap.size w w') (by kernel_rfl) HW0.out (fun hHeld => ?_)
    refine heldTake 0 (some 12) (.slice a m cap) ⟨_, rfl, rfl, by rfl, fun w hw => by rfl⟩ (by kernel_rfl) (by kernel_rfl) (by kernel_rfl) (fun _ _ _ h => h) (by assumption) ?_
    simp only [Act.put, List.setIfInBounds_toArray, List.set_cons_zero, List.set_cons_succ]
    refine wpAnyH_ready (rs := [1]) (by kernel_rfl) (by simp) ?_
    refine AllReadyH.cons rfl (fun K hK => ?_) AllReadyH.nil
    go_simp
    go_wp2_with fail
    refine (HC.out _ (HT.out.kept HW0.out)).mono ?_
    rintro e5 w5 ⟨rfl, hbb5⟩
    have hb5 : Below w.heap.size w w5 := HW0.out.trans (hbb5.mono HW0.out.size)
    go_wp2
    refine hK.out _ _ (hb5) (fun hHeld => ?_)
    clear hK K
    refine heldTake 2 (some 14) (.bool true) ⟨_, rfl, rfl, by rfl, fun w hw => by rfl⟩ (by kernel_rfl) (by kernel_rfl) (by kernel_rfl) (fun _ _ _ h => h) (by assumption) ?_
    simp only [Act.put, List.setIfInBounds_toArray, List.set_cons_zero, List.set_cons_succ]
    refine heldTake 3 (some 15) (.bool true) ⟨_, rfl, rfl, by rfl, fun w hw => by rfl⟩ (by kernel_rfl) (by kernel_rfl) (by kernel_rfl) (fun _ _ _ h => h) (by assumption) ?_
    simp only [Act.put, List.setIfInBounds_toArray, List.set_cons_zero, List.set_cons_succ]
    refine heldSkip 4 (some 16) ⟨_, rfl, rfl, by rfl⟩ (by kernel_rfl) (by kernel_rfl) (by kernel_rfl) (fun _ _ _ h => h) (by assumption) ?_
    simp only [Act.put, List.setIfInBounds_toArray, List.set_cons_zero, List.set_cons_succ]
    refine heldPass 5 (some 17) ⟨_, rfl, rfl, by rfl⟩ (by kernel_rfl) (by assumption) ?_
    simp only [Act.put, List.setIfInBounds_toArray, List.set_cons_zero, List.set_cons_succ]
    refine heldSkip 6 (some 18) ⟨_, rfl, rfl, by rfl⟩ (by kernel_rfl) (by kernel_rfl) (by kernel_rfl) (fun _ _ _ h => h) (by assumption) ?_
    simp only [Act.put, List.setIfInBounds_toArray, List.set_cons_zero, List.set_cons_succ]
    refine heldTake 7 (some 19) (.bool true) ⟨_, rfl, rfl, by rfl, fun w hw => by rfl⟩ (by kernel_rfl) (by kernel_rfl) (by kernel_rfl) (fun _ _ _ h => h) (by assumption) ?_
    simp only [Act.put, List.setIfInBounds_toArray, List.set_cons_zero, List.set_cons_succ]
    refine heldTake 8 (some 20) (.bool true) ⟨_, rfl, rfl, by rfl, fun w hw => by rfl⟩ (by kernel_rfl) (by kernel_rfl) (by kernel_rfl) (fun _ _ _ h => h) (by assumption) ?_
    simp only [Act.put, List.setIfInBounds_toArray, List.set_cons_zero, List.set_cons_succ]
    refine heldSkip 9 (some 21) ⟨_, rfl, rfl, by rfl⟩ (by kernel_rfl) (by kernel_rfl) (by kernel_rfl) (fun _ _ _ h => h) (by assumption) ?_
    simp only [Act.put, List.setIfInBounds_toArray, List.set_cons_zero, List.set_cons_succ]
    refine heldPass 10 (some 22) ⟨_, rfl, rfl, by rfl⟩ (by kernel_rfl) (by assumption) ?_
    simp only [Act.put, List.setIfInBounds_toArray, List.set_cons_zero, List.set_cons_succ]
    refine heldSkip 11 (some 23) ⟨_, rfl, rfl, by rfl⟩ (by kernel_rfl) (by kernel_rfl) (by kernel_rfl) (fun _ _ _ h => h) (by assumption) ?_
    simp only [Act.put, List.setIfInBounds_toArray, List.set_cons_zero, List.set_cons_succ]
    refine heldTake 12 (some 24) (.bool true) ⟨_, rfl, rfl, by rfl, fun w hw => by rfl⟩ (by kernel_rfl) (by kernel_rfl) (by kernel_rfl) (fun _ _ _ h => h) (by assumption) ?_
    simp only [Act.put, List.setIfInBounds_toArray, List.set_cons_zero, List.set_cons_succ]
    refine heldTake 13 (some 25) (.bool true) ⟨_, rfl, rfl, by rfl, fun w hw => by rfl⟩ (by kernel_rfl) (by kernel_rfl) (by kernel_rfl) (fun _ _ _ h => h) (by assumption) ?_
    simp only [Act.put, List.setIfInBounds_toArray, List.set_cons_zero, List.set_cons_succ]
    refine heldSkip 14 (some 26) ⟨_, rfl, rfl, by rfl⟩ (by kernel_rfl) (by kernel_rfl) (by kernel_rfl) (fun _ _ _ h => h) (by assumption) ?_
    simp only [Act.put, List.setIfInBounds_toArray, List.set_cons_zero, List.set_cons_succ]
    refine heldSkip 15 (some 27) ⟨_, rfl, rfl, by rfl⟩ (by kernel_rfl) (by kernel_rfl) (by kernel_rfl) (fun _ _ _ h => h) (by assumption) ?_
    simp only [Act.put, List.setIfInBounds_toArray, List.set_cons_zero, List.set_cons_succ]
    refine heldSkip 16 (some 28) ⟨_, rfl, rfl, by rfl⟩ (by kernel_rfl) (by kernel_rfl) (by kernel_rfl) (fun _ _ _ h => h) (by assumption) ?_
    simp only [Act.put, List.setIfInBounds_toArray, List.set_cons_zero, List.set_cons_succ]
    refine heldSkip 17 (some 29) ⟨_, rfl, rfl, by rfl⟩ (by kernel_rfl) (by kernel_rfl) (by kernel_rfl) (fun _ _ _ h => h) (by assumption) ?_
    simp only [Act.put, List.setIfInBounds_toArray, List.set_cons_zero, List.set_cons_succ]
    refine heldSkip 18 (some 30) ⟨_, rfl, rfl, by rfl⟩ (by kernel_rfl) (by kernel_rfl) (by kernel_rfl) (fun _ _ _ h => h) (by assumption) ?_
    simp only [Act.put, List.setIfInBounds_toArray, List.set_cons_zero, List.set_cons_succ]
    refine heldSkip 19 (some 31) ⟨_, rfl, rfl, by rfl⟩ (by kernel_rfl) (by kernel_rfl) (by kernel_rfl) (fun _ _ _ h => h) (by assumption) ?_
    simp only [Act.put, List.setIfInBounds_toArray, List.set_cons_zero, List.set_cons_succ]
    refine heldSkip 20 (some 32) ⟨_, rfl, rfl, by rfl⟩ (by kernel_rfl) (by kernel_rfl) (by kernel_rfl) (fun _ _ _ h => h) (by assumption) ?_
    simp only [Act.put, List.setIfInBounds_toArray, List.set_cons_zero, List.set_cons_succ]
    refine heldSkip 21 (some 33) ⟨_, rfl, rfl, by rfl⟩ (by kernel_rfl) (by kernel_rfl) (by kernel_rfl) (fun _ _ _ h => h) (by assumption) ?_
    simp only [Act.put, List.setIfInBounds_toArray, List.set_cons_zero, List.set_cons_succ]
    refine heldSkip 22 (some 34) ⟨_, rfl, rfl, by rfl⟩ (by kernel_rfl) (by kernel_rfl) (by kernel_rfl) (fun _ _ _ h => h) (by assumption) ?_
    simp only [Act.put, List.setIfInBounds_toArray, List.set_cons_zero, List.set_cons_succ]
    refine heldSkip 23 (some 35) ⟨_, rfl, rfl, by rfl⟩ (by kernel_rfl) (by kernel_rfl) (by kernel_rfl) (fun _ _ _ h => h) (by assumption) ?_
    simp only [Act.put, List.setIfInBounds_toArray, List.set_cons_zero, List.set_cons_succ]
    refine heldSkip 24 (some 36) ⟨_, rfl, rfl, by rfl⟩ (by kernel_rfl) (by kernel_rfl) (by kernel_rfl) (fun _ _ _ h => h) (by assumption) ?_
    simp only [Act.put, List.setIfInBounds_toArray, List.set_cons_zero, List.set_cons_succ]
    refine heldSkip 25 (some 37) ⟨_, rfl, rfl, by rfl⟩ (by kernel_rfl) (by kernel_rfl) (by kernel_rfl) (fun _ _ _ h => h) (by assumption) ?_
    simp only [Act.put, List.setIfInBounds_toArray, List.set_cons_zero, List.set_cons_succ]
    refine heldSkip 26 (some 38) ⟨_, rfl, rfl, by rfl⟩ (by kernel_rfl) (by kernel_rfl) (by kernel_rfl) (fun _ _ _ h => h) (by assumption) ?_
    simp only [Act.put, List.setIfInBounds_toArray, List.set_cons_zero, List.set_cons_succ]
    refine heldSkip 27 (some 39) ⟨_, rfl, rfl, by rfl⟩ (by kernel_rfl) (by kernel_rfl) (by kernel_rfl) (fun _ _ _ h => h) (by assumption) ?_
    simp only [Act.put, List.setIfInBounds_toArray, List.set_cons_zero, List.set_cons_succ]
    refine heldTake 28 (some 40) (.bool true) ⟨_, rfl, rfl, by rfl, fun w hw => by rfl⟩ (by kernel_rfl) (by kernel_rfl) (by kernel_rfl) (fun _ _ _ h => h) (by assumption) ?_
    simp only [Act.put, List.setIfInBounds_toArray, List.set_cons_zero, List.set_cons_succ]
    refine wpAnyH_done (by kernel_rfl) ?_ _
    go_wp2
    go_ret2
    exact ⟨_, rfl, New.nil _ _ _, hb5⟩
end Go.Proofs.Ytapcfojnljnoaaa
