/- A list turned so that one of its rows becomes rounds, in the program and in the model. -/
import Derived.Test.YtnoepobbecobbaaUJ
import Derived.Test.YtnoepobbecobbaaSF
import Derived.Test.YtnoepobbecobbaaD18
namespace Go.Proofs.Ytnoepobbecobbaa
open Go.RowKit
set_option linter.unusedSimpArgs false
set_option linter.unusedVariables false

noncomputable def turnB (L : List (List Nat)) (k : Int) : Bool := listB L && (decide (0 ≤ k) && decide (k ≤ (L.length : Int) - 1))
noncomputable def turnF (n : Nat) (fs : List (Nat → Nat)) (k : Nat) : List (Nat → Nat) := (fs.drop k ++ fs.take k).map (mulR n (invF n (fs.getD k (rdf n))))
noncomputable def turnL (L : List (List Nat)) (k : Int) : List (List Nat) := if turnB L k = true then rowsL (firstN L) (turnF (firstN L) (rF L) k.toNat) else []
theorem turnL_no {L : List (List Nat)} {k : Int} (h : turnB L k = false) : turnL L k = [] := by
  unfold turnL
  rw [h]
  rfl
theorem turn_cases (L : List (List Nat)) (k : Int) : (turnB L k = false ∧ (listB L = false ∨ (listB L = true ∧ k < 0) ∨ (listB L = true ∧ ¬ k < 0 ∧ (L.length : Int) ≤ k))) ∨
    (turnB L k = true ∧ listB L = true ∧ ∃ j : Nat, k = (j : Int) ∧ j < L.length) := by
  unfold turnB
  cases h : listB L
  · exact .inl ⟨rfl, .inl rfl⟩
  · by_cases h0 : k < 0
    · refine .inl ⟨?_, .inr (.inl ⟨rfl, h0⟩)⟩
      rw [decide_eq_false (show ¬ 0 ≤ k by omega)]
      rfl
    · by_cases h1 : (L.length : Int) ≤ k
      · refine .inl ⟨?_, .inr (.inr ⟨rfl, h0, h1⟩)⟩
        rw [decide_eq_false (show ¬ k ≤ (L.length : Int) - 1 by omega)]
        simp
      · refine .inr ⟨?_, rfl, k.toNat, by omega, by omega⟩
        rw [decide_eq_true (show 0 ≤ k by omega), decide_eq_true (show k ≤ (L.length : Int) - 1 by omega)]
        rfl
theorem turnF_rows {n : Nat} {fs : List (Nat → Nat)} (hr : Rows n fs) {k : Nat} (hk : k < fs.length) : IsRow n (invF n fs[k]) ∧ Rows n (fs.drop k ++ fs.take k) ∧ turnF n fs k = (fs.drop k ++ fs.take k).map (mulR n (invF n fs[k])) := by
  refine ⟨isRow_inv (hr _ (List.getElem_mem hk)), fun x hx => ?_, ?_⟩
  · rcases List.mem_append.1 hx with h | h
    · exact hr x (List.mem_of_mem_drop h)
    · exact hr x (List.mem_of_mem_take h)
  · unfold turnF
    rw [List.getD_eq_getElem?_getD, List.getElem?_eq_getElem hk]
    rfl
theorem turn_len (fs : List (Nat → Nat)) (k : Nat) (hk : k ≤ fs.length) : (fs.drop k ++ fs.take k).length = fs.length := by
  rw [List.length_append, List.length_drop, List.length_take]
  omega

set_option maxRecDepth 100000 in
set_option maxHeartbeats 1000000 in
theorem iTurnList_any (v : Value) (L : List (List Nat)) (k : Int) (w : World) (h : Txts w v L) (hl : L.length ≤ 2000000) (hs : ∀ l ∈ L, l.length ≤ maxLen) :
    Calls Try.prog 39 #[v, .int .i64 k] w (TextsAny (turnL L k) (turnB L k) w) := by
  have HC := Lib.hid (rowListOf_any v L w h hl hs)
  unfold ListOut6 at HC
  unfold TextsAny
  rcases turn_cases L k with ⟨hT, hcase⟩ | ⟨hT, hb, j, rfl, hj⟩
  · rw [turnL_no hT, hT]
    have hrl := rF_len L
    generalize rF L = fs at *
    generalize L.length = m at *
    clear h hl hs hT
    rcases hcase with h1 | ⟨h1, h2⟩ | ⟨h1, h2, h3⟩
    · rw [h1] at HC
      clear h1
      go_enter Try.func39, Try.ntmps39
      go_wp2_with fail
      refine HC.out.mono ?_
      rintro e w1 ⟨v1, rfl, hn1, hb1⟩
      have HB1 := Lib.hid hb1
      clear hb1 hn1
      go_wp2
      go_ret2
      exact ⟨_, rfl, New.nil _ _ _, HB1.out⟩
    all_goals
      rw [h1, if_pos rfl] at HC
      clear h1
      go_enter Try.func39, Try.ntmps39
      go_wp2_with fail
      refine HC.out.mono ?_
      rintro e w1 ⟨v1, rfl, hn1, hb1⟩
      have HB1 := Lib.hid hb1
      obtain ⟨a1, c1, rfl, -⟩ := hn1.digs
      rw [hrl] at *
      clear hb1 hn1
      go_wp2
      go_ret2
      exact ⟨_, rfl, New.nil _ _ _, HB1.out⟩
  · have hrows := rowsB_rows hb
    have hlen : (rF L).length = L.length := rF_len L
    have h8 : (rF L).length ≤ 800 := by have := rowsB_len hb; omega
    unfold turnL
    rw [hT, if_pos rfl, Int.toNat_natCast]
    rw [hb, if_pos rfl] at HC
    generalize firstN L = n at *
    generalize rF L = fs at *
    obtain ⟨m, hm⟩ : ∃ m, fs.length = m := ⟨_, rfl⟩
    rw [hm] at h8
    have hjm : j < m := by omega
    have hjx : j < fs.length := by omega
    obtain ⟨hinv, hr2, he⟩ := turnF_rows hrows hjx
    have hjr := hrows _ (List.getElem_mem hjx)
    have ht2 := turn_len fs j (by omega)
    rw [he]
    obtain ⟨x, hxx⟩ : ∃ x, fs[j] = x := ⟨_, rfl⟩
    rw [hxx] at hinv hjr ⊢
    have HX1 := Lib.hid (inverse_any n x hjr)
    obtain ⟨cs, hcs⟩ : ∃ cs, fs.drop j ++ fs.take j = cs := ⟨_, rfl⟩
    rw [hcs] at hr2 ht2 ⊢
    have HX2 := Lib.hid (fun v w h => timesAll_any n v cs (invF n x) hinv hr2 (by rw [ht2, hm]; omega) w h)
    have hr3 := rows_map hinv hr2
    have HX3 := Lib.hid (fun v w h => rowTexts_any n v (cs.map (mulR n (invF n x))) hr3 (by rw [List.length_map, ht2, hm]; omega) w h)
    obtain ⟨X, hX⟩ : ∃ X, fs.drop j = X := ⟨_, rfl⟩
    obtain ⟨Y, hY⟩ : ∃ Y, fs.take j = Y := ⟨_, rfl⟩
    have hxl : X.length = m - j := by rw [← hX, List.length_drop, hm]
    have hyl : Y.length = j := by rw [← hY, List.length_take, hm]; omega
    have HXYE : Hid (X ++ Y = cs) := Lib.hid (by rw [← hX, ← hY]; exact hcs)
    have HMM := Lib.hid hm
    have HDX := Lib.hid hX
    have HDY := Lib.hid hY
    have HXL := Lib.hid hxl
    have HYL := Lib.hid hyl
    unfold RowsOut at HX2
    unfold TextsOut at HX3
    generalize hz : (cs.map (mulR n (invF n x))) = zs at *
    have hj0 : ¬ (j : Int) < 0 := by omega
    have hj1 : ¬ (m : Int) ≤ (j : Int) := by omega
    have hj2 : (0 : Int) ≤ (j : Int) := by omega
    have hj3 : (j : Int) ≤ (m : Int) := by omega
    have hj4 : (j : Int) < (m : Int) := by omega
    have HXX := Lib.hid hxx
    generalize hif : dig8 (invF n x) = di at *
    clear h hl hs hb hT hinv hr2 ht2 hjr he hrows hxx hr3 hcs hX hY hxl hyl hz hif
    go_enter Try.func39, Try.ntmps39
    go_wp2_with fail
    refine HC.out.mono ?_
    rintro e w1 ⟨v1, rfl, hn1, hb1⟩
    have HB1 := Lib.hid hb1
    obtain ⟨a1, c1, rfl, hcap, ha⟩ := hn1.digs
    obtain ⟨g1, f1, rfl, hg1, hc1⟩ := ha (by omega)
    rw [HMM.out] at hcap ⊢
    have hs1 := fun W' => cutD_l g1 f1 m c1 j hjm hcap W'
    have hs2 := fun W' => cutD_h g1 f1 m c1 j (by omega) hcap (by omega) W'
    have HL : Hid (w1.rangeAt g1 (f1 + j * 8) (cells8 x)) := Lib.hid (by rw [← HXX.out]; exact hc1 j hjx)
    have HT1 : Hid (DigA w1 g1 (f1 + j * 8) (c1 - j) X) := Lib.hid ⟨hg1, by rw [HXL.out]; omega, fun i hi => by
      have h1 : j + i < fs.length := by rw [HXL.out] at hi; omega
      have := hc1 (j + i) h1
      rw [show f1 + j * 8 + i * 8 = f1 + (j + i) * 8 by omega]
      have e : X[i] = fs[j + i] := by
        have h2 := HDX.out
        subst h2
        simp
      rw [e]
      exact this⟩
    have HT2 : Hid (DigA w1 g1 f1 c1 Y) := Lib.hid ⟨hg1, by rw [HYL.out]; omega, fun i hi => by
      have h1 : i < fs.length := by rw [HYL.out] at hi; omega
      have := hc1 i h1
      have e : Y[i] = fs[i] := by
        have h2 := HDY.out
        subst h2
        simp
      rw [e]
      exact this⟩
    clear hb1 hn1 hc1 ha HC hcap
    go_wp2
    obtain ⟨o3, ho3⟩ : ∃ o3, Obj.cells #[.slice (some ⟨g1, f1 + j * 8, none⟩) (m - j) (c1 - j), .slice (some ⟨g1, f1, none⟩) j c1] 62 = o3 := ⟨_, rfl⟩
    have hal := below_drewN ((Below.refl w1.heap.size w1).alloc (Nat.le_refl _) o3) 1
    have HB3 := Lib.hid (HB1.out.trans (hal.mono HB1.out.size))
    have HG3 : Hid (RowAt ((w1.alloc o3).drewN 1) w1.heap.size 62 #[.slice (some ⟨g1, f1 + j * 8, none⟩) (m - j) (c1 - j), .slice (some ⟨g1, f1, none⟩) j c1]) := Lib.hid (by rw [← ho3]; exact (RowAt.new w1 _ _).drewN 1)
    have HCC : Hid (Calls Try.prog 79 #[.slice (some ⟨w1.heap.size, 0, none⟩) 2 2] (w1.alloc o3).drew (RowsOut (X ++ Y) (w1.alloc o3).drew)) := Lib.hid (concatD2_any w1.heap.size g1 (f1 + j * 8) (c1 - j) g1 f1 c1 X Y ((w1.alloc o3).drewN 1) (by rw [HXL.out]; exact HG3.out.cell 0 rfl) (by rw [HYL.out]; exact HG3.out.cell 1 rfl) (HT1.out.kept hal) (HT2.out.kept hal) (by rw [HXL.out, HYL.out]; omega) (by rw [HXL.out, HYL.out]; omega))
    have HL3 : Hid (∀ w', Below w1.heap.size w1 w' → w'.rangeAt g1 (f1 + j * 8) (cells8 x)) := Lib.hid (fun w' hb k u hu => (hb.cell (p := ⟨g1, f1 + j * 8 + k, none⟩) hg1).trans (HL.out k u hu))
    have HAL := Lib.hid hal
    subst ho3
    unfold RowsOut at HCC
    rw [HXYE.out] at HCC
    clear hal HG3 HT1 HT2 HL
    go_region_law (first | (go_simp; go_at_call 79; refine HCC.out.mono ?_; rintro e5 w5 ⟨v5, rfl, hn5, hb5⟩) | fail)
    all_goals
      have HB5 := Lib.hid (HB3.out.trans (hb5.mono HB3.out.size))
      have HL5 := Lib.hid (HL3.out w5 (HAL.out.trans (hb5.mono HAL.out.size)))
      have HD5 := Lib.hid hn5.digs
      clear hn5 hb5 HCC hs1 hs2 HB1 HB3 HL3 HAL
      go_wp2_with (first | (refine wpList_load8 rfl _ rfl g1 (f1 + j * 8) rfl x HL5.out ?_) | fail)
      refine (HX1.out _).mono ?_
      rintro e w6 ⟨rfl, hb6⟩
      have HB6 := Lib.hid (HB5.out.trans (hb6.mono HB5.out.size))
      have HD6 := Lib.hid (HD5.out.kept hb6)
      clear hb6 HB5 HD5 HL5
      go_wp2_with fail
      refine (HX2.out _ _ HD6.out).mono ?_
      rintro e w7 ⟨v7, rfl, hn7, hb7⟩
      have HB7 := Lib.hid (HB6.out.trans (hb7.mono HB6.out.size))
      have HD7 := Lib.hid hn7.digs
      clear hb7 hn7 HB6 HD6
      go_wp2_with fail
      refine (HX3.out _ _ HD7.out).mono ?_
      rintro e w8 ⟨v8, rfl, hn8, hb8⟩
      have HB8 := Lib.hid (HB7.out.trans (hb8.mono HB7.out.size))
      have HN8 := Lib.hid (hn8.lower HB7.out.size)
      obtain ⟨a8, c8, rfl, -⟩ := hn8.own.view
      clear hb8 hn8 HB7 HD7
      go_wp2
      go_ret2
      exact ⟨_, rfl, HN8.out, HB8.out⟩

set_option maxRecDepth 100000 in
set_option maxHeartbeats 1000000 in
theorem sTurnList_no (v : Value) (L : List (List Nat)) (k : Int) (w : World) (h : Txts w v L) (hl : L.length ≤ 2000000) (hs : ∀ l ∈ L, l.length ≤ maxLen) (hT : turnB L k = false) :
    Calls Try.prog 38 #[v, .int .i64 k] w (TextsAny [] false w) := by
  have HC := Lib.hid (l6Rows_any v L w h hl hs)
  unfold TextsAny
  obtain ⟨a, cap, rfl, hcap, -⟩ := h
  have hli : (L.length : Int) ≤ 2000000 := by omega
  have H1 := Lib.hid hT
  unfold turnB at H1
  clear hT
  obtain ⟨lb, hlb⟩ : ∃ lb, listB L = lb := ⟨_, rfl⟩
  rw [hlb] at HC H1
  generalize L.length = m at *
  clear hl hs hcap hlb
  cases lb
  · clear H1
    go_enter Try.func38, Try.ntmps38
    go_wp2_with fail
    refine HC.out.mono ?_
    rintro e w1 ⟨rfl, hb1⟩
    go_wp2
    go_ret2
    exact ⟨_, rfl, New.nil _ _ _, hb1⟩
  · rw [Bool.true_and] at H1
    have HIN := Lib.hid (fun w => l1In_any k 0 ((m : Int) - 1) w)
    rw [H1.out] at HIN
    clear H1
    go_enter Try.func38, Try.ntmps38
    go_wp2_with fail
    refine HC.out.mono ?_
    rintro e w1 ⟨rfl, hb1⟩
    have HB1 := Lib.hid hb1
    clear hb1
    go_wp2_with (first | (go_at_call 75; refine (HIN.out _).mono ?_; rintro e w6 ⟨rfl, rfl⟩) | fail)
    go_ret2
    exact ⟨_, rfl, New.nil _ _ _, HB1.out⟩

set_option maxRecDepth 100000 in
set_option maxHeartbeats 1000000 in
theorem sTurnList_yes (n : Nat) (v : Value) (L : List (List Nat)) (fs : List (Nat → Nat)) (j : Nat) (w : World) (h : Txts w v L) (hl : L.length ≤ 2000000) (hs : ∀ l ∈ L, l.length ≤ maxLen) (hb : listB L = true)
    (hlen : fs.length = L.length) (h8 : fs.length ≤ 800) (hrows : Rows n fs) (h2 : ∀ w, Txts w v L → Txts w v (rowsL n fs)) (hjm : j < fs.length) :
    Calls Try.prog 38 #[v, .int .i64 j] w (TextsAny (rowsL n (turnF n fs j)) true w) := by
  have HC := Lib.hid (l6Rows_any v L w h hl hs)
  rw [hb] at HC
  unfold TextsAny
  obtain ⟨a, cap, rfl, hcap, ha⟩ := h2 w h
  rw [rowsL_len] at hcap ha
  have HTX := Lib.hid h
  rw [rowsL_len] at HTX HC ⊢
  obtain ⟨m, hm⟩ : ∃ m, fs.length = m := ⟨_, rfl⟩
  rw [hm] at h8 hcap ha HC HTX ⊢
  obtain ⟨gl, off, rfl, hgl, hcl⟩ := ha (by omega)
  have hjx : j < fs.length := hjm
  obtain ⟨hinv, hr2, he⟩ := turnF_rows hrows hjx
  have hjr := hrows _ (List.getElem_mem hjx)
  have ht2 := turn_len fs j (by omega)
  rw [he]
  obtain ⟨x, hxx⟩ : ∃ x, fs[j] = x := ⟨_, rfl⟩
  rw [hxx] at hinv hjr ⊢
  have hat : ∀ i (hi : i < fs.length), w.cell? ⟨gl, off + i, none⟩ = some (.string (strOf n fs[i])) := fun i hi => by
    rw [hcl i (by omega), rowsL, List.getD_eq_getElem?_getD, List.getElem?_map, List.getElem?_eq_getElem hi, Option.map_some, Option.getD_some, txt_rowL]
  have hs1 := fun W' => slice_l1 gl off m cap j (by omega) hcap W'
  have hs2 := fun W' => slice_h1 gl off m cap j (by omega) hcap (by omega) W'
  have hxl : (fs.drop j).length = m - j := by rw [List.length_drop, hm]
  have hyl : (fs.take j).length = j := by rw [List.length_take, hm]; omega
  have ht1 : Txts w (.slice (some ⟨gl, off + j, none⟩) (m - j) (cap - j)) (rowsL n (fs.drop j)) := ⟨some ⟨gl, off + j, none⟩, cap - j, by rw [rowsL_len, hxl], by rw [rowsL_len, hxl]; omega, fun h0 => ⟨gl, off + j, rfl, hgl, fun i hi => by
    rw [rowsL_len, hxl] at hi
    rw [Nat.add_assoc, hat (j + i) (by omega)]
    simp [List.getD_eq_getElem?_getD, rowsL, show j + i < fs.length by omega, txt_rowL]⟩⟩
  have ht3 : Txts w (.slice (some ⟨gl, off, none⟩) j cap) (rowsL n (fs.take j)) := ⟨some ⟨gl, off, none⟩, cap, by rw [rowsL_len, hyl], by rw [rowsL_len, hyl]; omega, fun h0 => ⟨gl, off, rfl, hgl, fun i hi => by
    rw [rowsL_len, hyl] at hi
    rw [hat i (by omega)]
    simp [List.getD_eq_getElem?_getD, rowsL, List.getElem?_take, hi, show i < fs.length by omega, txt_rowL]⟩⟩
  have hcj := hat j hjx
  rw [hxx] at hcj
  have hx : strs (rowsL n (fs.drop j)) ++ strs (rowsL n (fs.take j)) = strs (rowsL n (fs.drop j ++ fs.take j)) := by simp [strs, rowsL]
  have hss := isStr_row hjr
  have HTU := Lib.hid (fun w => l1Turn_any n x (strOf n x) hss hjr w)
  obtain ⟨cs, hcs⟩ : ∃ cs, fs.drop j ++ fs.take j = cs := ⟨_, rfl⟩
  rw [hcs] at hr2 ht2 hx ⊢
  have HLE := Lib.hid (fun v w h => l6Left_any n (invF n x) hinv v cs hr2 (by rw [ht2, hm]; omega) w h)
  unfold TextsOut at HLE
  generalize hz : (cs.map (mulR n (invF n x))) = zs at *
  generalize hsj : strOf n x = sj at *
  generalize hsi : strOf n (invF n x) = si at *
  obtain ⟨X, hX⟩ : ∃ X, rowsL n (fs.drop j) = X := ⟨_, rfl⟩
  obtain ⟨Y, hY⟩ : ∃ Y, rowsL n (fs.take j) = Y := ⟨_, rfl⟩
  have hXl : X.length = m - j := by rw [← hX, rowsL_len, hxl]
  have hYl : Y.length = j := by rw [← hY, rowsL_len, hyl]
  rw [hX] at ht1 hx
  rw [hY] at ht3 hx
  have HT1 := Lib.hid ht1
  have HT3 := Lib.hid ht3
  have HXE := Lib.hid hx
  have HXL := Lib.hid hXl
  have HYL := Lib.hid hYl
  have HCJ := Lib.hid hcj
  have hone : ∀ u ∈ strs Y, u.oneCell' = true := by
    intro u hu
    simp only [strs, List.mem_map] at hu
    obtain ⟨x, _, rfl⟩ := hu
    rfl
  have HONE := Lib.hid hone
  obtain ⟨i0, hi0, hz0, hz1, hz2⟩ := info_parts infoText
  have I0 := Lib.hid (⟨hi0, hz0, hz1, hz2⟩ : _ ∧ _ ∧ _ ∧ _)
  have hj2 : (0 : Int) ≤ (j : Int) := by omega
  have hj3 : (j : Int) ≤ (m : Int) := by omega
  have hj4 : (j : Int) < (m : Int) := by omega
  have hmi : (m : Int) ≤ 800 := by omega
  have hjd : (decide ((0 : Int) ≤ (j : Int)) && decide ((j : Int) ≤ (m : Int) - 1)) = true := by rw [decide_eq_true hj2, decide_eq_true (by omega)]; rfl
  have HIN := Lib.hid (fun w => l1In_any (j : Int) 0 ((m : Int) - 1) w)
  rw [hjd] at HIN
  have HGL := Lib.hid hgl
  clear h hl hs hb hlen hrows h2 ha hcl hinv hr2 he hjr hxx ht2 hat hxl hyl ht1 ht3 hcj hx hss hcs hz hsj hsi hX hY hXl hYl hone hi0 hz0 hz1 hz2 hjd hcap hgl
  go_enter Try.func38, Try.ntmps38
  go_wp2_with fail
  refine HC.out.mono ?_
  rintro e w1 ⟨rfl, hb1⟩
  have HB1 := Lib.hid hb1
  clear hb1
  go_wp2_with (first | (go_at_call 75; refine (HIN.out _).mono ?_; rintro e w6 ⟨rfl, rfl⟩) | fail)
  have HS : Hid (∀ w', Below w1.heap.size w1 w' → (w'.cell? ⟨gl, off + j, none⟩ = some (.string sj) ∧ Below w1.heap.size w1 w')) := Lib.hid (fun w' hb => ⟨((HB1.out.trans (hb.mono HB1.out.size)).cell (p := ⟨gl, off + j, none⟩) HGL.out).trans HCJ.out, hb⟩)
  have HS0 := Lib.hid (HS.out w1.drew (Below.refl _ _).drew)
  have HT1' : Hid (∀ w', Below w1.heap.size w1 w' → Txts w' (.slice (some ⟨gl, off + j, none⟩) (m - j) (cap - j)) X) := Lib.hid (fun w' hb => HT1.out.kept (HB1.out.trans (hb.mono HB1.out.size)))
  have HT3' : Hid (∀ w', Below w1.heap.size w1 w' → Txts w' (.slice (some ⟨gl, off, none⟩) j cap) Y) := Lib.hid (fun w' hb => HT3.out.kept (HB1.out.trans (hb.mono HB1.out.size)))
  have HOW : Hid (∀ w', Below w1.heap.size w1 w' → Calls Try.prog 78 #[.slice (some ⟨gl, off + j, none⟩) (m - j) (cap - j)] w' (Copied X w')) := Lib.hid (fun w' hb => l1OwnS_any _ X w' (HT1'.out w' hb) (by rw [HXL.out]; omega))
  unfold Copied at HOW
  go_region_held3 (fun w' => w'.cell? ⟨gl, off + j, none⟩ = some (.string sj) ∧ Below w1.heap.size w1 w') (first | exact HS0.out | assumption) (first
    | (go_at_call 77; refine (HTU.out _).mono ?_; rintro e3 w3 ⟨rfl, hbb3⟩; have hb3 : Below w1.heap.size w1 w3 := (Below.refl w1.heap.size w1).drew.trans (hbb3.mono (Nat.le_refl _)); have hS3 := HS.out _ hb3)
    | (go_at_call 78; refine (HOW.out _ hb3).mono ?_; rintro e5 w5 ⟨v5, rfl, hn5, hbb5⟩; obtain ⟨a5, k5, hv5, -⟩ := hn5.own.view; rw [strs_len] at hv5; subst hv5; have hb5 := hb3.trans (hbb5.mono hb3.size); have hS5 := HS.out _ hb5)
    | (refine step_appN rfl (.tmp 25) (.tmp 28) 22 rfl 9 i0 (.string ⟨#[]⟩) 16 Try.underlying22 I0.out.1 I0.out.2.1 I0.out.2.2.1 I0.out.2.2.2 rfl w3.heap.size _ (strs X) rfl hn5 ⟨gl, off, none⟩ j cap (strs Y) rfl (by rw [strs_len, HYL.out]) (news_of (by rw [HYL.out]; exact HT3'.out _ hb5)) HONE.out hbb5.size (by rw [strs_len, HXL.out]; omega) (by omega) ?_; intro v6 w6 hn6 hk6 hbb6; obtain ⟨a6, k6, hv6, -⟩ := hn6.own.view; rw [List.length_append, strs_len, strs_len] at hv6; subst hv6; have hb6 := hb5.trans (hbb6.mono hb3.size); have hS6 := HS.out _ hb6; rw [HXE.out] at hn6; have ht6 := hn6.own.txts)
    | (go_at_call 76; refine (HLE.out _ _ ht6).mono ?_; rintro e7 w7 ⟨v7, rfl, hn7, hbb7⟩; obtain ⟨a7, k7, hv7, -⟩ := hn7.own.view; subst hv7; have hb7 := hb6.trans (hbb7.mono hb6.size); have hS7 := HS.out _ hb7)
    | fail)
  have HB7 := Lib.hid (HB1.out.trans (hb7.mono HB1.out.size))
  have HN7 := Lib.hid (hn7.lower (B' := w.heap.size) (Nat.le_trans HB1.out.size hb6.size))
  clear hb3 hb5 hb6 hb7 hS3 hS5 hS6 hS7 hn5 hn6 hn7 hk6 hbb3 hbb5 hbb6 hbb7 ht6 hs1 hs2
  go_wp2
  go_ret2
  exact ⟨_, rfl, HN7.out, HB7.out⟩
theorem sTurnList_any (v : Value) (L : List (List Nat)) (k : Int) (w : World) (h : Txts w v L) (hl : L.length ≤ 2000000) (hs : ∀ l ∈ L, l.length ≤ maxLen) :
    Calls Try.prog 38 #[v, .int .i64 k] w (TextsAny (turnL L k) (turnB L k) w) := by
  rcases turn_cases L k with ⟨hT, hcase⟩ | ⟨hT, hb, j, rfl, hj⟩
  · rw [turnL_no hT, hT]
    exact sTurnList_no v L k w h hl hs hT
  · have hr := rF_len L
    unfold turnL
    rw [hT, if_pos rfl, Int.toNat_natCast]
    exact sTurnList_yes (firstN L) v L (rF L) j w h hl hs hb hr (by have := rowsB_len hb; omega) (rowsB_rows hb) (fun w h => Txts.rows h hb) (by omega)
end Go.Proofs.Ytnoepobbecobbaa
