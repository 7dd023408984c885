/- All changes in the model. -/
import Derived.Test.YtkeighlcdnfjcaaB17
namespace Go.Proofs.Ytkeighlcdnfjcaa
open Go.RowKit

/-- letters that are bytes -/
def Sm (xs : List (List Nat)) : Prop := ∀ l ∈ xs, ∀ b ∈ l, b < 256
theorem Sm.set {xs : List (List Nat)} (h : Sm xs) (k : Nat) {s : List Nat} (hs : ∀ b ∈ s, b < 256) : Sm (xs.set k s) := by
  intro l hl
  rcases List.mem_or_eq_of_mem_set hl with q | q
  · exact h l q
  · rw [q]; exact hs
theorem Sm.get {xs : List (List Nat)} (h : Sm xs) (k : Nat) (hk : k < xs.length) : ∀ b ∈ xs.getD k [], b < 256 := by
  rw [List.getD_eq_getElem?_getD, List.getElem?_eq_getElem hk]
  exact h _ (List.getElem_mem hk)
theorem lexL_gt : ∀ a b : List Nat, (!lexL a b && !decide (a = b)) = lexL b a
  | [], [] => rfl
  | [], _ :: _ => rfl
  | _ :: _, [] => rfl
  | a :: l, b :: r => by
    have ih := lexL_gt l r
    unfold lexL
    rcases Nat.lt_trichotomy a b with h | h | h
    · have h1 : ¬ b < a := by omega
      have h2 : ¬ b = a := by omega
      simp [h, h1, h2]
    · subst h
      simp only [Nat.lt_irrefl, decide_false, beq_self_eq_true, Bool.true_and, Bool.false_or, List.cons.injEq, true_and]
      exact ih
    · have h1 : ¬ a < b := by omega
      have h2 : ¬ a = b := by omega
      simp [h, h1, h2]
theorem gt_txt {s t : List Nat} (hs : ∀ b ∈ s, b < 256) (ht : ∀ b ∈ t, b < 256) : (!Op.bytesLess (txt t).toList (txt s).toList && !(txt t).toList == (txt s).toList) = lexL s t := by
  rw [less_lets, same_lets, lets_txt s hs, lets_txt t ht]
  exact lexL_gt t s
theorem frm_len2 (n : Nat) : ∀ (k p : Nat), ∀ l ∈ frm n k p, l.length ≤ n + 1 - p
  | 0, p, l, h => by simp [frm] at h; simp [h]
  | k + 1, p, l, h => by
    unfold frm at h
    split at h
    · simp at h; simp [h]
    · rw [List.mem_append] at h
      rcases h with h | h
      · obtain ⟨t, ht, rfl⟩ := List.mem_map.1 h
        have := frm_len2 n k (p + 1) t ht
        simp only [List.length_cons]; omega
      · split at h
        · have := frm_len2 n k (p + 2) l h; omega
        · simp at h
theorem strs_at (xs : List (List Nat)) (k : Nat) (hk : k < xs.length) : (strs xs)[k]? = some (.string (txt (xs.getD k []))) := by
  simp [strs, List.getD_eq_getElem?_getD, hk]
theorem strs_set (xs : List (List Nat)) (k : Nat) (s : List Nat) : (strs xs).set k (.string (txt s)) = strs (xs.set k s) := by
  simp [strs, List.map_set]

set_option maxRecDepth 100000 in
set_option maxHeartbeats 1000000 in
theorem l2All_any (n : Nat) (h3 : 3 ≤ n) (h8 : n ≤ 8) (w : World) : Calls Try.prog 66 #[.int .i64 n] w (After (chs n) w) := by
  have h8' : (n : Int) ≤ 8 := by omega
  obtain ⟨_, hfold, _, hlen, _⟩ := alls n h3 h8
  have HF := Lib.hid (l2From_any n h8 10 1 (by omega) (by omega) (by omega) hlen 1 (by simp))
  have hsm := frm_small n h8 10 1
  have hfl := frm_len2 n 10 1
  generalize frm n 10 1 = ll at *
  generalize chs n = res at *
  obtain ⟨i0, hi0, hz0, hz1, hz2⟩ := info_parts infoText
  have I0 := Lib.hid (⟨hi0, hz0, hz1, hz2⟩ : _ ∧ _ ∧ _ ∧ _)
  have HFOLD := Lib.hid hfold
  have HSM := Lib.hid hsm
  have HFL := Lib.hid hfl
  clear hfold hsm hi0 hz0 hz1 hz2 hfl
  obtain ⟨m, hm⟩ : ∃ m, ll.length = m := ⟨_, rfl⟩
  rw [hm] at hlen
  have HM := Lib.hid hm
  clear hm
  have hm' : (m : Int) ≤ 100 := by omega
  go_enter Try.func66, Try.ntmps66
  go_wp2_with fail
  refine (HF.out _).mono ?_
  rintro e w1 ⟨v1, vs1, rfl, hL1, hb1⟩
  obtain ⟨a, cap, rfl, ha⟩ := hL1.own.own.view
  rw [hL1.len, HM.out] at ha hL1 ⊢
  have HL1 := Lib.hid hL1
  have HA := Lib.hid ha
  have HB1 := Lib.hid hb1
  clear hL1 ha hb1
  go_wp2
  go_loopg [3, 5, 6, 7, 11] m (fun q out _ _ _ i wr => ∃ (j : Nat) (acc : List (List Nat)), j ≤ m ∧ q + j = m ∧ i = .int .i64 j ∧ acc.length ≤ j ∧ Sm acc ∧ (ll.drop j).foldl (rnd n) acc = res ∧ New w1.heap.size wr 9 out (strs acc) ∧ Below w1.heap.size w1 wr)
  case atStart => exact ⟨0, [], Nat.zero_le _, rfl, rfl, by simp, fun l hl => by simp at hl, by simpa using HFOLD.out, New.nil _ _ _, Below.refl _ _⟩
  case round =>
    clear HFOLD
    obtain ⟨j, acc, hj, hq, rfl, hal, hsma, hfo, hnew, hbel⟩ := hrel
    have HQ := Lib.hid hq
    have HSA := Lib.hid hsma
    have HFO := Lib.hid hfo
    obtain ⟨a3, cap3, rfl, _⟩ := hnew.own.view
    rw [strs_len] at hnew ⊢
    have HN := Lib.hid hnew
    have HB := Lib.hid hbel
    clear hq hsma hfo hnew hbel
    by_cases hlt : j < m
    · obtain ⟨g, rfl⟩ := HA.out (by omega)
      have hjl : j < ll.length := by rw [HM.out]; exact hlt
      obtain ⟨u, hu1, hu2⟩ := HL1.out.inner j hjl
      have c1 := (HL1.out.own.own.kept HB.out).cell j u hu1
      have HU := Lib.hid (hu2.kept HB.out)
      have hfo := HFO.out
      rw [List.drop_eq_getElem_cons hjl, List.foldl_cons] at hfo
      have hlk := HFL.out _ (List.getElem_mem hjl)
      have hlx := HSM.out _ (List.getElem_mem hjl)
      generalize ll[j] = l at *
      have hji : (j : Int) < m := by omega
      have HOF := Lib.hid (fun W (hW : Own W 3 u (nums l)) => l2Of_any u l (Nat.le_trans hlk (by omega)) (fun x hx => by have := hlx x hx; omega) W hW)
      have hsl : ∀ b ∈ ofPlaces l, b < 256 := by
        intro b hb
        unfold ofPlaces at hb
        split at hb
        · simp at hb; omega
        · obtain ⟨x, hx, rfl⟩ := List.mem_map.1 hb
          have := hlx x hx; omega
      have hgc : goodC n (txt (ofPlaces l)) = goodL n (ofPlaces l) := by rw [goodC_in, lets_txt _ hsl]
      have hsz : (txt (ofPlaces l)).size ≤ maxLen := by
        rw [txt_size]
        have : (ofPlaces l).length ≤ 10 := by
          unfold ofPlaces
          split
          · simp
          · simp; omega
        unfold maxLen; omega
      unfold rnd at hfo
      have HCH := Lib.hid (l2Change_any n (txt (ofPlaces l)) hsz)
      rw [hgc] at HCH
      have HSL := Lib.hid hsl
      generalize ofPlaces l = s at *
      clear hu1 hu2 hlk hlx hgc hsz hsl
      cases hgood : goodL n s
      · rw [hgood] at hfo HCH
        have HFO2 := Lib.hid hfo
        clear hfo hgood
        go_wp2_with fail
        refine (HOF.out _ HU.out).mono ?_
        rintro e w2 ⟨rfl, hb2⟩
        have HB2 := Lib.hid (HB.out.trans (hb2.mono HB.out.size))
        have HN2 := Lib.hid (HN.out.kept hb2)
        clear hb2
        go_wp2_with fail
        refine (HCH.out _).mono ?_
        rintro e w' ⟨rfl, rfl⟩
        go_wp2
        go_roundg (m - (j + 1))
        case measure => have := HQ.out; omega
        case rel => exact ⟨j + 1, acc, by omega, by have := HQ.out; omega, by go_num, by omega, HSA.out, HFO2.out, HN2.out, HB2.out⟩
      · rw [hgood] at hfo HCH
        have HFO2 := Lib.hid hfo
        clear hfo hgood
        have hai : (acc.length : Int) ≤ 100 := by omega
        go_wp2_with fail
        refine (HOF.out _ HU.out).mono ?_
        rintro e w2 ⟨rfl, hb2⟩
        have HB2 := Lib.hid (HB.out.trans (hb2.mono HB.out.size))
        have HN2 := Lib.hid (HN.out.kept hb2)
        clear hb2
        go_wp2_with fail
        refine (HCH.out _).mono ?_
        rintro e w' ⟨rfl, rfl⟩
        go_wp2_with (at_builtin; refine wpList_app1 rfl (.tmp 23) (.tmp 25) 38 rfl 9 i0 (.string ⟨#[]⟩) 16 Try.underlying38 I0.out.1 I0.out.2.1 I0.out.2.2.1 I0.out.2.2.2 rfl w1.heap.size w1 _ (strs acc) rfl HN2.out rfl rfl HB2.out.size HB2.out (by rw [strs_len]; omega) (by omega) ?_)
        intro v4 w4 hn4 _ hb4 _
        rw [strs_snoc] at hn4
        obtain ⟨a4, cap4, rfl, ha4⟩ := hn4.own.view
        obtain ⟨g4, rfl⟩ := ha4 (by rw [strs_len]; simp)
        have hL4 : (strs (acc ++ [s])).length = acc.length + 1 := by rw [strs_len]; simp
        rw [hL4] at hn4 ⊢
        have HN4 := Lib.hid hn4
        have HB4 := Lib.hid hb4
        have hg4 := hn4.base g4 rfl
        clear hn4 hb4 ha4 hL4
        go_wp2
        go_loopg [7] acc.length (fun q i wk => ∃ xs : List (List Nat), q ≤ acc.length ∧ i = .int .i64 q ∧ xs.length = acc.length + 1 ∧ Sm xs ∧ mv s q xs = ins acc s ∧ Own wk 9 (.slice (some ⟨g4, 0, none⟩) (acc.length + 1) cap4) (strs xs) ∧ Below w1.heap.size w1 wk)
        case atStart => exact ⟨acc ++ [s], Nat.le_refl _, rfl, by simp, fun l hl => by
          rcases List.mem_append.1 hl with q | q
          · exact HSA.out l q
          · simp at q; rw [q]; exact HSL.out, rfl, HN4.out.own, HB4.out⟩
        case round =>
          clear HN4 HB4 HN2 HB2 HN HB HU
          obtain ⟨xs, hqa, rfl, hxl, hsx, hmv, hown, hbk⟩ := hrel
          have HO := Lib.hid hown
          have HBK := Lib.hid hbk
          have HSX := Lib.hid hsx
          have HMV := Lib.hid hmv
          have HXL := Lib.hid hxl
          clear hown hbk hsx hmv hxl
          cases gk with
          | zero =>
            have c5 := HO.out.cell 0 _ (strs_at xs 0 (by rw [HXL.out]; omega))
            have f5 := HO.out.free 0
            have HINS := Lib.hid (show xs.set 0 s = ins acc s from HMV.out)
            generalize xs.getD 0 [] = y at *
            clear HMV
            have HO2 := Lib.hid (HO.out.set 0 (.string (txt s)))
            rw [strs_set, HINS.out] at HO2
            have HB6 := Lib.hid (HBK.out.setCell (p := ⟨g4, 0, none⟩) hg4 (.string (txt s)))
            have HS6 := Lib.hid (show Sm (ins acc s) by rw [← HINS.out]; exact HSX.out.set 0 HSL.out)
            have hins := ins_len acc s
            rw [← strs_len (ins acc s)] at hins
            go_wp2
            go_roundg (m - (j + 1))
            case measure => have := HQ.out; omega
            case rel => exact ⟨j + 1, ins acc s, by omega, by have := HQ.out; omega, by go_num, by rw [ins_len]; omega, HS6.out, HFO2.out, ⟨by unfold Own; rw [hins]; unfold Own at HO2; rw [hins] at HO2; exact HO2.out, fun g hg => by simp [Value.ownBlock] at hg; omega⟩, HB6.out⟩
          | succ k =>
            have hkx : k < xs.length := by rw [HXL.out]; omega
            have c5 := HO.out.cell k _ (strs_at xs k hkx)
            have c6 := HO.out.cell (k + 1) _ (strs_at xs (k + 1) (by rw [HXL.out]; omega))
            have f6 := HO.out.free (k + 1)
            have hls := gt_txt HSL.out (HSX.out.get k hkx)
            have hmv := HMV.out
            unfold mv at hmv
            have hk1 : (0 : Int) < (k : Int) + 1 := by omega
            have hka : (k : Int) + 1 ≤ (acc.length : Int) := by omega
            have hyb := HSX.out.get k hkx
            generalize xs.getD k [] = y at *
            generalize xs.getD (k + 1) [] = z at *
            cases hlex : lexL s y
            · rw [hlex] at hls hmv
              have HINS := Lib.hid (show xs.set (k + 1) s = ins acc s from hmv)
              clear hmv HMV hlex hyb
              have HO2 := Lib.hid (HO.out.set (k + 1) (.string (txt s)))
              rw [strs_set, HINS.out] at HO2
              have HB6 := Lib.hid (HBK.out.setCell (p := ⟨g4, (k + 1), none⟩) hg4 (.string (txt s)))
              have HS6 := Lib.hid (show Sm (ins acc s) by rw [← HINS.out]; exact HSX.out.set (k + 1) HSL.out)
              have hins := ins_len acc s
              rw [← strs_len (ins acc s)] at hins
              go_wp2
              go_roundg (m - (j + 1))
              case measure => have := HQ.out; omega
              case rel => exact ⟨j + 1, ins acc s, by omega, by have := HQ.out; omega, by go_num, by rw [ins_len]; omega, HS6.out, HFO2.out, ⟨by unfold Own; rw [hins]; unfold Own at HO2; rw [hins] at HO2; exact HO2.out, fun g hg => by simp [Value.ownBlock] at hg; omega⟩, HB6.out⟩
            · rw [hlex] at hls hmv
              have HMV2 := Lib.hid (show mv s k (xs.set (k + 1) y) = ins acc s from hmv)
              have HO2 := Lib.hid (HO.out.set (k + 1) (.string (txt y)))
              rw [strs_set] at HO2
              have HB6 := Lib.hid (HBK.out.setCell (p := ⟨g4, k + 1, none⟩) hg4 (.string (txt y)))
              have HS6 := Lib.hid (HSX.out.set (k + 1) hyb)
              clear hmv HMV hlex hyb
              go_wp2
              go_roundg k
              case measure => omega
              case rel => exact ⟨xs.set (k + 1) y, by omega, by go_num, by rw [List.length_set]; exact HXL.out, HS6.out, HMV2.out, HO2.out, HB6.out⟩
    · obtain rfl : j = m := by omega
      have hji : ¬ (j : Int) < j := by omega
      have hfo := HFO.out
      rw [List.drop_of_length_le (by rw [HM.out]; exact Nat.le_refl _)] at hfo
      have HFO2 := Lib.hid (show acc = res from hfo)
      clear hfo
      go_wp2
      go_ret
      exact ⟨_, rfl, by rw [← HFO2.out]; exact HN.out.lower HB1.out.size, HB1.out.trans (HB.out.mono HB1.out.size)⟩
end Go.Proofs.Ytkeighlcdnfjcaa
