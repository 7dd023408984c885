/- The law on all changes, with what chapters 1 and 2 hold merged. -/
import Derived.Test.YtnildepdpkbekaaK5
namespace Go.Proofs.Ytnildepdpkbekaa
open Go.RowKit
set_option linter.unusedSimpArgs false
set_option linter.unusedVariables false


/-- what the law asks of the places and the swaps of a change -/
def pairOk (n : Nat) (l : List Nat) : Bool :=
  decide ((placesOf n l).length + 2 * (swapsOf n l).length = n) && decide ((swapsOf n l).length ≠ 0) &&
  (placesOf n l).all (fun p => decide (1 ≤ p ∧ p ≤ n ∧ cf n l (p - 1) = 48 + p)) &&
  (swapsOf n l).all (fun p => decide (1 ≤ p ∧ p < n ∧ cf n l (p - 1) = 49 + p ∧ cf n l p = 48 + p)) &&
  (List.range n).all (fun i => decide (cf n l (cf n l i - 49) = 49 + i))
structure Pairs (n : Nat) (l : List Nat) : Prop where
  sum : (placesOf n l).length + 2 * (swapsOf n l).length = n
  some : (swapsOf n l).length ≠ 0
  place : ∀ p ∈ placesOf n l, 1 ≤ p ∧ p ≤ n ∧ cf n l (p - 1) = 48 + p
  swap : ∀ p ∈ swapsOf n l, 1 ≤ p ∧ p < n ∧ cf n l (p - 1) = 49 + p ∧ cf n l p = 48 + p
  twice : mulR n (cf n l) (cf n l) = rdf n
theorem pairs_of {n : Nat} {l : List Nat} (h : goodL n l = true) : Pairs n l := by
  have h3 := goodL_three h
  have h8 := goodL_eight h
  have hk : ∀ n, n < 9 → 3 ≤ n → ∀ l ∈ chs n, pairOk n l = true := by decide +kernel
  have := hk n (by omega) h3 l (mem_chs h)
  simp only [pairOk, Bool.and_eq_true, decide_eq_true_eq, List.all_eq_true, List.mem_range] at this
  obtain ⟨⟨⟨⟨a1, a2⟩, a3⟩, a4⟩, a5⟩ := this
  have hr := isRow_cf h
  exact ⟨a1, a2, a3, a4, row_ext (isRow_mul hr hr) (isRow_rdf h3 h8) fun i hi => by
    rw [mulR_at _ _ hi, a5 i hi]; simp [rdf, hi]⟩
theorem ord_two {n : Nat} {l : List Nat} (h : goodL n l = true) : IsOrd n (cf n l) 2 := by
  have h3 := goodL_three h
  have h8 := goodL_eight h
  have hr := isRow_cf h
  have h1 : powR n (cf n l) 1 = cf n l := by
    show mulR n (rdf n) (cf n l) = cf n l
    exact rounds_mul hr
  refine ⟨by omega, by omega, ?_, fun j hj1 hj2 => ?_⟩
  · show mulR n (powR n (cf n l) 1) (cf n l) = rdf n
    rw [h1]; exact (pairs_of h).twice
  · obtain rfl : j = 1 := by omega
    rw [h1]
    obtain ⟨_, _, _, i, hi, hne⟩ := chs_small n h3 h8 l (mem_chs h)
    exact fun e => hne (by rw [e])
theorem mir_good {n : Nat} {l : List Nat} (h : goodL n l = true) : goodL n (mirL n l) = true ∧ mirL n (mirL n l) = l := by
  have := mirrors n (goodL_three h) (goodL_eight h) l (mem_chs h)
  simp only [mirOk, Bool.and_eq_true, beq_iff_eq] at this
  exact ⟨this.1.1.1.1.2, this.1.1.1.2⟩

theorem app_of {n : Nat} {f : Nat → Nat} (hf : IsRow n f) (s : ByteArray) : appF (strOf n f) s = strOf n (mulR n f (cf n (lets s))) := by
  unfold appF
  rw [strOf_size, dg_strOf hf, strOf_mul]
theorem lets_mir {n : Nat} {l : List Nat} (h : goodL n l = true) : lets (txt (mirL n l)) = mirL n l := by
  have hg := (mir_good h).1
  exact lets_ch (goodL_three h) (goodL_eight h) (mem_chs hg)
/-- the row of a change, the mirrored change, for whatever arguments -/
def crS (n : Int) (s : ByteArray) : ByteArray := if goodC n s = true then strOf n.toNat (cf n.toNat (lets s)) else ⟨#[]⟩
def miS (n : Int) (s : ByteArray) : ByteArray := if goodC n s = true then txt (mirL n.toNat (lets s)) else ⟨#[]⟩
theorem iChangeRow_any (n : Int) (s : ByteArray) (w : World) :
    Calls Try.prog 28 #[.int .i64 n, .string s] w fun e w' => e = .returned (.tuple #[.string (crS n s), .bool (goodC n s)]) ∧ Below w.heap.size w w' := by
  unfold crS
  cases h : goodC n s
  · exact iChangeRow_no n s h w
  · obtain ⟨m, rfl, hg⟩ := goodC_stage h
    exact iChangeRow_yes m s hg w
theorem sChangeRow_any (n : Int) (s : ByteArray) (hs : s.size ≤ maxLen) (w : World) :
    Calls Try.prog 29 #[.int .i64 n, .string s] w fun e w' => e = .returned (.tuple #[.string (crS n s), .bool (goodC n s)]) ∧ Below w.heap.size w w' := by
  unfold crS
  cases h : goodC n s
  · exact (sChangeRow_no n s hs h w).mono fun e w' ⟨h1, h2⟩ => ⟨h1, h2 ▸ Below.refl _ _⟩
  · obtain ⟨m, rfl, hg⟩ := goodC_stage h
    exact sChangeRow_yes m s hs hg w
theorem iMirrorChange_any (n : Int) (s : ByteArray) (w : World) :
    Calls Try.prog 30 #[.int .i64 n, .string s] w fun e w' => e = .returned (.tuple #[.string (miS n s), .bool (goodC n s)]) ∧ Below w.heap.size w w' := by
  unfold miS
  cases h : goodC n s
  · exact iMirrorChange_no n s h w
  · obtain ⟨m, rfl, hg⟩ := goodC_stage h
    exact iMirrorChange_yes m s hg w
theorem sMirrorChange_any (n : Int) (s : ByteArray) (hs : s.size ≤ maxLen) (w : World) :
    Calls Try.prog 31 #[.int .i64 n, .string s] w fun e w' => e = .returned (.tuple #[.string (miS n s), .bool (goodC n s)]) ∧ Below w.heap.size w w' := by
  unfold miS
  cases h : goodC n s
  · exact (sMirrorChange_no n s hs h w).mono fun e w' ⟨h1, h2⟩ => ⟨h1, h2 ▸ Below.refl _ _⟩
  · obtain ⟨m, rfl, hg⟩ := goodC_stage h
    exact sMirrorChange_yes m s hs hg w
theorem crS_yes {n : Nat} {s : ByteArray} (h : goodL n (lets s) = true) : crS n s = strOf n (cf n (lets s)) := by
  unfold crS
  rw [if_pos (by rw [goodC_in]; exact h)]
  rfl
theorem miS_yes {n : Nat} {s : ByteArray} (h : goodL n (lets s) = true) : miS n s = txt (mirL n (lets s)) := by
  unfold miS
  rw [if_pos (by rw [goodC_in]; exact h)]
  rfl

theorem chs_sorted (n : Nat) (h3 : 3 ≤ n) (h8 : n ≤ 8) : ∀ k, k + 1 < (chs n).length → lexL ((chs n).getD k []) ((chs n).getD (k + 1) []) = true := by
  have : ∀ n, n < 9 → 3 ≤ n → ((List.range ((chs n).length - 1)).all fun k => lexL ((chs n).getD k []) ((chs n).getD (k + 1) [])) = true := by decide +kernel
  have := this n (by omega) h3
  simp only [List.all_eq_true, List.mem_range] at this
  intro k hk
  exact this k (by omega)
theorem chs_count (n : Nat) (h5 : 5 ≤ n) (h8 : n ≤ 8) : (chs n).length = (chs (n - 1)).length + (chs (n - 2)).length + 1 := by
  have : ∀ n, n < 9 → 5 ≤ n → (chs n).length = (chs (n - 1)).length + (chs (n - 2)).length + 1 := by decide +kernel
  exact this n (by omega) h5

set_option maxRecDepth 100000 in
set_option maxHeartbeats 1000000 in
theorem sameTexts_same (v v' : Value) (xs : List (List Nat)) (w : World) (h : Own w 9 v (strs xs)) (h' : Own w 9 v' (strs xs)) (hb : xs.length ≤ 1000) :
    Calls Try.prog 37 #[v, v'] w fun e w' => e = .returned (.bool true) ∧ ∃ m, w' = w.drewN m := by
  obtain ⟨n, hn⟩ : ∃ n, xs.length = n := ⟨_, rfl⟩
  obtain ⟨a, cap, rfl, ha⟩ := h.view
  obtain ⟨a', cap', rfl, ha'⟩ := h'.view
  rw [strs_len, hn] at h h' ha ha' ⊢
  rw [hn] at hb
  have HO := Lib.hid h
  have HO' := Lib.hid h'
  have HA := Lib.hid ha
  have HA' := Lib.hid ha'
  clear h h' ha ha'
  have HN := Lib.hid hn
  clear hn
  go_enter Try.func37, Try.ntmps37
  go_wp2
  go_loopg [5, 13] n (fun q _ i wr => ∃ k : Nat, k ≤ n ∧ q + k = n ∧ i = .int .i64 k ∧ ∃ d, wr = w.drewN d)
  case atStart => exact ⟨0, Nat.zero_le _, rfl, rfl, 0, rfl⟩
  case round =>
    obtain ⟨k, hk, hq, rfl, d, rfl⟩ := hrel
    have HQ := Lib.hid hq
    clear hq
    by_cases hlt : k < n
    · obtain ⟨g, rfl⟩ := HA.out (by omega)
      obtain ⟨g', rfl⟩ := HA'.out (by omega)
      have hkx : k < xs.length := by rw [HN.out]; exact hlt
      have c1 := HO.out.cell k _ (strs_at xs k hkx)
      have c2 := HO'.out.cell k _ (strs_at xs k hkx)
      have hki : (k : Int) < n := by omega
      generalize txt (xs.getD k []) = x at c1 c2
      have hself : (x.toList == x.toList) = true := by simp
      go_wp2
      go_quiet (fail)
      go_wp2
      go_roundg (n - (k + 1))
      case measure => have := HQ.out; omega
      case rel => exact ⟨k + 1, by omega, by have := HQ.out; omega, by go_num, _, rfl⟩
    · obtain rfl : k = n := by omega
      have hki : ¬ (k : Int) < k := by omega
      go_wp2
      go_ret
      exact ⟨rfl, d, rfl⟩

/-- what the change between two rows does to them -/
theorem betw_back {a b : ByteArray} (ha : a.size ≤ 10) (hb : b.size ≤ 10) {l : List Nat} (h : betw a b = some l) :
    Hid (∀ w, Calls Try.prog 23 #[.string a, .string (txt l)] w fun e w' => e = .returned (.tuple #[.string b, .bool true]) ∧ Below w.heap.size w w') ∧
    Hid (∀ w, Calls Try.prog 11 #[.string b, .string a] w fun e w' => e = .returned (.tuple #[.string (txt l), .bool true]) ∧ Below w.heap.size w w') := by
  have htwo : twoB a b = true := by
    cases ht : twoB a b
    · rw [betw_off ht] at h; cases h
    · rfl
  obtain ⟨n, f, g, hf, hg, rfl, rfl⟩ := two_rows htwo
  rw [betw_rows hf hg] at h
  obtain ⟨hgl, hcf⟩ := chText_some (isRow_quo hf hg) h
  have h3 := hf.three
  have h8 := hf.eight
  have hl : lets (txt l) = l := lets_ch h3 h8 (mem_chs hgl)
  have hfc : mulR n f (cf n l) = g := by rw [hcf]; exact mul_quo hf hg
  have hgf : mulR n g (cf n l) = f := by rw [← hfc, mulR_assoc hf (isRow_cf hgl) (isRow_cf hgl), (pairs_of hgl).twice, mul_rounds hf]
  refine ⟨Lib.hid fun w => ?_, Lib.hid fun w => ?_⟩
  · have := iApply_yes (strOf n f) (txt l) (mx10W ha) (goodB_strOf hf) (by rw [strOf_size, hl]; exact hgl) w
    rw [app_of hf, hl, hfc] at this
    exact this
  · have := iBetweenRows_yes n g f hg hf w
    rw [show quoR n g f = cf n l by rw [← hgf]; exact quo_mul hg (isRow_cf hgl), chText_back hgl] at this
    exact this

set_option maxRecDepth 100000 in
set_option maxHeartbeats 4000000 in
theorem lawAllChangesLaw (a1 : Option Addr) (l1 c1 : Nat) (z1 : List Int) (a2 : Option Addr) (l2 c2 : Nat) (z2 : List Int) (w : World) (hz1 : IsBytes w a1 l1 c1 z1) (hz2 : IsBytes w a2 l2 c2 z2) :
    Calls Try.prog 7 #[.slice a1 l1 c1, .slice a2 l2 c2] w fun e w' => e = .returned (.bool true) ∧ Below w.heap.size w w' := by
  have HZ1 := Lib.hid hz1
  have HZ2 := Lib.hid hz2
  clear hz1 hz2
  go_enter Try.func7, Try.ntmps7
  go_wp2_with fail
  refine (big_any a1 a2 l1 l2 c1 c2 HZ1.out.lenW HZ2.out.lenW _).mono ?_
  rintro e w0 ⟨rfl, rfl⟩
  by_cases hbig : 1048576 < l1 + l2
  · rw [decide_eq_true hbig]
    go_wp2
    go_ret
    exact ⟨rfl, Below.refl _ _⟩
  · rw [decide_eq_false hbig]
    have HL1 := Lib.hid (show l1 ≤ 1048576 by omega)
    have HL2 := Lib.hid (show l2 ≤ 1048576 by omega)
    clear hbig
    go_wp2_with fail
    refine (DrawAllChanges_any a1 l1 c1 z1 _ HZ1.out HL1.out).mono ?_
    rintro e w1 ⟨n0, rfl, hb1⟩
    have HB1 := Lib.hid hb1
    clear hb1
    have HIA := Lib.hid (iAllChanges_any n0)
    have HSA := Lib.hid (sAllChanges_any n0)
    have hcl := chsAny_len n0
    cases hst : stageB n0
    · rw [hst] at HIA HSA
      generalize chsAny n0 = L at *
      go_wp2_with fail
      refine (HIA.out _).mono ?_
      rintro e w2 ⟨v2, rfl, hn2, hbx⟩
      have HB2 := Lib.hid (HB1.out.trans (hbx.mono HB1.out.size))
      have HN2 := Lib.hid hn2.own
      clear hbx hn2 HB1
      go_wp2_with fail
      refine (HSA.out _).mono ?_
      rintro e w3 ⟨v3, rfl, hn3, hbx⟩
      have HB3 := Lib.hid (HB2.out.trans (hbx.mono HB2.out.size))
      have HN3 := Lib.hid hn3.own
      have HN2' := Lib.hid (HN2.out.kept hbx)
      clear hbx hn3 HB2
      go_wp2_with fail
      refine (sameTexts_same v2 v3 L _ HN2'.out HN3.out (by omega)).mono ?_
      rintro e w4 ⟨rfl, d4, hd4⟩
      have HB4 : Hid (Below w.heap.size w w4) := by rw [hd4]; exact below_drewN HB3.out _
      clear hd4 HB3
      go_wp2_with fail
      refine (DrawBetweenRows_any a2 l2 c2 z2 _ (HZ2.out.belowW HB4.out) HL2.out).mono ?_
      rintro e y40 ⟨sa, sb, hsa, hsb, rfl, hbx⟩
      have HX1 := Lib.hid (HB4.out.trans (hbx.mono HB4.out.size))
      clear hbx HB4
      have HIB := Lib.hid (iBetweenRows_any sa sb (mx10W hsa) (mx10W hsb))
      have HSB := Lib.hid (sBetweenRows_any sa sb (mx10W hsa) (mx10W hsb))
      cases hbw : betw sa sb with
      | none =>
        rw [hbw] at HIB HSB
        simp only [chEnd] at HIB HSB
        clear hbw
        go_wp2_with fail
        refine (HIB.out _).mono ?_
        rintro e y41 ⟨rfl, hbx⟩
        have HX2 := Lib.hid (HX1.out.trans (hbx.mono HX1.out.size))
        clear hbx HX1
        go_wp2_with fail
        refine (HSB.out _).mono ?_
        rintro e y42 ⟨rfl, hbx⟩
        have HX3 := Lib.hid (HX2.out.trans (hbx.mono HX2.out.size))
        clear hbx HX2
        go_wp2
        go_ret
        exact ⟨rfl, HX3.out⟩
      | some l =>
        rw [hbw] at HIB HSB
        simp only [chEnd] at HIB HSB
        obtain ⟨HAP, HBB⟩ := betw_back hsa hsb hbw
        generalize txt l = T at *
        have hTT : (T.toList == T.toList) = true := by simp
        have hss : (sb.toList == sb.toList) = true := by simp
        clear hbw
        go_wp2_with fail
        refine (HIB.out _).mono ?_
        rintro e y41 ⟨rfl, hbx⟩
        have HX2 := Lib.hid (HX1.out.trans (hbx.mono HX1.out.size))
        clear hbx HX1
        go_wp2_with fail
        refine (HSB.out _).mono ?_
        rintro e y42 ⟨rfl, hbx⟩
        have HX3 := Lib.hid (HX2.out.trans (hbx.mono HX2.out.size))
        clear hbx HX2
        go_wp2_with fail
        refine (HAP.out _).mono ?_
        rintro e y43 ⟨rfl, hbx⟩
        have HX4 := Lib.hid (HX3.out.trans (hbx.mono HX3.out.size))
        clear hbx HX3
        go_wp2_with fail
        refine (HBB.out _).mono ?_
        rintro e y44 ⟨rfl, hbx⟩
        have HX5 := Lib.hid (HX4.out.trans (hbx.mono HX4.out.size))
        clear hbx HX4
        go_wp2
        go_ret
        exact ⟨rfl, HX5.out⟩
    · obtain ⟨n, rfl, h3, h8⟩ : ∃ n : Nat, n0 = n ∧ 3 ≤ n ∧ n ≤ 8 := by
        simp only [stageB, Bool.and_eq_true, decide_eq_true_eq] at hst
        exact ⟨n0.toNat, by omega, by omega, by omega⟩
      rw [hst] at HIA HSA
      rw [chsAny_in n h3 h8] at HIA HSA hcl
      have HSORT := Lib.hid (chs_sorted n h3 h8)
      have HGC : Hid (∀ i (h : i < (chs n).length) w, Calls Try.prog 32 #[.int .i64 n, .string (txt ((chs n).getD i []))] w fun e w' => e = .returned (.bool true) ∧ Below w.heap.size w w') := Lib.hid fun i h w => by
        have hm : (chs n).getD i [] ∈ chs n := by rw [List.getD_eq_getElem?_getD, List.getElem?_eq_getElem h]; exact List.getElem_mem h
        have := iGoodChange_any n (txt ((chs n).getD i [])) w
        rw [goodC_in, lets_ch h3 h8 hm, (chs_small n h3 h8 _ hm).1] at this
        exact this
      have HBY : Hid (∀ i (h : i < (chs n).length), ∀ b ∈ (chs n).getD i [], b < 256) := Lib.hid fun i h => by
        have hm : (chs n).getD i [] ∈ chs n := by rw [List.getD_eq_getElem?_getD, List.getElem?_eq_getElem h]; exact List.getElem_mem h
        intro b hb
        have := (chs_small n h3 h8 _ hm).2.1 b hb
        omega
      have hcnt : 5 ≤ n → (chs n).length = (chs (n - 1)).length + (chs (n - 2)).length + 1 := fun h5 => chs_count n h5 h8
      have HP1 := Lib.hid (iAllChanges_any ((n : Int) - 1))
      have HP2 := Lib.hid (iAllChanges_any ((n : Int) - 2))
      have h3' : (3 : Int) ≤ n := by omega
      have h8' : (n : Int) ≤ 8 := by omega
      clear hst
      generalize hLL : chs n = L at *
      obtain ⟨m, hm⟩ : ∃ m, L.length = m := ⟨_, rfl⟩
      have HM := Lib.hid hm
      rw [hm] at hcl
      have HCNT := Lib.hid (show 5 ≤ n → m = (chs (n - 1)).length + (chs (n - 2)).length + 1 by rw [← hm]; exact hcnt)
      have hm' : (m : Int) ≤ 100 := by omega
      clear hLL hm hcnt
      go_wp2_with fail
      refine (HIA.out _).mono ?_
      rintro e w2 ⟨v2, rfl, hn2, hbx⟩
      obtain ⟨va, vcap, rfl, hva⟩ := hn2.own.view
      rw [strs_len, HM.out] at hn2 hva ⊢
      have HVA := Lib.hid hva
      have HB2 := Lib.hid (HB1.out.trans (hbx.mono HB1.out.size))
      have HN2 := Lib.hid hn2.own
      clear hbx hn2 HB1 hva
      go_wp2_with fail
      refine (HSA.out _).mono ?_
      rintro e w3 ⟨v3, rfl, hn3, hbx⟩
      have HB3 := Lib.hid (HB2.out.trans (hbx.mono HB2.out.size))
      have HN3 := Lib.hid hn3.own
      have HN2' := Lib.hid (HN2.out.kept hbx)
      clear hbx hn3 HB2 HN2
      go_wp2_with fail
      refine (sameTexts_same _ v3 L _ HN2'.out HN3.out (by rw [HM.out]; omega)).mono ?_
      rintro e w4 ⟨rfl, d4, hd4⟩
      have HB4 : Hid (Below w.heap.size w w4) := by rw [hd4]; exact below_drewN HB3.out _
      have HN4 : Hid (Own w4 9 (.slice va m vcap) (strs L)) := by rw [hd4]; exact HN2'.out
      clear hd4 HB3 HN2' HN3
      go_wp2
      go_loopg [10, 11, 53] m (fun q _ _ i wr => ∃ k : Nat, k ≤ m ∧ q + k = m ∧ i = .int .i64 k ∧ Below w.heap.size w wr ∧ Below w4.heap.size w4 wr)
      case atStart => exact ⟨0, Nat.zero_le _, rfl, rfl, HB4.out, Below.refl _ _⟩
      case round =>
        clear HB4
        obtain ⟨k, hk, hq, rfl, hb, hbb⟩ := hrel
        have HQ := Lib.hid hq
        have HB := Lib.hid hb
        have HBB := Lib.hid hbb
        clear hq hb hbb
        by_cases hlt : k < m
        · obtain ⟨g, rfl⟩ := HVA.out (by omega)
          have hkx : k < L.length := by rw [HM.out]; exact hlt
          have c1 := (HN4.out.kept HBB.out).cell k _ (strs_at L k hkx)
          have HGK := Lib.hid (HGC.out k hkx)
          have hki : (k : Int) < m := by omega
          cases k with
          | zero =>
            generalize txt (L.getD 0 []) = T at *
            go_wp2_with fail
            refine (HGK.out _).mono ?_
            rintro e y5 ⟨rfl, hbx⟩
            have HB5 := Lib.hid (HB.out.trans (hbx.mono HB.out.size))
            have HBB5 := Lib.hid (HBB.out.trans (hbx.mono HBB.out.size))
            clear hbx
            go_wp2
            go_roundg (m - 1)
            case measure => have := HQ.out; omega
            case rel => exact ⟨1, by omega, by have := HQ.out; omega, by go_num, HB5.out, HBB5.out⟩
          | succ j =>
            have hjx : j < L.length := by omega
            have HCJ : Hid (∀ W, Below w4.heap.size w4 W → W.cell? ⟨g, j, none⟩ = some (.string (txt (L.getD j [])))) := Lib.hid fun W hW => (HN4.out.kept hW).cell j _ (strs_at L j hjx)
            have hless : Op.bytesLess (txt (L.getD j [])).toList (txt (L.getD (j + 1) [])).toList = true := by
              rw [less_lets, lets_txt _ (HBY.out j hjx), lets_txt _ (HBY.out (j + 1) hkx)]
              exact HSORT.out j hkx
            generalize txt (L.getD (j + 1) []) = T at *
            generalize txt (L.getD j []) = U at *
            have hj1 : (0 : Int) < (j : Int) + 1 := by omega
            go_wp2_with fail
            refine (HGK.out _).mono ?_
            rintro e y5 ⟨rfl, hbx⟩
            have HB5 := Lib.hid (HB.out.trans (hbx.mono HB.out.size))
            have HBB5 := Lib.hid (HBB.out.trans (hbx.mono HBB.out.size))
            have c2 := HCJ.out y5 HBB5.out
            clear hbx c1
            go_wp2
            go_roundg (m - (j + 1 + 1))
            case measure => have := HQ.out; omega
            case rel => exact ⟨j + 1 + 1, by omega, by have := HQ.out; omega, by go_num, HB5.out, HBB5.out⟩
        · obtain rfl : k = m := by omega
          have hki : ¬ (k : Int) < k := by omega
          clear HVA HN4 HGC HBY HSORT HBB HQ
          go_wp2_with fail
          refine (HP1.out _).mono ?_
          rintro e y6 ⟨p1, rfl, hp1, hbx⟩
          have HB6 := Lib.hid (HB.out.trans (hbx.mono HB.out.size))
          obtain ⟨pa1, pc1, rfl, _⟩ := hp1.own.view
          rw [strs_len]
          clear hbx hp1 HB
          go_wp2_with fail
          refine (HP2.out _).mono ?_
          rintro e y7 ⟨p2, rfl, hp2, hbx⟩
          have HB7 := Lib.hid (HB6.out.trans (hbx.mono HB6.out.size))
          obtain ⟨pa2, pc2, rfl, _⟩ := hp2.own.view
          rw [strs_len]
          clear hbx hp2 HB6 HP1 HP2 HIA HSA
          by_cases h5 : 5 ≤ n
          · have e1 : stageB ((n : Int) - 1) = true := by simp [stageB]; omega
            have e2 : stageB ((n : Int) - 2) = true := by simp [stageB]; omega
            have e3 : chsAny ((n : Int) - 1) = chs (n - 1) := by
              rw [show ((n : Int) - 1) = ((n - 1 : Nat) : Int) by omega]
              exact chsAny_in _ (by omega) (by omega)
            have e4 : chsAny ((n : Int) - 2) = chs (n - 2) := by
              rw [show ((n : Int) - 2) = ((n - 2 : Nat) : Int) by omega]
              exact chsAny_in _ (by omega) (by omega)
            rw [e1, e2, e3, e4]
            have hcn := HCNT.out h5
            generalize (chs (n - 1)).length = x1 at *
            generalize (chs (n - 2)).length = x2 at *
            have hcn' : ((k : Int) != (x1 : Int) + x2 + 1) = false := by simp; omega
            have hx1 : (x1 : Int) ≤ 100 := by omega
            have hx2 : (x2 : Int) ≤ 100 := by omega
            clear e1 e2 e3 e4 HCNT h5
            go_wp2_with fail
            refine (DrawBetweenRows_any a2 l2 c2 z2 _ (HZ2.out.belowW HB7.out) HL2.out).mono ?_
            rintro e y40 ⟨sa, sb, hsa, hsb, rfl, hbx⟩
            have HX1 := Lib.hid (HB7.out.trans (hbx.mono HB7.out.size))
            clear hbx HB7
            have HIB := Lib.hid (iBetweenRows_any sa sb (mx10W hsa) (mx10W hsb))
            have HSB := Lib.hid (sBetweenRows_any sa sb (mx10W hsa) (mx10W hsb))
            cases hbw : betw sa sb with
            | none =>
              rw [hbw] at HIB HSB
              simp only [chEnd] at HIB HSB
              clear hbw
              go_wp2_with fail
              refine (HIB.out _).mono ?_
              rintro e y41 ⟨rfl, hbx⟩
              have HX2 := Lib.hid (HX1.out.trans (hbx.mono HX1.out.size))
              clear hbx HX1
              go_wp2_with fail
              refine (HSB.out _).mono ?_
              rintro e y42 ⟨rfl, hbx⟩
              have HX3 := Lib.hid (HX2.out.trans (hbx.mono HX2.out.size))
              clear hbx HX2
              go_wp2
              go_ret
              exact ⟨rfl, HX3.out⟩
            | some l =>
              rw [hbw] at HIB HSB
              simp only [chEnd] at HIB HSB
              obtain ⟨HAP, HBB⟩ := betw_back hsa hsb hbw
              generalize txt l = T at *
              have hTT : (T.toList == T.toList) = true := by simp
              have hss : (sb.toList == sb.toList) = true := by simp
              clear hbw
              go_wp2_with fail
              refine (HIB.out _).mono ?_
              rintro e y41 ⟨rfl, hbx⟩
              have HX2 := Lib.hid (HX1.out.trans (hbx.mono HX1.out.size))
              clear hbx HX1
              go_wp2_with fail
              refine (HSB.out _).mono ?_
              rintro e y42 ⟨rfl, hbx⟩
              have HX3 := Lib.hid (HX2.out.trans (hbx.mono HX2.out.size))
              clear hbx HX2
              go_wp2_with fail
              refine (HAP.out _).mono ?_
              rintro e y43 ⟨rfl, hbx⟩
              have HX4 := Lib.hid (HX3.out.trans (hbx.mono HX3.out.size))
              clear hbx HX3
              go_wp2_with fail
              refine (HBB.out _).mono ?_
              rintro e y44 ⟨rfl, hbx⟩
              have HX5 := Lib.hid (HX4.out.trans (hbx.mono HX4.out.size))
              clear hbx HX4
              go_wp2
              go_ret
              exact ⟨rfl, HX5.out⟩
          · have e2 : stageB ((n : Int) - 2) = false := by simp [stageB]; omega
            rw [e2]
            generalize stageB ((n : Int) - 1) = b1 at *
            generalize (chsAny ((n : Int) - 1)).length = x1 at *
            generalize (chsAny ((n : Int) - 2)).length = x2 at *
            clear e2 HCNT h5
            cases b1
            · go_wp2_with fail
              refine (DrawBetweenRows_any a2 l2 c2 z2 _ (HZ2.out.belowW HB7.out) HL2.out).mono ?_
              rintro e y40 ⟨sa, sb, hsa, hsb, rfl, hbx⟩
              have HX1 := Lib.hid (HB7.out.trans (hbx.mono HB7.out.size))
              clear hbx HB7
              have HIB := Lib.hid (iBetweenRows_any sa sb (mx10W hsa) (mx10W hsb))
              have HSB := Lib.hid (sBetweenRows_any sa sb (mx10W hsa) (mx10W hsb))
              cases hbw : betw sa sb with
              | none =>
                rw [hbw] at HIB HSB
                simp only [chEnd] at HIB HSB
                clear hbw
                go_wp2_with fail
                refine (HIB.out _).mono ?_
                rintro e y41 ⟨rfl, hbx⟩
                have HX2 := Lib.hid (HX1.out.trans (hbx.mono HX1.out.size))
                clear hbx HX1
                go_wp2_with fail
                refine (HSB.out _).mono ?_
                rintro e y42 ⟨rfl, hbx⟩
                have HX3 := Lib.hid (HX2.out.trans (hbx.mono HX2.out.size))
                clear hbx HX2
                go_wp2
                go_ret
                exact ⟨rfl, HX3.out⟩
              | some l =>
                rw [hbw] at HIB HSB
                simp only [chEnd] at HIB HSB
                obtain ⟨HAP, HBB⟩ := betw_back hsa hsb hbw
                generalize txt l = T at *
                have hTT : (T.toList == T.toList) = true := by simp
                have hss : (sb.toList == sb.toList) = true := by simp
                clear hbw
                go_wp2_with fail
                refine (HIB.out _).mono ?_
                rintro e y41 ⟨rfl, hbx⟩
                have HX2 := Lib.hid (HX1.out.trans (hbx.mono HX1.out.size))
                clear hbx HX1
                go_wp2_with fail
                refine (HSB.out _).mono ?_
                rintro e y42 ⟨rfl, hbx⟩
                have HX3 := Lib.hid (HX2.out.trans (hbx.mono HX2.out.size))
                clear hbx HX2
                go_wp2_with fail
                refine (HAP.out _).mono ?_
                rintro e y43 ⟨rfl, hbx⟩
                have HX4 := Lib.hid (HX3.out.trans (hbx.mono HX3.out.size))
                clear hbx HX3
                go_wp2_with fail
                refine (HBB.out _).mono ?_
                rintro e y44 ⟨rfl, hbx⟩
                have HX5 := Lib.hid (HX4.out.trans (hbx.mono HX4.out.size))
                clear hbx HX4
                go_wp2
                go_ret
                exact ⟨rfl, HX5.out⟩
            · go_wp2_with fail
              refine (DrawBetweenRows_any a2 l2 c2 z2 _ (HZ2.out.belowW HB7.out) HL2.out).mono ?_
              rintro e y40 ⟨sa, sb, hsa, hsb, rfl, hbx⟩
              have HX1 := Lib.hid (HB7.out.trans (hbx.mono HB7.out.size))
              clear hbx HB7
              have HIB := Lib.hid (iBetweenRows_any sa sb (mx10W hsa) (mx10W hsb))
              have HSB := Lib.hid (sBetweenRows_any sa sb (mx10W hsa) (mx10W hsb))
              cases hbw : betw sa sb with
              | none =>
                rw [hbw] at HIB HSB
                simp only [chEnd] at HIB HSB
                clear hbw
                go_wp2_with fail
                refine (HIB.out _).mono ?_
                rintro e y41 ⟨rfl, hbx⟩
                have HX2 := Lib.hid (HX1.out.trans (hbx.mono HX1.out.size))
                clear hbx HX1
                go_wp2_with fail
                refine (HSB.out _).mono ?_
                rintro e y42 ⟨rfl, hbx⟩
                have HX3 := Lib.hid (HX2.out.trans (hbx.mono HX2.out.size))
                clear hbx HX2
                go_wp2
                go_ret
                exact ⟨rfl, HX3.out⟩
              | some l =>
                rw [hbw] at HIB HSB
                simp only [chEnd] at HIB HSB
                obtain ⟨HAP, HBB⟩ := betw_back hsa hsb hbw
                generalize txt l = T at *
                have hTT : (T.toList == T.toList) = true := by simp
                have hss : (sb.toList == sb.toList) = true := by simp
                clear hbw
                go_wp2_with fail
                refine (HIB.out _).mono ?_
                rintro e y41 ⟨rfl, hbx⟩
                have HX2 := Lib.hid (HX1.out.trans (hbx.mono HX1.out.size))
                clear hbx HX1
                go_wp2_with fail
                refine (HSB.out _).mono ?_
                rintro e y42 ⟨rfl, hbx⟩
                have HX3 := Lib.hid (HX2.out.trans (hbx.mono HX2.out.size))
                clear hbx HX2
                go_wp2_with fail
                refine (HAP.out _).mono ?_
                rintro e y43 ⟨rfl, hbx⟩
                have HX4 := Lib.hid (HX3.out.trans (hbx.mono HX3.out.size))
                clear hbx HX3
                go_wp2_with fail
                refine (HBB.out _).mono ?_
                rintro e y44 ⟨rfl, hbx⟩
                have HX5 := Lib.hid (HX4.out.trans (hbx.mono HX4.out.size))
                clear hbx HX4
                go_wp2
                go_ret
                exact ⟨rfl, HX5.out⟩
end Go.Proofs.Ytnildepdpkbekaa
