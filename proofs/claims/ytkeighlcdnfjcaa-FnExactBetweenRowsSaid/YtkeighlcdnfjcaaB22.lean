/- BetweenRows in the model, and the law on it. -/
import Derived.Test.YtkeighlcdnfjcaaB21
namespace Go.Proofs.Ytkeighlcdnfjcaa
open Go.RowKit

theorem app_rows {n : Nat} {f : Nat → Nat} (hf : IsRow n f) {c : List Nat} (h3 : 3 ≤ n) (h8 : n ≤ 8) (hc : c ∈ chs n) : appF (strOf n f) (txt c) = strOf n (mulR n f (cf n c)) := by
  unfold appF
  rw [strOf_size, dg_strOf hf, lets_ch h3 h8 hc, strOf_mul]
theorem betw_none {n : Nat} {f g : Nat → Nat} (hf : IsRow n f) (hg : IsRow n g) (h : ∀ c ∈ chs n, mulR n f (cf n c) ≠ g) : chText n (quoR n f g) = none := by
  cases hc : chText n (quoR n f g) with
  | none => rfl
  | some l =>
    obtain ⟨h1, h2⟩ := chText_some (isRow_quo hf hg) hc
    exact absurd (by rw [h2]; exact mul_quo hf hg) (h l (mem_chs h1))
theorem betw_some {n : Nat} {f g : Nat → Nat} (hf : IsRow n f) {c : List Nat} (h3 : 3 ≤ n) (h8 : n ≤ 8) (hc : c ∈ chs n) (h : mulR n f (cf n c) = g) : chText n (quoR n f g) = some c := by
  have hg := (chs_small n h3 h8 c hc).1
  rw [← h, quo_mul hf (isRow_cf hg)]
  exact chText_back hg

set_option maxRecDepth 100000 in
set_option maxHeartbeats 1000000 in
theorem sBetweenRows_yes (n : Nat) (f g : Nat → Nat) (hf : IsRow n f) (hg : IsRow n g) (w : World) :
    Calls Try.prog 33 #[.string (strOf n f), .string (strOf n g)] w fun e w' => e = .returned (chEnd (chText n (quoR n f g))) ∧ Below w.heap.size w w' := by
  have h8 := hf.eight
  have h3 := hf.three
  have hsf := strOf_size n f
  have hsg := strOf_size n g
  have htwo : (goodB (strOf n f) && goodB (strOf n g) && decide ((strOf n f).size = (strOf n g).size)) = true := by simp [goodB_strOf hf, goodB_strOf hg, hsf, hsg]
  have HTWO := Lib.hid htwo
  have HF := Lib.hid hf
  have HG := Lib.hid hg
  have HNONE := Lib.hid (betw_none hf hg)
  have HSOME := Lib.hid (fun c (hc : c ∈ chs n) (h : mulR n f (cf n c) = g) => betw_some (c := c) hf h3 h8 hc h)
  have hmx := mx_row f h8
  have hmy := mx_row g h8
  have hcl := (chs_len n h3 h8).1
  have HALL := Lib.hid (l2All_any n h3 h8)
  have HIN := Lib.hid (fun c (hc : c ∈ chs n) => (chs_small n h3 h8 c hc).1)
  have HLT := Lib.hid (fun c (hc : c ∈ chs n) => lets_ch h3 h8 hc)
  have HAP := Lib.hid (fun c (hc : c ∈ chs n) => app_rows hf h3 h8 hc)
  have HSZ := Lib.hid (fun c (hc : c ∈ chs n) => (show (txt c).size ≤ maxLen by
    have hg := (chs_small n h3 h8 c hc).1
    have : c.length ≤ n - 2 := by simp [goodL] at hg; omega
    rw [txt_size]; unfold maxLen; omega))
  generalize hr : chText n (quoR n f g) = r at *
  generalize chs n = L at *
  obtain ⟨m, hm⟩ : ∃ m, L.length = m := ⟨_, rfl⟩
  rw [hm] at hcl
  have HM := Lib.hid hm
  have hm' : (m : Int) ≤ 100 := by omega
  clear hf hg htwo hm hr
  go_enter Try.func33, Try.ntmps33
  go_wp2_with fail
  refine (l1Two_any _ _ hmx hmy _).mono ?_
  rintro e w1 ⟨rfl, hb1⟩
  rw [HTWO.out]
  go_wp2_with fail
  refine (HALL.out _).mono ?_
  rintro e w2 ⟨v, rfl, hn2, hb2⟩
  obtain ⟨a, cap, rfl, ha⟩ := hn2.own.view
  rw [strs_len, HM.out] at hn2 ha ⊢
  have HV := Lib.hid hn2.own
  have HA := Lib.hid ha
  have HB2 := Lib.hid (hb1.trans (hb2.mono hb1.size))
  clear hn2 ha hb1 hb2
  go_wp2
  go_loopg [7, 16] m (fun q _ i wr => ∃ j : Nat, j ≤ m ∧ q + j = m ∧ i = .int .i64 j ∧ (∀ k, k < j → ∀ (hk : k < L.length), mulR n f (cf n L[k]) ≠ g) ∧ Below w.heap.size w wr ∧ Below w2.heap.size w2 wr)
  case atStart => exact ⟨0, Nat.zero_le _, rfl, rfl, fun k hk => absurd hk (Nat.not_lt_zero _), HB2.out, Below.refl _ _⟩
  case round =>
    clear HB2
    obtain ⟨j, hj, hq, rfl, hno, hb, hb2⟩ := hrel
    have HQ := Lib.hid hq
    have HNO := Lib.hid hno
    have HB := Lib.hid hb
    have HBB := Lib.hid hb2
    clear hq hno hb hb2
    by_cases hlt : j < m
    · obtain ⟨g0, rfl⟩ := HA.out (by omega)
      have hjl : j < L.length := by rw [HM.out]; exact hlt
      have hmem := List.getElem_mem hjl
      have c1 := (HV.out.kept HBB.out).cell j (.string (txt L[j])) (by simp [strs, hjl])
      have hji : (j : Int) < m := by omega
      have hgl := HIN.out _ hmem
      have hrowc := isRow_mul HF.out (isRow_cf hgl)
      have HAPC := Lib.hid (l2Apply_any (strOf n f) (txt L[j]) (HSZ.out _ hmem) (goodB_strOf HF.out) (by rw [hsf, HLT.out _ hmem]; exact hgl))
      rw [HAP.out _ hmem] at HAPC
      have HHIT := Lib.hid (HSOME.out _ hmem)
      have HSTEP := Lib.hid (show mulR n f (cf n L[j]) ≠ g → ∀ k, k < j + 1 → ∀ (hk : k < L.length), mulR n f (cf n L[k]) ≠ g from fun hne k hk hkl => by
        by_cases e : k = j
        · subst e; exact hne
        · exact HNO.out k (by omega) hkl)
      generalize L[j] = c at *
      clear hmem hgl
      by_cases heq : mulR n f (cf n c) = g
      · have hsame := str_same (n := n) heq
        have hres := HHIT.out heq
        have HRES := Lib.hid hres
        clear hres heq
        go_wp2_with fail
        refine (HAPC.out _).mono ?_
        rintro e w3 ⟨rfl, hb3⟩
        have HB3 := Lib.hid (HB.out.trans (hb3.mono HB.out.size))
        clear hb3
        go_wp2
        go_ret2
        exact ⟨by rw [HRES.out]; rfl, HB3.out⟩
      · have hother := str_other hrowc HG.out heq
        have HNEXT := Lib.hid (HSTEP.out heq)
        clear heq
        go_wp2_with fail
        refine (HAPC.out _).mono ?_
        rintro e w3 ⟨rfl, hb3⟩
        have HB3 := Lib.hid (HB.out.trans (hb3.mono HB.out.size))
        have HBB3 := Lib.hid (HBB.out.trans (hb3.mono HBB.out.size))
        clear hb3
        go_wp2
        go_roundg (m - (j + 1))
        case measure => have := HQ.out; omega
        case rel => exact ⟨j + 1, by omega, by have := HQ.out; omega, by go_num, HNEXT.out, HB3.out, HBB3.out⟩
    · obtain rfl : j = m := by omega
      have hji : ¬ (j : Int) < j := by omega
      have hres := HNONE.out (fun c hc => by
        obtain ⟨k, hk, rfl⟩ := List.getElem_of_mem hc
        exact HNO.out k (by rw [← HM.out]; exact hk) hk)
      have HRES := Lib.hid hres
      clear hres
      go_wp2
      go_ret2
      exact ⟨by rw [HRES.out]; rfl, HB.out⟩

set_option maxRecDepth 100000 in
set_option maxHeartbeats 1000000 in
theorem sBetweenRows_no (a b : ByteArray) (ha : a.size ≤ maxLen) (hb : b.size ≤ maxLen) (h : twoB a b = false) (w : World) :
    Calls Try.prog 33 #[.string a, .string b] w fun e w' => e = .returned (.tuple #[.string ⟨#[]⟩, .bool false]) ∧ Below w.heap.size w w' := by
  have H := Lib.hid (show (goodB a && goodB b && decide (a.size = b.size)) = false from h)
  clear h
  go_enter Try.func33, Try.ntmps33
  go_wp2_with fail
  refine (l1Two_any a b ha hb _).mono ?_
  rintro e w1 ⟨rfl, hb1⟩
  rw [H.out]
  go_wp2
  go_ret2
  exact ⟨rfl, hb1⟩

theorem betw_off {a b : ByteArray} (h : twoB a b = false) : betw a b = none := by
  unfold betw
  rw [if_neg (by rw [h]; simp)]
/-- both in one -/
theorem iBetweenRows_any (a b : ByteArray) (ha : a.size ≤ maxLen) (hb : b.size ≤ maxLen) (w : World) :
    Calls Try.prog 17 #[.string a, .string b] w fun e w' => e = .returned (chEnd (betw a b)) ∧ Below w.heap.size w w' := by
  cases h : twoB a b
  · rw [betw_off h]; exact iBetweenRows_no a b ha hb h w
  · obtain ⟨n, f, g, hf, hg, rfl, rfl⟩ := two_rows h
    rw [betw_rows hf hg]
    exact iBetweenRows_yes n f g hf hg w
theorem sBetweenRows_any (a b : ByteArray) (ha : a.size ≤ maxLen) (hb : b.size ≤ maxLen) (w : World) :
    Calls Try.prog 33 #[.string a, .string b] w fun e w' => e = .returned (chEnd (betw a b)) ∧ Below w.heap.size w w' := by
  cases h : twoB a b
  · rw [betw_off h]; exact sBetweenRows_no a b ha hb h w
  · obtain ⟨n, f, g, hf, hg, rfl, rfl⟩ := two_rows h
    rw [betw_rows hf hg]
    exact sBetweenRows_yes n f g hf hg w

set_option maxRecDepth 100000 in
set_option maxHeartbeats 1000000 in
theorem lawBetweenRows (s t : ByteArray) (w : World) (hs : s.size ≤ maxLen) (ht : t.size ≤ maxLen) :
    Calls Try.prog 9 #[.string s, .string t] w fun e w' => e = .returned (.bool true) ∧ Below w.heap.size w w' := by
  by_cases hbig : 1048576 < s.size
  · have hbig' : (1048576 : Int) < s.size := by omega
    go_enter Try.func9, Try.ntmps9
    go_wp2
    go_ret
    exact ⟨rfl, Below.refl _ _⟩
  · have hbig' : (s.size : Int) ≤ 1048576 := by omega
    by_cases hbig2 : 1048576 < t.size
    · have hbig2' : (1048576 : Int) < t.size := by omega
      go_enter Try.func9, Try.ntmps9
      go_wp2
      go_ret
      exact ⟨rfl, Below.refl _ _⟩
    · have hbig2' : (t.size : Int) ≤ 1048576 := by omega
      have HS := Lib.hid (sBetweenRows_any s t hs ht)
      have HI := Lib.hid (iBetweenRows_any s t hs ht)
      generalize betw s t = r at HS HI
      cases r with
      | none =>
        go_enter Try.func9, Try.ntmps9
        go_wp2_with fail
        refine (HS.out _).mono ?_
        rintro e w1 ⟨rfl, hb1⟩
        unfold chEnd
        go_wp2_with fail
        refine (HI.out _).mono ?_
        rintro e w2 ⟨rfl, hb2⟩
        unfold chEnd
        go_wp2
        go_ret
        exact ⟨rfl, hb1.trans (hb2.mono hb1.size)⟩
      | some l =>
        generalize hT : txt l = T
        have HT := Lib.hid hT
        have hself : (T.toList == T.toList) = true := by simp
        clear hT
        go_enter Try.func9, Try.ntmps9
        go_wp2_with fail
        refine (HS.out _).mono ?_
        rintro e w1 ⟨rfl, hb1⟩
        unfold chEnd
        simp only [HT.out]
        go_wp2_with fail
        refine (HI.out _).mono ?_
        rintro e w2 ⟨rfl, hb2⟩
        unfold chEnd
        simp only [HT.out]
        go_wp2
        go_ret
        exact ⟨rfl, hb1.trans (hb2.mono hb1.size)⟩
end Go.Proofs.Ytkeighlcdnfjcaa
