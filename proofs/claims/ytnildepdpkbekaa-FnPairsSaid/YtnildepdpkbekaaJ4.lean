/- The law on pairs. -/
import Derived.Test.YtnildepdpkbekaaJ1
import Derived.Test.YtnildepdpkbekaaK5
namespace Go.Proofs.Ytnildepdpkbekaa

/-- what the law asks of the places and the swaps of a change -/
def pairOk (n : Nat) (l : List Nat) : Bool :=
  decide ((placesOf n l).length + 2 * (swapsOf n l).length = n) && decide ((swapsOf n l).length ≠ 0) &&
  (placesOf n l).all (fun p => decide (1 ≤ p ∧ p ≤ n ∧ cf n l (p - 1) = 48 + p)) &&
  (swapsOf n l).all (fun p => decide (1 ≤ p ∧ p < n ∧ cf n l (p - 1) = 49 + p ∧ cf n l p = 48 + p)) &&
  (List.range n).all (fun i => decide (cf n l (cf n l i - 49) = 49 + i))
structure Pairs (n : Nat) (l : List Nat) : Prop where
  sum : (placesOf n l).length + 2 * (swapsOf n l).length = n
  some : (swapsOf n l).length ≠ 0
  place : ∀ p ∈ placesOf n l, 1 ≤ p ∧ p ≤ n ∧ cf n l (p - 1) = 48 + p
  swap : ∀ p ∈ swapsOf n l, 1 ≤ p ∧ p < n ∧ cf n l (p - 1) = 49 + p ∧ cf n l p = 48 + p
  twice : mulR n (cf n l) (cf n l) = rdf n
theorem pairs_of {n : Nat} {l : List Nat} (h : goodL n l = true) : Pairs n l := by
  have h3 := goodL_three h
  have h8 := goodL_eight h
  have hk : ∀ n, n < 9 → 3 ≤ n → ∀ l ∈ chs n, pairOk n l = true := by decide +kernel
  have := hk n (by omega) h3 l (mem_chs h)
  simp only [pairOk, Bool.and_eq_true, decide_eq_true_eq, List.all_eq_true, List.mem_range] at this
  obtain ⟨⟨⟨⟨a1, a2⟩, a3⟩, a4⟩, a5⟩ := this
  have hr := isRow_cf h
  exact ⟨a1, a2, a3, a4, row_ext (isRow_mul hr hr) (isRow_rdf h3 h8) fun i hi => by
    rw [mulR_at _ _ hi, a5 i hi]; simp [rdf, hi]⟩
theorem ord_two {n : Nat} {l : List Nat} (h : goodL n l = true) : IsOrd n (cf n l) 2 := by
  have h3 := goodL_three h
  have h8 := goodL_eight h
  have hr := isRow_cf h
  have h1 : powR n (cf n l) 1 = cf n l := by
    show mulR n (rdf n) (cf n l) = cf n l
    exact rounds_mul hr
  refine ⟨by omega, by omega, ?_, fun j hj1 hj2 => ?_⟩
  · show mulR n (powR n (cf n l) 1) (cf n l) = rdf n
    rw [h1]; exact (pairs_of h).twice
  · obtain rfl : j = 1 := by omega
    rw [h1]
    obtain ⟨_, _, _, i, hi, hne⟩ := chs_small n h3 h8 l (mem_chs h)
    exact fun e => hne (by rw [e])
theorem mir_good {n : Nat} {l : List Nat} (h : goodL n l = true) : goodL n (mirL n l) = true ∧ mirL n (mirL n l) = l := by
  have := mirrors n (goodL_three h) (goodL_eight h) l (mem_chs h)
  simp only [mirOk, Bool.and_eq_true, beq_iff_eq] at this
  exact ⟨this.1.1.1.1.2, this.1.1.1.2⟩
end Go.Proofs.Ytnildepdpkbekaa
namespace Go.Proofs.Ytnildepdpkbekaa
open Go.RowKit

theorem app_of {n : Nat} {f : Nat → Nat} (hf : IsRow n f) (s : ByteArray) : appF (strOf n f) s = strOf n (mulR n f (cf n (lets s))) := by
  unfold appF
  rw [strOf_size, dg_strOf hf, strOf_mul]
theorem lets_mir {n : Nat} {l : List Nat} (h : goodL n l = true) : lets (txt (mirL n l)) = mirL n l := by
  have hg := (mir_good h).1
  exact lets_ch (goodL_three h) (goodL_eight h) (mem_chs hg)
/-- the row of a change, the mirrored change, for whatever arguments -/
def crS (n : Int) (s : ByteArray) : ByteArray := if goodC n s = true then strOf n.toNat (cf n.toNat (lets s)) else ⟨#[]⟩
def miS (n : Int) (s : ByteArray) : ByteArray := if goodC n s = true then txt (mirL n.toNat (lets s)) else ⟨#[]⟩
theorem iChangeRow_any (n : Int) (s : ByteArray) (w : World) :
    Calls Try.prog 28 #[.int .i64 n, .string s] w fun e w' => e = .returned (.tuple #[.string (crS n s), .bool (goodC n s)]) ∧ Below w.heap.size w w' := by
  unfold crS
  cases h : goodC n s
  · exact iChangeRow_no n s h w
  · obtain ⟨m, rfl, hg⟩ := goodC_stage h
    exact iChangeRow_yes m s hg w
theorem sChangeRow_any (n : Int) (s : ByteArray) (hs : s.size ≤ maxLen) (w : World) :
    Calls Try.prog 29 #[.int .i64 n, .string s] w fun e w' => e = .returned (.tuple #[.string (crS n s), .bool (goodC n s)]) ∧ Below w.heap.size w w' := by
  unfold crS
  cases h : goodC n s
  · exact (sChangeRow_no n s hs h w).mono fun e w' ⟨h1, h2⟩ => ⟨h1, h2 ▸ Below.refl _ _⟩
  · obtain ⟨m, rfl, hg⟩ := goodC_stage h
    exact sChangeRow_yes m s hs hg w
theorem iMirrorChange_any (n : Int) (s : ByteArray) (w : World) :
    Calls Try.prog 30 #[.int .i64 n, .string s] w fun e w' => e = .returned (.tuple #[.string (miS n s), .bool (goodC n s)]) ∧ Below w.heap.size w w' := by
  unfold miS
  cases h : goodC n s
  · exact iMirrorChange_no n s h w
  · obtain ⟨m, rfl, hg⟩ := goodC_stage h
    exact iMirrorChange_yes m s hg w
theorem sMirrorChange_any (n : Int) (s : ByteArray) (hs : s.size ≤ maxLen) (w : World) :
    Calls Try.prog 31 #[.int .i64 n, .string s] w fun e w' => e = .returned (.tuple #[.string (miS n s), .bool (goodC n s)]) ∧ Below w.heap.size w w' := by
  unfold miS
  cases h : goodC n s
  · exact (sMirrorChange_no n s hs h w).mono fun e w' ⟨h1, h2⟩ => ⟨h1, h2 ▸ Below.refl _ _⟩
  · obtain ⟨m, rfl, hg⟩ := goodC_stage h
    exact sMirrorChange_yes m s hs hg w
theorem crS_yes {n : Nat} {s : ByteArray} (h : goodL n (lets s) = true) : crS n s = strOf n (cf n (lets s)) := by
  unfold crS
  rw [if_pos (by rw [goodC_in]; exact h)]
  rfl
theorem miS_yes {n : Nat} {s : ByteArray} (h : goodL n (lets s) = true) : miS n s = txt (mirL n (lets s)) := by
  unfold miS
  rw [if_pos (by rw [goodC_in]; exact h)]
  rfl
end Go.Proofs.Ytnildepdpkbekaa
namespace Go.Proofs.Ytnildepdpkbekaa
open Go.RowKit

set_option maxRecDepth 100000 in
set_option maxHeartbeats 4000000 in
theorem lawPairs (a1 : Option Addr) (l1 c1 : Nat) (z1 : List Int) (a2 : Option Addr) (l2 c2 : Nat) (z2 : List Int) (w : World) (hz1 : IsBytes w a1 l1 c1 z1) (hz2 : IsBytes w a2 l2 c2 z2) :
    Calls Try.prog 6 #[.slice a1 l1 c1, .slice a2 l2 c2] w fun e w' => e = .returned (.bool true) ∧ Below w.heap.size w w' := by
  have HZ1 := Lib.hid hz1
  have HZ2 := Lib.hid hz2
  clear hz1 hz2
  go_enter Try.func6, Try.ntmps6
  go_wp2_with fail
  refine (big_any a1 a2 l1 l2 c1 c2 HZ1.out.lenW HZ2.out.lenW _).mono ?_
  rintro e w0 ⟨rfl, rfl⟩
  by_cases hbig : 1048576 < l1 + l2
  · rw [decide_eq_true hbig]
    go_wp2
    go_ret
    exact ⟨rfl, Below.refl _ _⟩
  · rw [decide_eq_false hbig]
    have HL1 := Lib.hid (show l1 ≤ 1048576 by omega)
    have HL2 := Lib.hid (show l2 ≤ 1048576 by omega)
    clear hbig
    go_wp2_with fail
    refine (DrawApply_any a1 l1 c1 z1 _ HZ1.out HL1.out).mono ?_
    rintro e w1 ⟨r, s, hr, hs, rfl, hb1⟩
    have HB1 := Lib.hid hb1
    clear hb1
    cases hok : (goodB r && goodC r.size s)
    · have HIA := Lib.hid (iApply_no r s (mx10W hr) hok)
      have HSA := Lib.hid (sApply_no r s (mx10W hr) (mx10W hs) hok)
      clear hok
      go_wp2_with fail
      refine (HIA.out _).mono ?_
      rintro e y21 ⟨rfl, hbx⟩
      have HB2 := Lib.hid (HB1.out.trans (hbx.mono HB1.out.size))
      clear hbx HB1
      go_wp2_with fail
      refine (HSA.out _).mono ?_
      rintro e y22 ⟨rfl, hbx⟩
      have HB3 := Lib.hid (HB2.out.trans (hbx.mono HB2.out.size))
      clear hbx HB2
      go_wp2_with fail
      refine (DrawGoodChange_any a2 l2 c2 z2 _ (HZ2.out.belowW HB3.out) HL2.out).mono ?_
      rintro e y1 ⟨dn, d, hd, rfl, hbx⟩
      have HX1 := Lib.hid (HB3.out.trans (hbx.mono HB3.out.size))
      clear hbx HB3
      have HCI := Lib.hid (iChangeRow_any dn d)
      have HCS := Lib.hid (sChangeRow_any dn d (mx10W hd))
      have HMI := Lib.hid (iMirrorChange_any dn d)
      have HMS := Lib.hid (sMirrorChange_any dn d (mx10W hd))
      have HGI := Lib.hid (iGoodChange_any dn d)
      have HGS := Lib.hid (sGoodChange_any dn d (mx10W hd))
      cases hgd : goodC dn d
      · rw [hgd] at HCI HCS HMI HMS HGI HGS
        generalize crS dn d = T1 at *
        generalize miS dn d = T2 at *
        have hT1 : (T1.toList == T1.toList) = true := by simp
        have hT2 : (T2.toList == T2.toList) = true := by simp
        have hdd : (d.toList == d.toList) = true := by simp
        clear hgd
        go_wp2_with fail
        refine (HCI.out _).mono ?_
        rintro e y2 ⟨rfl, hbx⟩
        have HX2 := Lib.hid (HX1.out.trans (hbx.mono HX1.out.size))
        clear hbx HX1
        go_wp2_with fail
        refine (HCS.out _).mono ?_
        rintro e y3 ⟨rfl, hbx⟩
        have HX3 := Lib.hid (HX2.out.trans (hbx.mono HX2.out.size))
        clear hbx HX2
        go_wp2_with fail
        refine (HMI.out _).mono ?_
        rintro e y4 ⟨rfl, hbx⟩
        have HX4 := Lib.hid (HX3.out.trans (hbx.mono HX3.out.size))
        clear hbx HX3
        go_wp2_with fail
        refine (HMS.out _).mono ?_
        rintro e y5 ⟨rfl, hbx⟩
        have HX5 := Lib.hid (HX4.out.trans (hbx.mono HX4.out.size))
        clear hbx HX4
        go_wp2_with fail
        refine (HGI.out _).mono ?_
        rintro e y6 ⟨rfl, hbx⟩
        have HX6 := Lib.hid (HX5.out.trans (hbx.mono HX5.out.size))
        clear hbx HX5
        go_wp2_with fail
        refine (HGS.out _).mono ?_
        rintro e y7 ⟨rfl, rfl⟩
        go_wp2
        go_ret
        exact ⟨rfl, HX6.out⟩
      · obtain ⟨dm, rfl, hgl⟩ := goodC_stage hgd
        rw [hgd] at HCI HCS HMI HMS HGI HGS
        have HMM := Lib.hid (iMirrorChange_any dm (txt (mirL dm (lets d))))
        have HGM := Lib.hid (iGoodChange_any dm (txt (mirL dm (lets d))))
        rw [goodC_in, lets_mir hgl, (mir_good hgl).1, miS_yes (by rw [lets_mir hgl]; exact (mir_good hgl).1), lets_mir hgl, (mir_good hgl).2, txt_lets] at HMM
        rw [goodC_in, lets_mir hgl, (mir_good hgl).1] at HGM
        have HOR := Lib.hid (iOrderOf_yes dm _ (isRow_cf hgl) 2 (ord_two hgl))
        rw [crS_yes hgl] at HCI HCS
        rw [miS_yes hgl] at HMI HMS
        generalize strOf dm (cf dm (lets d)) = T1 at *
        generalize txt (mirL dm (lets d)) = T2 at *
        clear hgl
        have hT1 : (T1.toList == T1.toList) = true := by simp
        have hT2 : (T2.toList == T2.toList) = true := by simp
        have hdd : (d.toList == d.toList) = true := by simp
        clear hgd
        go_wp2_with fail
        refine (HCI.out _).mono ?_
        rintro e y2 ⟨rfl, hbx⟩
        have HX2 := Lib.hid (HX1.out.trans (hbx.mono HX1.out.size))
        clear hbx HX1
        go_wp2_with fail
        refine (HCS.out _).mono ?_
        rintro e y3 ⟨rfl, hbx⟩
        have HX3 := Lib.hid (HX2.out.trans (hbx.mono HX2.out.size))
        clear hbx HX2
        go_wp2_with fail
        refine (HMI.out _).mono ?_
        rintro e y4 ⟨rfl, hbx⟩
        have HX4 := Lib.hid (HX3.out.trans (hbx.mono HX3.out.size))
        clear hbx HX3
        go_wp2_with fail
        refine (HMS.out _).mono ?_
        rintro e y5 ⟨rfl, hbx⟩
        have HX5 := Lib.hid (HX4.out.trans (hbx.mono HX4.out.size))
        clear hbx HX4
        go_wp2_with fail
        refine (HGI.out _).mono ?_
        rintro e y6 ⟨rfl, hbx⟩
        have HX6 := Lib.hid (HX5.out.trans (hbx.mono HX5.out.size))
        clear hbx HX5
        go_wp2_with fail
        refine (HGS.out _).mono ?_
        rintro e y7 ⟨rfl, rfl⟩
        go_wp2_with fail
        refine (HMM.out _).mono ?_
        rintro e y8 ⟨rfl, hbx⟩
        have HX8 := Lib.hid (HX6.out.trans (hbx.mono HX6.out.size))
        clear hbx HX6
        go_wp2_with fail
        refine (HOR.out _).mono ?_
        rintro e y9 ⟨rfl, hbx⟩
        have HX9 := Lib.hid (HX8.out.trans (hbx.mono HX8.out.size))
        clear hbx HX8
        go_wp2_with fail
        refine (HGM.out _).mono ?_
        rintro e y10 ⟨rfl, hbx⟩
        have HX10 := Lib.hid (HX9.out.trans (hbx.mono HX9.out.size))
        clear hbx HX9
        go_wp2
        go_ret
        exact ⟨rfl, HX10.out⟩
    · rw [Bool.and_eq_true, goodC_in] at hok
      obtain ⟨hgr, hgl⟩ := hok
      obtain ⟨n, f, hf, rfl⟩ := str_of_good hgr
      have hsz := strOf_size n f
      rw [hsz] at hgl
      have HIA := Lib.hid (iApply_yes (strOf n f) s (mx10W hr) hgr (by rw [hsz]; exact hgl))
      have HSA := Lib.hid (sApply_yes (strOf n f) s (mx10W hr) (mx10W hs) hgr (by rw [hsz]; exact hgl))
      rw [app_of hf s] at HIA HSA
      have hx := isRow_mul hf (isRow_cf hgl)
      have hP := pairs_of hgl
      have hback : mulR n (mulR n f (cf n (lets s))) (cf n (lets s)) = f := by rw [mulR_assoc hf (isRow_cf hgl) (isRow_cf hgl), hP.twice, mul_rounds hf]
      have hszx := strOf_size n (mulR n f (cf n (lets s)))
      have HIB := Lib.hid (iApply_yes (strOf n (mulR n f (cf n (lets s)))) s (mx_row _ hf.eight) (goodB_strOf hx) (by rw [hszx]; exact hgl))
      rw [app_of hx s, hback] at HIB
      have HBR := Lib.hid (iBetweenRows_yes n f (mulR n f (cf n (lets s))) hf hx)
      rw [quo_mul hf (isRow_cf hgl), chText_back hgl] at HBR
      simp only [chEnd, txt_lets] at HBR
      have HPL := Lib.hid (iPlacesOf_yes n s hgl)
      have HSW := Lib.hid (iSwapsOf_yes n s hgl)
      have hat1 : ∀ i, i < n → mulR n f (cf n (lets s)) i = f (cf n (lets s) i - 49) := fun i hi => mulR_at _ _ hi
      have hpl : ∀ p ∈ placesOf n (lets s), 1 ≤ p ∧ p ≤ n ∧ mulR n f (cf n (lets s)) (p - 1) = f (p - 1) := fun p hp => by
        obtain ⟨h1, h2, h3⟩ := hP.place p hp
        exact ⟨h1, h2, by rw [hat1 (p - 1) (by omega), h3, show 48 + p - 49 = p - 1 by omega]⟩
      have hsw : ∀ p ∈ swapsOf n (lets s), 1 ≤ p ∧ p < n ∧ mulR n f (cf n (lets s)) (p - 1) = f p ∧ mulR n f (cf n (lets s)) p = f (p - 1) := fun p hp => by
        obtain ⟨h1, h2, h3, h4⟩ := hP.swap p hp
        exact ⟨h1, h2, by rw [hat1 (p - 1) (by omega), h3, show 49 + p - 49 = p by omega], by rw [hat1 p (by omega), h4, show 48 + p - 49 = p - 1 by omega]⟩
      have hsum := hP.sum
      have hsome := hP.some
      have h8 := hf.eight
      have h3 := hf.three
      have hbx1 : ∀ i, f i < 256 := hf.byte
      have hgx : ∀ k (h : k < (strOf n (mulR n f (cf n (lets s)))).size), ((strOf n (mulR n f (cf n (lets s))))[k]).toNat = mulR n f (cf n (lets s)) k := strOf_get n _ fun i _ => hx.byte i
      have hgf : ∀ k (h : k < (strOf n f).size), ((strOf n f)[k]).toNat = f k := strOf_get n _ fun i _ => hf.byte i
      have hxb : ∀ i, mulR n f (cf n (lets s)) i < 256 := hx.byte
      generalize placesOf n (lets s) = ps at *
      generalize swapsOf n (lets s) = ss at *
      generalize mulR n f (cf n (lets s)) = g at *
      have HGX := Lib.hid hgx
      have HGF := Lib.hid hgf
      have HPP := Lib.hid hpl
      have HSS := Lib.hid hsw
      have HFB := Lib.hid hbx1
      have HXB := Lib.hid hxb
      generalize strOf n f = R at *
      generalize strOf n g = X at *
      obtain ⟨pm, hpm⟩ : ∃ pm, ps.length = pm := ⟨_, rfl⟩
      obtain ⟨sm, hsm⟩ : ∃ sm, ss.length = sm := ⟨_, rfl⟩
      rw [hpm, hsm] at hsum
      rw [hsm] at hsome
      have HPM := Lib.hid hpm
      have HSM := Lib.hid hsm
      have hXX : (X.toList == X.toList) = true := by simp
      have hRR : (R.toList == R.toList) = true := by simp
      have hss2 : (s.toList == s.toList) = true := by simp
      have h8' : (n : Int) ≤ 8 := by omega
      have hsum' : (pm : Int) + 2 * sm = n := by omega
      have hsome' : ((sm : Int) == 0) = false := by simp; omega
      have hpm8 : (pm : Int) ≤ 8 := by omega
      have hsm8 : (sm : Int) ≤ 8 := by omega
      clear hgr hgl hf hx hP hback hat1 hpl hsw hbx1 hgx hgf hxb hpm hsm hsum hsome
      go_wp2_with fail
      refine (HIA.out _).mono ?_
      rintro e y21 ⟨rfl, hbx⟩
      have HB2 := Lib.hid (HB1.out.trans (hbx.mono HB1.out.size))
      clear hbx HB1
      go_wp2_with fail
      refine (HSA.out _).mono ?_
      rintro e y22 ⟨rfl, hbx⟩
      have HB3 := Lib.hid (HB2.out.trans (hbx.mono HB2.out.size))
      clear hbx HB2
      go_wp2_with fail
      refine (HIB.out _).mono ?_
      rintro e y23 ⟨rfl, hbx⟩
      have HB4 := Lib.hid (HB3.out.trans (hbx.mono HB3.out.size))
      clear hbx HB3
      go_wp2_with fail
      refine (HBR.out _).mono ?_
      rintro e y24 ⟨rfl, hbx⟩
      have HB5 := Lib.hid (HB4.out.trans (hbx.mono HB4.out.size))
      clear hbx HB4
      go_wp2_with fail
      refine (HPL.out _).mono ?_
      rintro e y25 ⟨pv, rfl, hpn, hbx⟩
      obtain ⟨pa, pcap, rfl, hpa⟩ := hpn.own.view
      rw [nums_len, HPM.out] at hpn hpa ⊢
      have HPV := Lib.hid hpn.own
      have HPA := Lib.hid hpa
      have HB6 := Lib.hid (HB5.out.trans (hbx.mono HB5.out.size))
      clear hbx HB5 hpn hpa
      go_wp2_with fail
      refine (HSW.out _).mono ?_
      rintro e y26 ⟨sv, rfl, hsn, hbx⟩
      obtain ⟨sa, scap, rfl, hsa⟩ := hsn.own.view
      rw [nums_len, HSM.out] at hsn hsa ⊢
      have HSV := Lib.hid hsn.own
      have HSA2 := Lib.hid hsa
      have HPV2 := Lib.hid (HPV.out.kept hbx)
      have HB7 := Lib.hid (HB6.out.trans (hbx.mono HB6.out.size))
      clear hbx HB6 hsn hsa HPV
      go_wp2
      go_loopg [20, 134] pm (fun q _ i wr => ∃ k : Nat, k ≤ pm ∧ q + k = pm ∧ i = .int .i64 k ∧ ∃ dd, wr = y26.drewN dd)
      case atStart => exact ⟨0, Nat.zero_le _, rfl, rfl, 0, rfl⟩
      case round =>
        obtain ⟨k, hk, hq, rfl, dd, rfl⟩ := hrel
        have HQ := Lib.hid hq
        clear hq
        by_cases hlt : k < pm
        · obtain ⟨pg, rfl⟩ := HPA.out (by omega)
          have hkp : k < ps.length := by rw [HPM.out]; exact hlt
          obtain ⟨hp1, hp2, hp3⟩ := HPP.out _ (List.getElem_mem hkp)
          have c1 := HPV2.out.cell k (.int .i64 ps[k]) (by simp [nums, ints, hkp])
          obtain ⟨p, hp⟩ : ∃ p, ps[k] = p + 1 := ⟨ps[k] - 1, by omega⟩
          rw [hp] at hp2 hp3 c1
          rw [Nat.add_sub_cancel] at hp3
          have hgf := HGF.out
          have hgx := HGX.out
          have b1 : (f p : Int) < 256 := by have := HFB.out p; omega
          have hpR : p < R.size := by omega
          have hpX : p < X.size := by omega
          have e1 : R[p].toNat = f p := hgf p hpR
          have e2 : X[p].toNat = f p := by rw [hgx p hpX, hp3]
          have hpi : (p : Int) + 1 ≤ n := by omega
          have hki : (k : Int) < pm := by omega
          have g1 : decide ((p : Int) + 1 < 1) = false := by simp; omega
          have g2 : decide ((n : Int) < (p : Int) + 1) = false := by simp; omega
          have e3 : (((f p : Nat) : Int) != ((f p : Nat) : Int)) = false := by simp
          clear hgf hgx hp3 hp
          go_wp2
          go_quiet (fail)
          go_wp2
          go_roundg (pm - (k + 1))
          case measure => have := HQ.out; omega
          case rel => exact ⟨k + 1, by omega, by have := HQ.out; omega, by go_num, _, rfl⟩
        · obtain rfl : k = pm := by omega
          have hki : ¬ (k : Int) < k := by omega
          clear HPA HPP HPV2
          have HSV2 := Lib.hid (show Own (y26.drewN dd) 3 (.slice sa sm scap) (nums ss) from HSV.out)
          have HB8 := Lib.hid (below_drewN HB7.out dd)
          generalize y26.drewN dd = yd at *
          clear HB7 HSV
          go_wp2
          go_loopg [22, 160] sm (fun q _ i wr => ∃ k : Nat, k ≤ sm ∧ q + k = sm ∧ i = .int .i64 k ∧ ∃ dd, wr = yd.drewN dd)
          case atStart => exact ⟨0, Nat.zero_le _, rfl, rfl, 0, rfl⟩
          case round =>
            obtain ⟨k, hk, hq, rfl, dd, rfl⟩ := hrel
            have HQ2 := Lib.hid hq
            clear hq
            by_cases hlt2 : k < sm
            · obtain ⟨sg, rfl⟩ := HSA2.out (by omega)
              have hkp : k < ss.length := by rw [HSM.out]; exact hlt2
              obtain ⟨hp1, hp2, hp3, hp4⟩ := HSS.out _ (List.getElem_mem hkp)
              have c1 := HSV2.out.cell k (.int .i64 ss[k]) (by simp [nums, ints, hkp])
              obtain ⟨p, hp⟩ : ∃ p, ss[k] = p + 1 := ⟨ss[k] - 1, by omega⟩
              rw [hp] at hp2 hp3 hp4 c1
              rw [Nat.add_sub_cancel] at hp3 hp4
              have hgf := HGF.out
              have hgx := HGX.out
              have b1 : (f p : Int) < 256 := by have := HFB.out p; omega
              have b2 : (f (p + 1) : Int) < 256 := by have := HFB.out (p + 1); omega
              have hpR : p < R.size := by omega
              have hpX : p < X.size := by omega
              have hpR1 : p + 1 < R.size := by omega
              have hpX1 : p + 1 < X.size := by omega
              have e1 : R[p].toNat = f p := hgf p hpR
              have e2 : X[p].toNat = f (p + 1) := by rw [hgx p hpX, hp3]
              have e3 : R[p + 1].toNat = f (p + 1) := hgf (p + 1) hpR1
              have e4 : X[p + 1].toNat = f p := by rw [hgx (p + 1) hpX1, hp4]
              have hpi : (p : Int) + 1 < n := by omega
              have hki2 : (k : Int) < sm := by omega
              have g1 : decide ((p : Int) + 1 < 1) = false := by simp; omega
              have g2 : decide ((n : Int) ≤ (p : Int) + 1) = false := by simp; omega
              have e5 : (((f p : Nat) : Int) != ((f p : Nat) : Int)) = false := by simp
              have e6 : (((f (p + 1) : Nat) : Int) != ((f (p + 1) : Nat) : Int)) = false := by simp
              clear hgf hgx hp3 hp4 hp
              go_wp2
              go_quiet (fail)
              go_wp2
              go_roundg (sm - (k + 1))
              case measure => have := HQ2.out; omega
              case rel => exact ⟨k + 1, by omega, by have := HQ2.out; omega, by go_num, _, rfl⟩
            · obtain rfl : k = sm := by omega
              have hki2 : ¬ (k : Int) < k := by omega
              have HB9 := Lib.hid (below_drewN HB8.out dd)
              generalize yd.drewN dd = ye at *
              clear HSA2 HSS HSV2 HB8
              go_wp2_with fail
              refine (DrawGoodChange_any a2 l2 c2 z2 _ (HZ2.out.belowW HB9.out) HL2.out).mono ?_
              rintro e y1 ⟨dn, d, hd, rfl, hbx⟩
              have HX1 := Lib.hid (HB9.out.trans (hbx.mono HB9.out.size))
              clear hbx HB9
              have HCI := Lib.hid (iChangeRow_any dn d)
              have HCS := Lib.hid (sChangeRow_any dn d (mx10W hd))
              have HMI := Lib.hid (iMirrorChange_any dn d)
              have HMS := Lib.hid (sMirrorChange_any dn d (mx10W hd))
              have HGI := Lib.hid (iGoodChange_any dn d)
              have HGS := Lib.hid (sGoodChange_any dn d (mx10W hd))
              cases hgd : goodC dn d
              · rw [hgd] at HCI HCS HMI HMS HGI HGS
                generalize crS dn d = T1 at *
                generalize miS dn d = T2 at *
                have hT1 : (T1.toList == T1.toList) = true := by simp
                have hT2 : (T2.toList == T2.toList) = true := by simp
                have hdd : (d.toList == d.toList) = true := by simp
                clear hgd
                go_wp2_with fail
                refine (HCI.out _).mono ?_
                rintro e y2 ⟨rfl, hbx⟩
                have HX2 := Lib.hid (HX1.out.trans (hbx.mono HX1.out.size))
                clear hbx HX1
                go_wp2_with fail
                refine (HCS.out _).mono ?_
                rintro e y3 ⟨rfl, hbx⟩
                have HX3 := Lib.hid (HX2.out.trans (hbx.mono HX2.out.size))
                clear hbx HX2
                go_wp2_with fail
                refine (HMI.out _).mono ?_
                rintro e y4 ⟨rfl, hbx⟩
                have HX4 := Lib.hid (HX3.out.trans (hbx.mono HX3.out.size))
                clear hbx HX3
                go_wp2_with fail
                refine (HMS.out _).mono ?_
                rintro e y5 ⟨rfl, hbx⟩
                have HX5 := Lib.hid (HX4.out.trans (hbx.mono HX4.out.size))
                clear hbx HX4
                go_wp2_with fail
                refine (HGI.out _).mono ?_
                rintro e y6 ⟨rfl, hbx⟩
                have HX6 := Lib.hid (HX5.out.trans (hbx.mono HX5.out.size))
                clear hbx HX5
                go_wp2_with fail
                refine (HGS.out _).mono ?_
                rintro e y7 ⟨rfl, rfl⟩
                go_wp2
                go_ret
                exact ⟨rfl, HX6.out⟩
              · obtain ⟨dm, rfl, hgl⟩ := goodC_stage hgd
                rw [hgd] at HCI HCS HMI HMS HGI HGS
                have HMM := Lib.hid (iMirrorChange_any dm (txt (mirL dm (lets d))))
                have HGM := Lib.hid (iGoodChange_any dm (txt (mirL dm (lets d))))
                rw [goodC_in, lets_mir hgl, (mir_good hgl).1, miS_yes (by rw [lets_mir hgl]; exact (mir_good hgl).1), lets_mir hgl, (mir_good hgl).2, txt_lets] at HMM
                rw [goodC_in, lets_mir hgl, (mir_good hgl).1] at HGM
                have HOR := Lib.hid (iOrderOf_yes dm _ (isRow_cf hgl) 2 (ord_two hgl))
                rw [crS_yes hgl] at HCI HCS
                rw [miS_yes hgl] at HMI HMS
                generalize strOf dm (cf dm (lets d)) = T1 at *
                generalize txt (mirL dm (lets d)) = T2 at *
                clear hgl
                have hT1 : (T1.toList == T1.toList) = true := by simp
                have hT2 : (T2.toList == T2.toList) = true := by simp
                have hdd : (d.toList == d.toList) = true := by simp
                clear hgd
                go_wp2_with fail
                refine (HCI.out _).mono ?_
                rintro e y2 ⟨rfl, hbx⟩
                have HX2 := Lib.hid (HX1.out.trans (hbx.mono HX1.out.size))
                clear hbx HX1
                go_wp2_with fail
                refine (HCS.out _).mono ?_
                rintro e y3 ⟨rfl, hbx⟩
                have HX3 := Lib.hid (HX2.out.trans (hbx.mono HX2.out.size))
                clear hbx HX2
                go_wp2_with fail
                refine (HMI.out _).mono ?_
                rintro e y4 ⟨rfl, hbx⟩
                have HX4 := Lib.hid (HX3.out.trans (hbx.mono HX3.out.size))
                clear hbx HX3
                go_wp2_with fail
                refine (HMS.out _).mono ?_
                rintro e y5 ⟨rfl, hbx⟩
                have HX5 := Lib.hid (HX4.out.trans (hbx.mono HX4.out.size))
                clear hbx HX4
                go_wp2_with fail
                refine (HGI.out _).mono ?_
                rintro e y6 ⟨rfl, hbx⟩
                have HX6 := Lib.hid (HX5.out.trans (hbx.mono HX5.out.size))
                clear hbx HX5
                go_wp2_with fail
                refine (HGS.out _).mono ?_
                rintro e y7 ⟨rfl, rfl⟩
                go_wp2_with fail
                refine (HMM.out _).mono ?_
                rintro e y8 ⟨rfl, hbx⟩
                have HX8 := Lib.hid (HX6.out.trans (hbx.mono HX6.out.size))
                clear hbx HX6
                go_wp2_with fail
                refine (HOR.out _).mono ?_
                rintro e y9 ⟨rfl, hbx⟩
                have HX9 := Lib.hid (HX8.out.trans (hbx.mono HX8.out.size))
                clear hbx HX8
                go_wp2_with fail
                refine (HGM.out _).mono ?_
                rintro e y10 ⟨rfl, hbx⟩
                have HX10 := Lib.hid (HX9.out.trans (hbx.mono HX9.out.size))
                clear hbx HX9
                go_wp2
                go_ret
                exact ⟨rfl, HX10.out⟩

end Go.Proofs.Ytnildepdpkbekaa
