/- The heads of a touch in the program. -/
import Derived.Test.YtkhglknpcajmiaaXJ
namespace Go.Proofs.Ytkhglknpcajmiaa
open Go.RowKit
set_option linter.unusedSimpArgs false
set_option linter.unusedVariables false

theorem NewD.onlyD {B b : Nat} {W W' : World} {v : Value} {fs : List (Nat → Nat)} (h : NewD B W v fs) (ho : Only b W W') (hb : b < B) : NewD B W' v fs := by
  obtain ⟨h1, h2⟩ := h
  refine ⟨h1, ?_⟩
  rcases h2 with h2 | ⟨g, cap, cur, hv, hg, hr, h3⟩
  · exact .inl h2
  · have hlt : g < W.heap.size := (Array.getElem?_eq_some_iff.1 hr).1
    exact .inr ⟨g, cap, cur, hv, hg, (ho.block g hlt (by omega)).trans hr, h3⟩
set_option maxRecDepth 100000 in
set_option maxHeartbeats 1000000 in
theorem leadHeads_any (n : Nat) (a : Option Addr) (m cap : Nat) (h0 h1 h2 : Nat → Nat) (h3 : 3 ≤ n) (h8 : n ≤ 8) (r0 : IsRow n h0) (r1 : IsRow n h1) (r2 : IsRow n h2) (ks : List Nat) (hks : ∀ k ∈ ks, k < 3) (a2 : Option Addr) (k2 : Nat) (w : World) (hv : Own w 3 (.slice a2 ks.length k2) (nums ks)) (hl : ks.length ≤ 60) :
    Calls Try.prog 109 #[.agg (touV (.slice a m cap) (rdf n) h0 h1 h2 (.slice a2 ks.length k2))] w (RowsOut (leadF n (ks.map (pk3 h0 h1 h2)) (rdf n) ++ [headF n (ks.map (pk3 h0 h1 h2))]) w) := by
  have hf := isRow_rdf h3 h8
  unfold RowsOut headF
  have HADV := Lib.hid (fun W => advance_any a m cap (rdf n) h0 h1 h2 W)
  have HCL := Lib.hid (fun g hg x hx bh bc hne W => advance_call n (rdf n) g h0 h1 h2 hg r0 r1 r2 x hx bh bc m cap a hne W)
  have HPR : Hid (∀ k, IsRow n (pk3 h0 h1 h2 k)) := Lib.hid (pk3_row r0 r1 r2)
  generalize hD : leadF n (ks.map (pk3 h0 h1 h2)) (rdf n) ++ [endF n (ks.map (pk3 h0 h1 h2)) (rdf n)] = D
  have HD := Lib.hid hD
  have HF := Lib.hid hf
  generalize rdf n = f at *
  obtain ⟨p, hp⟩ : ∃ p, ks.length = p := ⟨_, rfl⟩
  rw [hp] at hv hl ⊢
  have HM := Lib.hid hp
  have HKS := Lib.hid hks
  have HV := Lib.hid hv
  have HA : Hid (0 < p → ∃ g, a2 = some ⟨g, 0, none⟩) := Lib.hid (by
    obtain ⟨a2', k2', hvv, hav⟩ := hv.view
    injection hvv with e1 e2 e3
    subst e1 e3
    rwa [nums_len, hp] at hav)
  have HX0 := Lib.hid (RowAt.new w 116 (touV (.slice a m cap) f h0 h1 h2 (.slice a2 p k2)))
  have HB0 := Lib.hid ((Below.refl _ w).alloc (Nat.le_refl _) (.cells (touV (.slice a m cap) f h0 h1 h2 (.slice a2 p k2)) 116))
  have HSZ0 : Hid ((w.alloc (.cells (touV (.slice a m cap) f h0 h1 h2 (.slice a2 p k2)) 116)).heap.size = w.heap.size + 1) := Lib.hid (by simp)
  have hpi : (p : Int) ≤ 60 := by omega
  clear hD hf hv hp hks r0 r1 r2
  go_enter Try.func109, Try.ntmps109
  simp only [touV]
  obtain ⟨w0, hw0⟩ : ∃ w0, w.alloc (.cells (touV (.slice a m cap) f h0 h1 h2 (.slice a2 p k2)) 116) = w0 := ⟨_, rfl⟩
  rw [hw0] at HX0 HB0 HSZ0
  simp only [touV] at hw0
  have HG0 := Lib.hid (tou_range HX0.out)
  have HGF := Lib.hid (tou_rangeF HX0.out)
  go_wp2_with (first | (rw [hw0]; refine wpList_load_mid rfl 92 _ rfl w.heap.size 0 rfl (callV (.slice a m cap) f h0 h1 h2).toList _ HG0.out Try.underlying92 rfl (sizeCalling _ _ _ _ _) ?_; rw [Array.toArray_toList]; clear hw0) | (refine wpList_load_mid rfl 92 _ rfl w.heap.size 0 rfl (callV (.slice a m cap) f h0 h1 h2).toList _ HG0.out Try.underlying92 rfl (sizeCalling _ _ _ _ _) ?_; rw [Array.toArray_toList]) | fail)
  refine (HADV.out _).mono ?_
  rintro e w1 ⟨rfl, hc1, hd1, hs1, hb1⟩
  have HC1 := Lib.hid hc1
  have HD1 := Lib.hid hd1
  have HS1 := Lib.hid hs1
  have HX1 := Lib.hid (HX0.out.kept hb1)
  have HB1 := Lib.hid (HB0.out.trans (hb1.mono HB0.out.size))
  have HSZ := HSZ0.out
  rw [HSZ] at hs1 hc1 hd1
  have HC1 := Lib.hid hc1
  have HD1 := Lib.hid hd1
  have HS1 := Lib.hid hs1
  rw [HSZ]
  clear hc1 hd1 hs1 hb1 HX0 HB0 HSZ HSZ0 HG0 HGF HADV
  have HGF1 := Lib.hid (tou_rangeF HX1.out)
  have HN2 := Lib.hid (newd_one (w.heap.size + 3) w1 f (by rw [HS1.out]; omega))
  have hal := (Below.refl w1.heap.size w1).alloc (Nat.le_refl _) (.cells (dig8 f) 87)
  have HC2 := Lib.hid (HC1.out.kept hal)
  have HD2 := Lib.hid (HD1.out.kept hal)
  have HX2 := Lib.hid (HX1.out.kept hal)
  have HB2 := Lib.hid (HB1.out.trans (hal.mono HB1.out.size))
  have HW2 : Hid (w.heap.size + 3 ≤ (w1.alloc (.cells (dig8 f) 87)).heap.size) := Lib.hid (by have := HS1.out; simp; omega)
  clear hal HC1 HD1 HX1 HB1
  have c33 : (w1.alloc (.cells (dig8 f) 87)).cell? ⟨w.heap.size, 33, none⟩ = some (.slice a2 p k2) := HX2.out.cell 33 rfl
  go_wp2_with (first | (refine wpList_load8 rfl _ rfl w.heap.size 1 rfl f HGF1.out ?_) | (refine wpList_build8 rfl _ rfl f rfl ?_) | fail)
  generalize w1.alloc (.cells (dig8 f) 87) = w2 at *
  clear c33 HGF1 HX2
  have HLE : Hid (w.heap.size ≤ w.heap.size + 3) := Lib.hid (by omega)
  go_loopg [4, 18] p (fun q v i wr => ∃ (j : Nat) (B : List (Nat → Nat)) (g : Nat → Nat), q + j = p ∧ i = .int .i64 j ∧ IsRow n g ∧ B.length = j ∧ B ++ (leadF n ((ks.drop j).map (pk3 h0 h1 h2)) g ++ [endF n ((ks.drop j).map (pk3 h0 h1 h2)) g]) = D ∧ NewD (w.heap.size + 3) wr v (B ++ [g]) ∧ RowAt wr (w.heap.size + 1 + 1) 87 (dig8 g) ∧ RowAt wr (w.heap.size + 1) 92 (callV (.slice a m cap) f h0 h1 h2) ∧ Below w.heap.size w wr ∧ w.heap.size + 3 ≤ wr.heap.size)
  case atStart => exact ⟨0, [], f, by omega, rfl, HF.out, rfl, by rw [List.drop_zero, List.nil_append]; exact HD.out, HN2.out, HD2.out, HC2.out, HB2.out, HW2.out⟩
  case round =>
    clear HF HD HN2 HD2 HC2 HB2 HW2
    obtain ⟨j, B, g, hq, rfl, hg, hBl, hD, hn, hd, hc, hb, hw⟩ := hrel
    have HQ := Lib.hid hq
    have HG := Lib.hid hg
    have HBL := Lib.hid hBl
    have HD := Lib.hid hD
    have HN := Lib.hid hn
    have HX := Lib.hid hd
    have HC := Lib.hid hc
    have HB := Lib.hid hb
    have HW := Lib.hid hw
    clear hq hg hBl hD hn hd hc hb hw
    by_cases hlt : j < p
    · obtain ⟨gk2, rfl⟩ := HA.out (by omega)
      have hjk : j < ks.length := by rw [HM.out]; exact hlt
      have hkl := (HV.out.lt gk2 rfl)
      have c1 := (HB.out.cell (p := ⟨gk2, j, none⟩) hkl).trans (HV.out.cell j (.int .i64 (ks[j] : Nat)) (by simp [nums, ints, hjk]))
      have h3 := HKS.out _ (List.getElem_mem hjk)
      have hdr : ks.drop j = ks[j] :: ks.drop (j + 1) := List.drop_eq_getElem_cons hjk
      have hD := HD.out
      rw [hdr] at hD
      generalize ks[j] = x at *
      clear hjk hdr hkl
      have HDD : Hid ((B ++ [g]) ++ (leadF n ((ks.drop (j + 1)).map (pk3 h0 h1 h2)) (mulR n g (pk3 h0 h1 h2 x)) ++ [endF n ((ks.drop (j + 1)).map (pk3 h0 h1 h2)) (mulR n g (pk3 h0 h1 h2 x))]) = D) := Lib.hid (by
        rw [← hD, List.map_cons]
        simp [leadF, endF])
      have HR := Lib.hid (isRow_mul HG.out (HPR.out x))
      have HCALL := Lib.hid (HCL.out g HG.out x h3 (w.heap.size + 1 + 1) (w.heap.size + 1) (by omega) wr HX.out HC.out)
      have hji : (j : Int) < p := by omega
      generalize mulR n g (pk3 h0 h1 h2 x) = g' at *
      clear hD h3
      obtain ⟨av, kv, rfl, -, -⟩ := HN.out.view (n := j + 1) (by rw [List.length_append, HBL.out]; rfl)
      go_wp2_with fail
      refine HCALL.out.mono ?_
      rintro e5 w5 ⟨rfl, hx5, ho5⟩
      have hw5 : w.heap.size + 3 ≤ w5.heap.size := Nat.le_trans HW.out ho5.size
      have hb5 : Below w.heap.size w w5 := HB.out.trans ((ho5.below (by have := HX.out.lt; omega)).mono (by omega))
      have hal := (Below.refl w5.heap.size w5).alloc (Nat.le_refl _) (.cells (dig8 g') 87)
      have HX6 := Lib.hid (hx5.kept hal)
      have HC6 := Lib.hid ((show RowAt w5 (w.heap.size + 1) 92 _ from (ho5.block _ HC.out.lt (by omega)).trans HC.out).kept hal)
      have HN6 := Lib.hid ((HN.out.onlyD ho5 (by omega)).kept hal)
      have HB6 := Lib.hid (hb5.trans (hal.mono hb5.size))
      have HQ6 := Lib.hid (dig_one (RowAt.new w5 87 (dig8 g')))
      have HW6 : Hid (w.heap.size + 3 ≤ (w5.alloc (.cells (dig8 g') 87)).heap.size) := Lib.hid (Nat.le_trans hw5 hal.size)
      clear hw5 hb5 hal hx5 ho5 HX HC HN HB HW HCALL c1
      go_wp2_with (first | (refine wpList_build8 rfl _ rfl g' rfl ?_) | (at_builtin; refine wpList_app8 rfl _ _ 84 rfl Try.underlying84 (w.heap.size + 3) w.heap.size HLE.out _ (B ++ [g]) [g'] rfl HN6.out _ rfl HQ6.out (by simp) HW6.out HB6.out (by have := HBL.out; simp; omega) ?_) | fail)
      intro v7 w7 hn7 hk7 hb7 hs7
      have HN7 := Lib.hid hn7
      have HB7 := Lib.hid hb7
      have hne1 : (Value.slice av (j + 1) kv).ownBlock ≠ some (w.heap.size + 1) := fun e => absurd (HN6.out.lt _ e).1 (by omega)
      have hne2 : (Value.slice av (j + 1) kv).ownBlock ≠ some (w.heap.size + 1 + 1) := fun e => absurd (HN6.out.lt _ e).1 (by omega)
      have HC7 : Hid (RowAt w7 (w.heap.size + 1) 92 (callV (.slice a m cap) f h0 h1 h2)) := Lib.hid ((hk7 _ HC6.out.lt hne1).trans HC6.out)
      have HX7 : Hid (RowAt w7 (w.heap.size + 1 + 1) 87 (dig8 g')) := Lib.hid ((hk7 _ HX6.out.lt hne2).trans HX6.out)
      have HW7 : Hid (w.heap.size + 3 ≤ w7.heap.size) := Lib.hid (by have := HW6.out; simp only [World.size_alloc] at this; exact Nat.le_trans this hs7)
      clear hn7 hk7 hb7 hs7 hne1 hne2 HX6 HC6 HN6 HB6 HQ6 HW6
      go_wp2
      go_roundg (p - (j + 1))
      case measure => have := HQ.out; omega
      case rel => exact ⟨j + 1, B ++ [g], g', by have := HQ.out; omega, by go_num, HR.out, by rw [List.length_append, HBL.out]; rfl, HDD.out, by have := HN7.out; rwa [show B ++ [g, g'] = (B ++ [g]) ++ [g'] by simp] at this, HX7.out, HC7.out, HB7.out, HW7.out⟩
    · obtain rfl : j = p := by have := HQ.out; omega
      have hD := HD.out
      rw [List.drop_eq_nil_of_le (by rw [HM.out]; exact Nat.le_refl _)] at hD
      have hD2 : B ++ [g] = D := hD
      have HN2 := Lib.hid (by have := HN.out; rw [hD2] at this; exact this.lower HLE.out)
      clear hD hD2 HN
      go_wp2
      go_ret
      exact ⟨_, rfl, HN2.out, HB.out⟩
end Go.Proofs.Ytkhglknpcajmiaa
