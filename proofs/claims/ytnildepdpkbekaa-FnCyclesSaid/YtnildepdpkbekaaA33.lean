/- The law on cycles. -/
import Derived.Test.YtnildepdpkbekaaA32
namespace Go.Proofs.Ytnildepdpkbekaa
open Go.RowKit
set_option linter.unusedSimpArgs false

theorem ints_at' (xs : List Int) (k : Nat) (x : Int) (h : xs[k]? = some x) : (ints xs)[k]? = some (.int .i64 x) := by
  unfold ints
  rw [List.getElem?_map, h]; rfl
/-- list j of the cycles, as what is read of it -/
structure CycAt (n : Nat) (f : Nat → Nat) (F : Nat → List Int) (j s m : Nat) : Prop where
  lt : s < n
  per : IsPer n f s m
  two : 2 ≤ m
  len : (F j).length = m
  get : ∀ k, k < m → (F j)[k]? = some ((orb n f s k : Nat) + 1)
theorem cycAt {n : Nat} {f : Nat → Nat} (hf : IsRow n f) {j : Nat} (hj : j < (cycs n f n).length) : ∃ s m, CycAt n f (at' (cycs n f n)) j s m := by
  obtain ⟨s, m, h⟩ := cycs_of hf n (Nat.le_refl _) _ (List.getElem_mem hj)
  have e : at' (cycs n f n) j = cycTo n f s m := by
    rw [← h.eq]
    unfold at'
    rw [List.getD_eq_getElem?_getD, List.getElem?_eq_getElem hj]; rfl
  refine ⟨s, m, h.lt, h.per, h.two, by rw [e, cycTo_len], fun k hk => ?_⟩
  rw [e, List.getElem?_eq_getElem (by rw [cycTo_len]; exact hk), cyc_get f s m (by rw [cycTo_len]; exact hk)]
  simp
theorem offL_flat (ll : List (List Int)) : ∀ j, j ≤ ll.length → offL (fun i => (at' ll i).length) j = (ll.take j).flatten.length
  | 0, _ => by simp [offL]
  | j + 1, hj => by
    have e : at' ll j = ll[j] := by unfold at'; rw [List.getD_eq_getElem?_getD, List.getElem?_eq_getElem (by omega)]; rfl
    show offL _ j + (at' ll j).length = _
    rw [offL_flat ll j (by omega), e, List.take_succ_eq_append_getElem (by omega), List.flatten_append, List.length_append]
    simp
theorem offL_swaps (ll : List (List Int)) : ∀ j, j ≤ ll.length → offL (fun i => (at' ll i).length - 1) j = swapsOf (ll.take j)
  | 0, _ => by simp [offL, swapsOf]
  | j + 1, hj => by
    have e : at' ll j = ll[j] := by unfold at'; rw [List.getD_eq_getElem?_getD, List.getElem?_eq_getElem (by omega)]; rfl
    show offL _ j + ((at' ll j).length - 1) = _
    rw [offL_swaps ll j (by omega), e, List.take_succ_eq_append_getElem (by omega), swapsOf_append]
    simp [swapsOf]
/-- what the two sums are in the end -/
theorem sums_end {n : Nat} {f : Nat → Nat} (hf : IsRow n f) : offL (fun i => (at' (cycs n f n) i).length) (cycs n f n).length + stayN f n = n ∧ evenB (invB f n) = evenB (offL (fun i => (at' (cycs n f n) i).length - 1) (cycs n f n).length) := by
  rw [offL_flat _ _ (Nat.le_refl _), offL_swaps _ _ (Nat.le_refl _), List.take_length]
  exact ⟨moved_stay hf, sign_cycs hf⟩
theorem swaps_le (L : Nat → Nat) : ∀ j, offL (fun i => L i - 1) j ≤ offL L j
  | 0 => Nat.le_refl _
  | j + 1 => by have := swaps_le L j; show offL _ j + (L j - 1) ≤ offL L j + L j; omega

set_option maxRecDepth 100000 in
set_option maxHeartbeats 1000000 in
theorem lawCycles (a1 : Option Addr) (l1 c1 : Nat) (z1 : List Int) (a2 : Option Addr) (l2 c2 : Nat) (z2 : List Int) (w : World) (hz1 : IsBytes w a1 l1 c1 z1) (hz2 : IsBytes w a2 l2 c2 z2) :
    Calls Try.prog 5 #[.slice a1 l1 c1, .slice a2 l2 c2] w fun e w' => e = .returned (.bool true) ∧ Below w.heap.size w w' := by
  have HZ1 := Lib.hid hz1
  have HZ2 := Lib.hid hz2
  clear hz1 hz2
  go_enter Try.func5, Try.ntmps5
  go_wp2_with fail
  refine (big_any a1 a2 l1 l2 c1 c2 HZ1.out.len HZ2.out.len _).mono ?_
  rintro e w0 ⟨rfl, rfl⟩
  by_cases hbig : 1048576 < l1 + l2
  · rw [decide_eq_true hbig]
    go_wp2
    go_ret
    exact ⟨rfl, Below.refl _ _⟩
  · rw [decide_eq_false hbig]
    have HL1 := Lib.hid (show l1 ≤ 1048576 by omega)
    have HL2 := Lib.hid (show l2 ≤ 1048576 by omega)
    clear hbig
    go_wp2_with fail
    refine (DrawCyclesOf_any a1 l1 c1 z1 _ HZ1.out HL1.out).mono ?_
    rintro e w1 ⟨s, hs, rfl, hb1⟩
    have HB1 := Lib.hid hb1
    clear hb1
    cases hb : goodB s
    · have HG := Lib.hid hb
      clear hb
      go_wp2_with fail
      refine (iCyclesOf_no s (mx10 hs) HG.out _).mono ?_
      rintro e w2 ⟨rfl, hbx⟩
      have HB2 := Lib.hid (HB1.out.trans (hbx.mono HB1.out.size))
      clear hbx HB1
      go_wp2_with fail
      refine (sCyclesOf_no s (mx10 hs) HG.out _).mono ?_
      rintro e w3 ⟨rfl, hbx⟩
      have HB3 := Lib.hid (HB2.out.trans (hbx.mono HB2.out.size))
      clear hbx HB2
      go_wp2_with fail
      refine (sameLists_same 0 0 nilV nilV [] [] 0 (fun _ => []) _ (Lists.nil _ _ _) (Lists.nil _ _ _) (by omega) (fun i hi => by omega)).mono ?_
      rintro e w4 ⟨rfl, d4, hd4⟩
      have HB4 : Hid (Below w.heap.size w w4) := by rw [hd4]; exact below_drewN HB3.out _
      clear hd4 HB3
      go_wp2_with fail
      refine (DrawRowOf_any a2 l2 c2 z2 _ (HZ2.out.below HB4.out) HL2.out).mono ?_
      rintro e w5 ⟨n, k, hk1, hk2, rfl, hbx⟩
      have HB5 := Lib.hid (HB4.out.trans (hbx.mono HB4.out.size))
      clear hbx HB4
      go_wp2_with fail
      refine (iRowOf_fn n k _).mono ?_
      rintro e w6 ⟨rfl, hbx⟩
      have HB6 := Lib.hid (HB5.out.trans (hbx.mono HB5.out.size))
      clear hbx HB5
      go_wp2_with fail
      refine (sRowOf_fn n k _).mono ?_
      rintro e w7 ⟨rfl, hbx⟩
      have HB7 := Lib.hid (HB6.out.trans (hbx.mono HB6.out.size))
      clear hbx HB6
      cases hT : rkB n k
      · go_wp2
        go_ret
        exact ⟨rfl, HB7.out⟩
      · have HT := Lib.hid hT
        clear hT
        go_wp2_with fail
        refine (iPlaceOfRow_rk n k HT.out _).mono ?_
        rintro e w8 ⟨rfl, hbx⟩
        have HB8 := Lib.hid (HB7.out.trans (hbx.mono HB7.out.size))
        clear hbx HB7
        go_wp2_with fail
        refine (iRowOf_fn n (k + 1) _).mono ?_
        rintro e w9 ⟨rfl, hbx⟩
        have HB9 := Lib.hid (HB8.out.trans (hbx.mono HB8.out.size))
        clear hbx HB8
        cases hT2 : rkB n (k + 1)
        · go_wp2
          go_ret
          exact ⟨rfl, HB9.out⟩
        · have hless := rkS_less n k HT.out hT2
          go_wp2
          go_ret
          exact ⟨rfl, HB9.out⟩
    · obtain ⟨n, f, hf, rfl⟩ := str_of_good hb
      have HF := Lib.hid hf
      have h8 := hf.eight
      have hss := strOf_size n f
      clear hf hb
      go_wp2_with fail
      refine (iCyclesOf_yes n f HF.out _).mono ?_
      rintro e w2 ⟨v1, vs1, rfl, hl1, hbx⟩
      have L1 := Lib.hid hl1
      have HB2 := Lib.hid (HB1.out.trans (hbx.mono HB1.out.size))
      clear hl1 hbx HB1
      go_wp2_with fail
      refine (sCyclesOf_yes n f HF.out _).mono ?_
      rintro e w3 ⟨v2, vs2, rfl, hl2, hbx⟩
      have L2 := Lib.hid hl2
      have L1' := Lib.hid (L1.out.kept hbx)
      have HB3 := Lib.hid (HB2.out.trans (hbx.mono HB2.out.size))
      clear hl2 hbx HB2
      go_wp2_with fail
      refine (sameLists_same _ _ v1 v2 vs1 vs2 _ _ _ L1'.out L2.out (by have := cycs_len n f n; omega) (fun i _ => by have := at'_len HF.out i; omega)).mono ?_
      rintro e w4 ⟨rfl, d4, hd4⟩
      have HB4 : Hid (Below w.heap.size w w4) := by rw [hd4]; exact below_drewN HB3.out _
      have L3 : Hid (Lists w1.heap.size w4 v1 vs1 (cycs n f n).length (at' (cycs n f n))) := by rw [hd4]; exact L1'.out.kept (below_drewN (Below.refl _ _) _)
      clear hd4 HB3 L1 L2 L1'
      obtain ⟨od, hod⟩ := ord_exists HF.out
      have HK := Lib.hid hod
      have hod1 : (od : Int) ≤ 840 := by have := hod.le; omega
      clear hod
      go_wp2_with fail
      refine (iOrderOf_yes n f HF.out od HK.out _).mono ?_
      rintro e w5 ⟨rfl, hbx⟩
      have L4 := Lib.hid (L3.out.kept hbx)
      have HB5 := Lib.hid (HB4.out.trans (hbx.mono HB4.out.size))
      clear hbx HB4 L3
      go_wp2_with fail
      refine (iIsEven_yes n f HF.out _).mono ?_
      rintro e w6 ⟨rfl, hbx⟩
      have L5 := Lib.hid (L4.out.kept hbx)
      have HB6 := Lib.hid (HB5.out.trans (hbx.mono HB5.out.size))
      clear hbx HB5 L4
      obtain ⟨SE1, SE2⟩ := sums_end HF.out
      generalize evenB (invB f n) = ev at SE2 ⊢
      obtain ⟨av, cap, rfl, hav⟩ := L5.out.view
      have hN := cycs_len n f n
      have HAT := Lib.hid (fun j hj => @cycAt n f HF.out j hj)
      have HAV := Lib.hid hav
      have hat := strOf_get n f (fun i _ => HF.out.byte i)
      have hoffm : ∀ j, offL (fun i => (at' (cycs n f n) i).length) j ≤ 8 * j := offL_le _ (at'_len HF.out)
      clear hav
      generalize (cycs n f n).length = N at *
      generalize at' (cycs n f n) = F at *
      generalize strOf n f = str at *
      have HOFF := Lib.hid hoffm
      have HSE1 := Lib.hid SE1
      have HSE2 := Lib.hid SE2
      clear hoffm SE1 SE2
      go_wp2
      go_loopg [14, 15, 17, 18, 19, 69] N (fun q mv sw _ _ _ ix wr => ∃ j : Nat, j ≤ N ∧ q + j = N ∧ ix = .int .i64 j ∧ mv = .int .i64 (offL (fun i => (F i).length) j : Nat) ∧ sw = .int .i64 (offL (fun i => (F i).length - 1) j : Nat) ∧ Lists w1.heap.size wr (.slice av N cap) vs1 N F ∧ Below w.heap.size w wr)
      case atStart => exact ⟨0, Nat.zero_le _, rfl, rfl, rfl, rfl, L5.out, HB6.out⟩
      case round =>
        clear L5 HB6
        obtain ⟨j, hj, hq, rfl, rfl, rfl, hl, hb⟩ := hrel
        have HQ := Lib.hid hq
        have HL := Lib.hid hl
        have HB := Lib.hid hb
        clear hq hl hb
        have hmv : (offL (fun i => (F i).length) j : Int) ≤ 64 := by have := HOFF.out j; omega
        have hsw : (offL (fun i => (F i).length - 1) j : Int) ≤ 64 := by have := HOFF.out j; have := swaps_le (fun i => (F i).length) j; omega
        by_cases hlt : j < N
        · obtain ⟨g, rfl⟩ := HAV.out (by omega)
          have hji : (j : Int) < N := by omega
          obtain ⟨sx, m, hcy⟩ := HAT.out j hlt
          have HCY := Lib.hid hcy
          have c1 := HL.out.outer.cell j _ (HL.out.at j hlt)
          have I1 := Lib.hid (HL.out.inner j hlt)
          obtain ⟨ax, capx, e1, hax⟩ := I1.out.viewI hcy.len
          rw [e1] at c1
          have I1' : Hid (Own wr 3 (.slice ax m capx) (ints (F j))) := by rw [← e1]; exact I1
          have hm2 : (2 : Int) ≤ m := by have := hcy.two; omega
          have hm8 : (m : Int) ≤ 8 := by have := hcy.per.le; omega
          have hdiv : (od : Int) % m = 0 := by have := per_divides HF.out hcy.lt hcy.per HK.out.back; omega
          have hstep : offL (fun i => (F i).length) (j + 1) = offL (fun i => (F i).length) j + m := by show _ + (F j).length = _; rw [hcy.len]
          have hstep2 : offL (fun i => (F i).length - 1) (j + 1) = offL (fun i => (F i).length - 1) j + (m - 1) := by show _ + ((F j).length - 1) = _; rw [hcy.len]
          have HS1 := Lib.hid hstep
          have HS2 := Lib.hid hstep2
          obtain ⟨gx, rfl⟩ := hax (by omega)
          clear hcy hax e1 I1 hstep hstep2
          generalize offL (fun i => (F i).length) j = mvn at *
          generalize offL (fun i => (F i).length - 1) j = swn at *
          go_wp2
          obtain ⟨wo, hwo⟩ : ∃ wo : World, wo = wr := ⟨_, rfl⟩
          subst hwo
          go_loopg [18, 19, 94] m (fun q _ _ ix wq => ∃ k : Nat, k ≤ m ∧ q + k = m ∧ ix = .int .i64 k ∧ ∃ d, wq = wo.drewN d)
          case atStart => exact ⟨0, Nat.zero_le _, rfl, rfl, 0, rfl⟩
          case round =>
            obtain ⟨k, hk, hq, rfl, d, rfl⟩ := hrel
            have HQ2 := Lib.hid hq
            clear hq
            by_cases hkm : k < m
            · have hki : (k : Int) < m := by omega
              have HX := HCY.out.get k hkm
              have hk2 : (k + 1) % m < m := Nat.mod_lt _ (by omega)
              have HX2 := HCY.out.get _ hk2
              have ho1 := orb_lt HF.out HCY.out.lt k
              have e2 : orb n f sx ((k + 1) % m) = f (orb n f sx k) - 49 := by rw [← orb_mod HF.out HCY.out.lt HCY.out.per, orb_succ HF.out HCY.out.lt]
              have hlo := HF.out.lo _ ho1
              have hhi := HF.out.hi _ ho1
              have hmod : ((k : Int) + 1) % m = (((k + 1) % m : Nat) : Int) := by push_cast; rfl
              have d1 := I1'.out.cell k _ (ints_at' _ _ _ HX)
              have d2 := I1'.out.cell _ _ (ints_at' _ _ _ HX2)
              generalize orb n f sx ((k + 1) % m) = o2 at *
              generalize orb n f sx k = o at *
              generalize (k + 1) % m = k2 at *
              have hge1 : (1 : Int) ≤ (o : Int) + 1 := by omega
              have hle1 : (o : Int) + 1 ≤ n := by omega
              have hoo : ((o : Int) + 1 - 1).toNat = o := by omega
              have hw1 : IntKind.i64.wrap (o : Int) = (o : Int) := IntWalk.i64_in _ ⟨by omega, by omega⟩
              have hw3 : IntKind.u8.wrap ((o2 : Int) + 1) = (o2 : Int) + 1 := IntWalk.u8_in _ ⟨by omega, by omega⟩
              have hw4 : IntKind.i64.wrap ((o2 : Int) + 1) = (o2 : Int) + 1 := IntWalk.i64_in _ ⟨by omega, by omega⟩
              have hw6 : ((k : Int) + 1).tmod m = (k2 : Int) := by rw [Int.tmod_eq_emod_of_nonneg (by omega)]; exact hmod
              have hw5 : IntKind.i64.wrap (k2 : Int) = (k2 : Int) := IntWalk.i64_in _ ⟨by omega, by omega⟩
              have hw2 : IntKind.i64.wrap ((k : Int) + 1) = (k : Int) + 1 := IntWalk.i64_in _ ⟨by omega, by omega⟩
              have hoi : (o : Int) < n := by omega
              have hki2 : (k2 : Int) < m := by omega
              have hlo' : (49 : Int) ≤ f o := by omega
              have hhi' : (f o : Int) ≤ 56 := by omega
              have hsame : (f o : Int) - 48 = (o2 : Int) + 1 := by omega
              clear HX HX2 e2
              go_wp2
              go_quiet (fail)
              go_wp2
              go_roundg (m - (k + 1))
              case measure => have := HQ2.out; omega
              case rel => exact ⟨k + 1, by omega, by have := HQ2.out; omega, by go_num, _, rfl⟩
            · obtain rfl : k = m := by omega
              go_wp2
              go_roundg (N - (j + 1))
              case measure => have := HQ.out; omega
              case rel => exact ⟨j + 1, by omega, by have := HQ.out; omega, by go_num, by rw [HS1.out]; go_num, by rw [HS2.out]; go_num, HL.out.kept (below_drewN (Below.refl _ _) _), below_drewN HB.out _⟩
        · obtain rfl : j = N := by omega
          go_wp2
          have HSE := Lib.hid (⟨HSE1.out, HSE2.out⟩ : _ ∧ _)
          go_loopg [20, 21] n (fun q st ix wq => ∃ t : Nat, t ≤ n ∧ q + t = n ∧ ix = .int .i64 ((t : Int) + 1) ∧ st = .int .i64 (stayN f t : Nat) ∧ Below w.heap.size w wq)
          case atStart => exact ⟨0, Nat.zero_le _, rfl, rfl, rfl, HB.out⟩
          case round =>
            clear HB HL
            obtain ⟨t, ht, hq, rfl, rfl, hb⟩ := hrel
            have HQ2 := Lib.hid hq
            have HB := Lib.hid hb
            clear hq hb
            have hst := stayN_le f t
            by_cases htn : t < n
            · have hti : (t : Int) + 1 ≤ n := by omega
              have htt : ((t : Int) + 1 - 1).toNat = t := by omega
              have hlo := HF.out.lo _ htn
              have hhi := HF.out.hi _ htn
              have hlo' : (49 : Int) ≤ f t := by omega
              have hhi' : (f t : Int) ≤ 56 := by omega
              by_cases hfix : f t = 49 + t
              · have hfx : ((f t : Int) - 48 == (t : Int) + 1) = true := by simp; omega
                go_wp2
                go_roundg (n - (t + 1))
                case measure => have := HQ2.out; omega
                case rel => exact ⟨t + 1, by omega, by have := HQ2.out; omega, by go_num, by rw [show stayN f (t + 1) = stayN f t + 1 from by simp [stayN, sumN, hfix]]; go_num, HB.out⟩
              · have hfx : ((f t : Int) - 48 == (t : Int) + 1) = false := by simp; omega
                go_wp2
                go_roundg (n - (t + 1))
                case measure => have := HQ2.out; omega
                case rel => exact ⟨t + 1, by omega, by have := HQ2.out; omega, by go_num, by rw [show stayN f (t + 1) = stayN f t from by simp [stayN, sumN, hfix]], HB.out⟩
            · obtain rfl : t = n := by omega
              have hsum : (offL (fun i => (F i).length) j : Int) + (stayN f t : Int) = t := by have := HSE.out.1; omega
              have hev : ev = decide ((offL (fun i => (F i).length - 1) j : Int) % 2 = 0) := by
                rw [HSE.out.2]
                unfold evenB
                by_cases q : offL (fun i => (F i).length - 1) j % 2 = 0
                · have q2 : (offL (fun i => (F i).length - 1) j : Int) % 2 = 0 := by omega
                  simp [q, q2]
                · have q2 : ¬ (offL (fun i => (F i).length - 1) j : Int) % 2 = 0 := by omega
                  simp [q, q2]
              generalize offL (fun i => (F i).length) j = mvn at *
              generalize offL (fun i => (F i).length - 1) j = swn at *
              clear HSE HSE1 HSE2
              rcases Classical.em ((swn : Int) % 2 = 0) with hpar | hpar
              all_goals
                first
                | (have hev' : ev = true := by rw [hev]; simp [hpar])
                | (have hev' : ev = false := by rw [hev]; simp [hpar])
                clear hev
                subst hev'
                go_wp2_with fail
                refine (DrawRowOf_any a2 l2 c2 z2 _ (HZ2.out.below HB.out) HL2.out).mono ?_
                rintro e w5 ⟨n2, k2, hk1, hk2, rfl, hbx⟩
                have HB5 := Lib.hid (HB.out.trans (hbx.mono HB.out.size))
                clear hbx HB
                go_wp2_with fail
                refine (iRowOf_fn n2 k2 _).mono ?_
                rintro e w6 ⟨rfl, hbx⟩
                have HB6 := Lib.hid (HB5.out.trans (hbx.mono HB5.out.size))
                clear hbx HB5
                go_wp2_with fail
                refine (sRowOf_fn n2 k2 _).mono ?_
                rintro e w7 ⟨rfl, hbx⟩
                have HB7 := Lib.hid (HB6.out.trans (hbx.mono HB6.out.size))
                clear hbx HB6
                cases hT : rkB n2 k2
                · go_wp2
                  go_ret
                  exact ⟨rfl, HB7.out⟩
                · have HT := Lib.hid hT
                  clear hT
                  go_wp2_with fail
                  refine (iPlaceOfRow_rk n2 k2 HT.out _).mono ?_
                  rintro e w8 ⟨rfl, hbx⟩
                  have HB8 := Lib.hid (HB7.out.trans (hbx.mono HB7.out.size))
                  clear hbx HB7
                  go_wp2_with fail
                  refine (iRowOf_fn n2 (k2 + 1) _).mono ?_
                  rintro e w9 ⟨rfl, hbx⟩
                  have HB9 := Lib.hid (HB8.out.trans (hbx.mono HB8.out.size))
                  clear hbx HB8
                  cases hT2 : rkB n2 (k2 + 1)
                  · go_wp2
                    go_ret
                    exact ⟨rfl, HB9.out⟩
                  · have hless := rkS_less n2 k2 HT.out hT2
                    go_wp2
                    go_ret
                    exact ⟨rfl, HB9.out⟩
end Go.Proofs.Ytnildepdpkbekaa
