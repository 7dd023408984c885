/- The law FnOrbits. -/
import Derived.Test.YtapcfojnljnoaaaGreatLO
import Derived.Test.YtapcfojnljnoaaaGreatLJ
import Derived.Test.YtapcfojnljnoaaaGreatW4
import Derived.Test.YtapcfojnljnoaaaGreatSI
import Derived.Test.YtapcfojnljnoaaaGreatSU
namespace Go.Proofs.YtapcfojnljnoaaaGreat
open Go.RowKit
set_option linter.unusedSimpArgs false
set_option linter.unusedVariables false

theorem Txts.rowsAt6 {n : Nat} {W : World} {a : Option Addr} {m cap : Nat} {fs : List (Nat → Nat)} (h : Txts W (.slice a m cap) (rowsL n fs)) :
    m = fs.length ∧ (0 < fs.length → ∃ g off, a = some ⟨g, off, none⟩ ∧ g < W.heap.size ∧ ∀ j (hj : j < fs.length), W.cell? ⟨g, off + j, none⟩ = some (.string (strOf n fs[j]))) := by
  obtain ⟨a', cap', e, hcap, ha⟩ := h
  injection e with e1 e2 e3
  subst e1 e3
  rw [rowsL_len] at e2 ha
  refine ⟨e2, fun h0 => ?_⟩
  obtain ⟨g, off, e, hg, hcc⟩ := ha h0
  refine ⟨g, off, e, hg, fun j hj => ?_⟩
  rw [hcc j hj, rowsL, List.getD_eq_getElem?_getD, List.getElem?_map, List.getElem?_eq_getElem hj, Option.map_some, Option.getD_some, txt_rowL]
theorem orL_small (N : Int) (L : List (List Nat)) : (orL N L).length ≤ 8 ∧ ∀ i, (lkN (orL N L) i).length ≤ 8 := by
  by_cases h : orB N L = true
  · obtain ⟨n, fs, o, hF, e, -⟩ := orbitF h
    rw [e]
    have h8 := hF.eight
    have hol := hF.olen
    refine ⟨by omega, fun i => ?_⟩
    unfold lkN numsV
    rw [List.length_map]
    by_cases hi : i < o.length
    · rw [List.getD_eq_getElem?_getD, List.getElem?_eq_getElem hi, Option.getD_some]
      have := (hF.pos i hi).2
      omega
    · rw [List.getD_eq_getElem?_getD, List.getElem?_eq_none (by omega), Option.getD_none]
      simp
  · rw [orL_no (by simpa using h)]
    exact ⟨by simp, fun i => by simp [lkN, numsV]⟩
theorem lkN_at {o : List (List Nat)} {j : Nat} (h : j < o.length) : lkN o j = numsV o[j] := by
  unfold lkN
  rw [List.getD_eq_getElem?_getD, List.getElem?_eq_getElem h, Option.getD_some]
theorem sumLen_le (o : List (List Nat)) (j : Nat) : sumLen (o.take j) ≤ sumLen o := by
  unfold sumLen
  have : (o.map List.length).sum = ((o.take j).map List.length).sum + ((o.drop j).map List.length).sum := by
    conv => lhs; rw [← List.take_append_drop j o]
    rw [List.map_append, List.sum_append]
  omega
theorem numsV_mem {l : List Nat} {x : Nat} : ((x : Int) ∈ numsV l) ↔ x ∈ l := by
  unfold numsV
  rw [List.mem_map]
  constructor
  · rintro ⟨y, hy, e⟩
    have : y = x := by omega
    exact this ▸ hy
  · intro h
    exact ⟨x, h, rfl⟩

set_option maxRecDepth 100000 in
set_option maxHeartbeats 1000000 in
theorem has_any6 (v : Value) (xs : List Int) (k : Int) (w : World) (h : Own w 3 v (ints xs)) (hb : xs.length ≤ 1000000) :
    Calls Tryz.prog 9 #[v, .int .i64 k] w fun e w' => e = .returned (.bool (decide (k ∈ xs))) ∧ w = w' := by
  obtain ⟨n, hn⟩ : ∃ n, xs.length = n := ⟨_, rfl⟩
  obtain ⟨a, cap, rfl, ha⟩ := h.viewI hn
  rw [hn] at hb
  have HO := Lib.hid h
  have HA := Lib.hid ha
  have HN := Lib.hid hn
  clear h ha hn
  obtain ⟨res, hres⟩ : ∃ r, decide (k ∈ xs) = r := ⟨_, rfl⟩
  rw [hres]
  have HRES := Lib.hid hres
  clear hres
  go_enter Tryz.func9, Tryz.ntmps9
  go_wp2
  go_loopg [6, 9] n (fun q _ i wr => ∃ j : Nat, j ≤ n ∧ q + j = n ∧ i = .int .i64 j ∧ (∀ t, t < j → xs.getD t 0 ≠ k) ∧ wr = w)
  case atStart => exact ⟨0, Nat.zero_le _, rfl, rfl, fun t h => by omega, rfl⟩
  case round =>
    obtain ⟨j, hj, hq, rfl, hno, rfl⟩ := hrel
    have HQ := Lib.hid hq
    have HNO := Lib.hid hno
    clear hq hno
    by_cases hlt : j < n
    · obtain ⟨g, rfl⟩ := HA.out (by omega)
      have c1 := HO.out.cell j _ (ints_at xs j (by rw [HN.out]; exact hlt))
      have hki : (j : Int) < n := by omega
      have hgd : xs.getD j 0 = xs[j]'(by rw [HN.out]; exact hlt) := by
        rw [List.getD_eq_getElem?_getD, List.getElem?_eq_getElem (by rw [HN.out]; exact hlt)]; rfl
      have hmem : xs[j]'(by rw [HN.out]; exact hlt) ∈ xs := List.getElem_mem _
      generalize xs[j]'(by rw [HN.out]; exact hlt) = x at c1 hgd hmem
      by_cases hx : x = k
      · have HR : Hid (true = res) := Lib.hid (by rw [← HRES.out]; simpa [hx] using hmem)
        clear hmem hgd
        subst hx
        go_wp2
        go_ret
        exact ⟨by rw [← HR.out]; rfl, rfl⟩
      · have q1 : (x == k) = false := by rw [beq_eq_false_iff_ne]; exact hx
        have HN2 : Hid (∀ t, t < j + 1 → xs.getD t 0 ≠ k) := Lib.hid (fun t ht => by
          by_cases h9 : t = j
          · rw [h9, hgd]; exact hx
          · exact HNO.out t (by omega))
        clear hmem hgd
        go_wp2
        go_roundg (n - (j + 1))
        case measure => have := HQ.out; omega
        case rel => exact ⟨j + 1, by omega, by have := HQ.out; omega, by go_num, HN2.out, rfl⟩
    · obtain rfl : j = n := by omega
      have HR : Hid (false = res) := Lib.hid (by
        rw [← HRES.out]
        symm
        rw [decide_eq_false_iff_not]
        intro hm
        obtain ⟨t, ht, he⟩ := List.getElem_of_mem hm
        have h1 := HNO.out t (by rw [HN.out] at ht; exact ht)
        rw [List.getD_eq_getElem?_getD, List.getElem?_eq_getElem ht] at h1
        exact h1 (by simpa using he))
      go_wp2
      go_ret
      exact ⟨by rw [← HR.out]; rfl, rfl⟩

set_option maxRecDepth 100000 in
set_option maxHeartbeats 16000000 in
theorem lawOrbits (a1 : Option Addr) (l1 c1 : Nat) (z1 : List Int) (a2 : Option Addr) (l2 c2 : Nat) (z2 : List Int) (w : World) (hz1 : IsBytes w a1 l1 c1 z1) (hz2 : IsBytes w a2 l2 c2 z2) :
    Calls Tryz.prog 3 #[.slice a1 l1 c1, .slice a2 l2 c2] w fun e w' => e = .returned (.bool true) ∧ Below w.heap.size w w' := by
  have HZ1 := Lib.hid hz1
  have HZ2 := Lib.hid hz2
  clear hz1 hz2
  go_enter Tryz.func3, Tryz.ntmps3
  go_wp2_with fail
  refine (big_any a1 a2 l1 l2 c1 c2 HZ1.out.lenW HZ2.out.lenW _).mono ?_
  rintro e w0 ⟨rfl, rfl⟩
  by_cases hbig : 1048576 < l1 + l2
  · rw [decide_eq_true hbig]
    go_wp2
    go_ret
    exact ⟨rfl, Below.refl _ _⟩
  · rw [decide_eq_false hbig]
    have HL1 := Lib.hid (show l1 ≤ 1048576 by omega)
    have HL2 := Lib.hid (show l2 ≤ 1048576 by omega)
    clear hbig
    go_wp2_with fail
    refine (DrawOrbitsOf_any a1 l1 c1 z1 _ HZ1.out HL1.out).mono ?_
    rintro e w1 ⟨L, v, N, hl2, hsm8, hN3, hN6, rfl, hn, hb1⟩
    have hsm : ∀ l ∈ L, l.length ≤ maxLen := fun l hl => by have := hsm8 l hl; unfold maxLen; omega
    have HI := Lib.hid (fun u w h => iOrbitsOf_any u L (N : Int) w h (by omega) hsm)
    have HS := Lib.hid (fun u w h => sOrbitsOf_any u L (N : Int) w h (by omega) hsm)
    have HCR := Lib.hid (fun u w h => iCloseRows_any u L w h (by omega) hsm)
    unfold ListsN at HI HS
    unfold TextsAny at HCR
    have HOF := fun h => orbitF (L := L) (N := (N : Int)) h
    have hol := orL_small (N : Int) L
    have HT := Lib.hid hn.own.txts
    have HB1 := Lib.hid hb1
    obtain ⟨va, vc, rfl, -⟩ := hn.own.view
    obtain ⟨k, hk⟩ : ∃ k, L.length = k := ⟨_, rfl⟩
    rw [strs_len, hk] at HT ⊢
    generalize orL (N : Int) L = o at *
    generalize orB (N : Int) L = ok at *
    have HK := Lib.hid hk
    have HOL := Lib.hid hol
    have HF := Lib.hid HOF
    have hk2 : (k : Int) ≤ 2 := by omega
    clear hn hb1 hsm8 hsm HOF hol hk HZ1 HL1 hl2
    cases ok
    · go_wp2_with fail
      refine (HI.out _ _ HT.out).mono ?_
      rintro e w2 ⟨v2, vs2, rfl, hn2, hb2⟩
      have HB2 := Lib.hid (HB1.out.trans (hb2.mono HB1.out.size))
      have HT2 := Lib.hid (HT.out.kept hb2)
      have H2 := Lib.hid hn2
      obtain ⟨ol, hol⟩ : ∃ k, o.length = k := ⟨_, rfl⟩
      obtain ⟨va2, vc2, rfl, hva⟩ := hn2.view
      rw [hol] at H2 hva ⊢
      have HVA := Lib.hid hva
      have HOE := Lib.hid hol
      clear hn2 hb2 HB1 HT HI hol hva
      go_wp2_with fail
      refine (HS.out _ _ HT2.out).mono ?_
      rintro e w3 ⟨v3, vs3, rfl, hn3, hb3⟩
      have HB3 := Lib.hid (HB2.out.trans (hb3.mono HB2.out.size))
      have HT3 := Lib.hid (HT2.out.kept hb3)
      have H3 := Lib.hid (H2.out.kept hb3)
      rw [HOE.out] at hn3
      have K3 := Lib.hid hn3
      clear hn3 hb3 HB2 HT2 H2 HS
      go_wp2_with fail
      refine (sameLists_same _ _ _ _ _ _ ol (lkN o) _ H3.out K3.out (by have := HOL.out.1; rw [HOE.out] at this; omega) (fun i _ => by have := HOL.out.2 i; omega)).mono ?_
      rintro e w4 ⟨rfl, d4, hd4⟩
      have hb4 : Below w3.heap.size w3 w4 := by rw [hd4]; exact below_drewN (Below.refl _ _) d4
      have HB4 := Lib.hid (HB3.out.trans (hb4.mono HB3.out.size))
      have HT4 := Lib.hid (HT3.out.kept hb4)
      have H4 := Lib.hid (H3.out.kept hb4)
      clear hd4 hb4 HB3 HT3 H3 K3
      have HB := HB4
      clear HT4 H4 HB4 HF HOL HOE HK HVA HCR
      go_wp2_with fail
      refine (DrawSortRows_any a2 l2 c2 z2 _ (HZ2.out.belowW HB.out) HL2.out).mono ?_
      rintro e y1 ⟨R, rv, r7, rs, rfl, rn, yb1⟩
      have hrx : ∀ l ∈ R, l.length ≤ maxLen := fun l hl => by have := rs l hl; unfold maxLen; omega
      obtain ⟨P, pb, hP, pi, ps⟩ := bothSortRows R (by omega) hrx
      have PI := Lib.hid pi
      have PS := Lib.hid ps
      unfold TextsAny at PI PS
      have YB1 := Lib.hid (HB.out.trans (yb1.mono HB.out.size))
      have R1 := Lib.hid rn.own.txts
      clear rn yb1 r7 rs hrx HB pi ps
      go_wp2_with fail
      refine (PI.out _ _ R1.out).mono ?_
      rintro e y2 ⟨p2, rfl, pn2, yb2⟩
      have YB2 := Lib.hid (YB1.out.trans (yb2.mono YB1.out.size))
      have R2 := Lib.hid (R1.out.kept yb2)
      have P2 := Lib.hid pn2.own
      clear yb2 pn2 YB1 R1 PI
      go_wp2_with fail
      refine (PS.out _ _ R2.out).mono ?_
      rintro e y3 ⟨p3, rfl, pn3, yb3⟩
      have YB3 := Lib.hid (YB2.out.trans (yb3.mono YB2.out.size))
      have P3 := Lib.hid (P2.out.kept yb3)
      have Q3 := Lib.hid pn3.own
      clear yb3 pn3 YB2 R2 P2 PS
      go_wp2_with fail
      refine (DrawLeftTimes_any a2 l2 c2 z2 _ (HZ2.out.belowW YB3.out) HL2.out).mono ?_
      rintro e y4 ⟨t, T, tv, t10, t6, ts, rfl, tn, yb4⟩
      have htx : ∀ l ∈ T, l.length ≤ maxLen := fun l hl => by have := ts l hl; unfold maxLen; omega
      obtain ⟨D, db, hD, di, ds⟩ := bothLeftTimes t T (by unfold maxLen; omega) (by omega) htx
      have DI := Lib.hid di
      have DS := Lib.hid ds
      unfold TextsAny at DI DS
      have YB4 := Lib.hid (YB3.out.trans (yb4.mono YB3.out.size))
      have P4 := Lib.hid (P3.out.kept yb4)
      have Q4 := Lib.hid (Q3.out.kept yb4)
      have T4 := Lib.hid tn.own.txts
      clear tn yb4 t10 t6 ts htx YB3 P3 Q3 di ds
      go_wp2_with fail
      refine (DI.out _ _ T4.out).mono ?_
      rintro e y5 ⟨d5, rfl, dn5, yb5⟩
      have YB5 := Lib.hid (YB4.out.trans (yb5.mono YB4.out.size))
      have P5 := Lib.hid (P4.out.kept yb5)
      have Q5 := Lib.hid (Q4.out.kept yb5)
      have T5 := Lib.hid (T4.out.kept yb5)
      have D5 := Lib.hid dn5.own
      clear yb5 dn5 YB4 P4 Q4 T4 DI
      go_wp2_with fail
      refine (DS.out _ _ T5.out).mono ?_
      rintro e y6 ⟨d6, rfl, dn6, yb6⟩
      have YB6 := Lib.hid (YB5.out.trans (yb6.mono YB5.out.size))
      have P6 := Lib.hid (P5.out.kept yb6)
      have Q6 := Lib.hid (Q5.out.kept yb6)
      have D6 := Lib.hid (D5.out.kept yb6)
      have E6 := Lib.hid dn6.own
      clear yb6 dn6 YB5 P5 Q5 T5 D5 DS
      cases pb
      all_goals cases db
      all_goals
        go_wp2_with fail
        refine (sameTexts_same _ _ P _ P6.out Q6.out (by omega)).mono ?_
        rintro e y7 ⟨rfl, x7, hx7⟩
        have yb7 : Below y6.heap.size y6 y7 := by rw [hx7]; exact below_drewN (Below.refl _ _) x7
        have YB7 := Lib.hid (YB6.out.trans (yb7.mono YB6.out.size))
        have D7 := Lib.hid (D6.out.kept yb7)
        have E7 := Lib.hid (E6.out.kept yb7)
        clear hx7 yb7 P6 Q6 D6 E6 YB6
        go_wp2_with fail
        refine (sameTexts_same _ _ D _ D7.out E7.out (by omega)).mono ?_
        rintro e y8 ⟨rfl, x8, hx8⟩
        have yb8 : Below y7.heap.size y7 y8 := by rw [hx8]; exact below_drewN (Below.refl _ _) x8
        have YB8 := Lib.hid (YB7.out.trans (yb8.mono YB7.out.size))
        clear hx8 yb8 D7 E7 YB7
        go_wp2
        go_ret
        exact ⟨by first | rfl | trivial, YB8.out⟩
    · obtain ⟨n, fs, o', hF, rfl, hN⟩ := HF.out rfl
      obtain rfl : N = n := by omega
      clear hN
      go_wp2_with fail
      refine (HI.out _ _ HT.out).mono ?_
      rintro e w2 ⟨v2, vs2, rfl, hn2, hb2⟩
      have HB2 := Lib.hid (HB1.out.trans (hb2.mono HB1.out.size))
      have HT2 := Lib.hid (HT.out.kept hb2)
      have H2 := Lib.hid hn2
      obtain ⟨ol, hol⟩ : ∃ k, o.length = k := ⟨_, rfl⟩
      obtain ⟨va2, vc2, rfl, hva⟩ := hn2.view
      rw [hol] at H2 hva ⊢
      have HVA := Lib.hid hva
      have HOE := Lib.hid hol
      clear hn2 hb2 HB1 HT HI hol hva
      go_wp2_with fail
      refine (HS.out _ _ HT2.out).mono ?_
      rintro e w3 ⟨v3, vs3, rfl, hn3, hb3⟩
      have HB3 := Lib.hid (HB2.out.trans (hb3.mono HB2.out.size))
      have HT3 := Lib.hid (HT2.out.kept hb3)
      have H3 := Lib.hid (H2.out.kept hb3)
      rw [HOE.out] at hn3
      have K3 := Lib.hid hn3
      clear hn3 hb3 HB2 HT2 H2 HS
      go_wp2_with fail
      refine (sameLists_same _ _ _ _ _ _ ol (lkN o) _ H3.out K3.out (by have := HOL.out.1; rw [HOE.out] at this; omega) (fun i _ => by have := HOL.out.2 i; omega)).mono ?_
      rintro e w4 ⟨rfl, d4, hd4⟩
      have hb4 : Below w3.heap.size w3 w4 := by rw [hd4]; exact below_drewN (Below.refl _ _) d4
      have HB4 := Lib.hid (HB3.out.trans (hb4.mono HB3.out.size))
      have HT4 := Lib.hid (HT3.out.kept hb4)
      have H4 := Lib.hid (H3.out.kept hb4)
      clear hd4 hb4 HB3 HT3 H3 K3
      have HFF := Lib.hid hF
      have h3n := hF.three
      have h8n := hF.eight
      have HFL : Hid (fs.length = k) := Lib.hid (by rw [hF.len]; exact HK.out)
      have HRA := Lib.hid (hF.txts _ _ HT4.out).rowsAt6
      have HSUM := Lib.hid hF.sum
      have hol8 : ol ≤ 8 := by have := HOL.out.1; rw [HOE.out] at this; exact this
      have holi : (ol : Int) ≤ 8 := by omega
      clear hF HF
      go_wp2
      go_loopg [11, 65] ol (fun q mt x wr => ∃ j : Nat, q + j = ol ∧ x = .int .i64 j ∧ mt = .int .i64 (sumLen (o.take j) : Nat) ∧ Below w4.heap.size w4 wr)
      case atStart => exact ⟨0, by omega, rfl, rfl, by first | exact Below.refl _ _ | exact below_drewN (Below.refl _ _) _⟩
      case round =>
        obtain ⟨j, hq, rfl, rfl, hbj⟩ := hrel
        have HBJ := Lib.hid hbj
        by_cases hlt : j < ol
        · have hji : (j : Int) < (ol : Int) := by omega
          have hjo : j < o.length := by rw [HOE.out]; exact hlt
          obtain ⟨m, hm⟩ : ∃ m, o[j].length = m := ⟨_, rfl⟩
          have hmp := HFF.out.pos j hjo
          rw [hm] at hmp
          have hml : (lkN o j).length = m := by rw [lkN_at hjo, ← hm]; simp [numsV]
          have hin := H4.out.inner j hlt
          obtain ⟨ai, ci, hvi, hai⟩ := hin.viewI hml
          obtain ⟨g2, hg2⟩ := HVA.out (by omega)
          subst hg2
          have cj := (H4.out.kept hbj).outer.cell j _ (H4.out.at j hlt)
          rw [hvi] at cj hin
          obtain ⟨gi, rfl⟩ := hai (by omega)
          have HIN := Lib.hid hin
          have hst := sumLen_take hjo
          rw [hm] at hst
          have hsl := sumLen_le o (j + 1)
          rw [HSUM.out, hst] at hsl
          obtain ⟨s1, hs1⟩ : ∃ s, sumLen (o.take j) = s := ⟨_, rfl⟩
          rw [hs1] at hst hsl ⊢
          have hws : IntKind.i64.wrap ((s1 : Int) + (m : Int)) = (s1 : Int) + (m : Int) := Go.IntWalk.i64_in _ ⟨by omega, by omega⟩
          have HST : Hid (((s1 : Int) + (m : Int)) = ((sumLen (o.take (j + 1)) : Nat) : Int)) := Lib.hid (by rw [hst]; simp)
          have HMM := Lib.hid hml
          have hmi : (m : Int) ≤ 8 := by omega
          have HRNG := Lib.hid (fun p (hp : p < o[j].length) => HFF.out.rng j hjo _ (List.getElem_mem hp))
          have HCLD := Lib.hid (fun p (hp : p < o[j].length) f hf => HFF.out.closed j hjo _ (List.getElem_mem hp) f hf)
          have HLK := Lib.hid (lkN_at hjo)
          have HMO := Lib.hid hm
          clear hbj hm hml hin hvi hai hst hsl hs1
          go_wp2
          go_loopg [75] k (fun q x wx => ∃ i : Nat, q + i = k ∧ x = .int .i64 i ∧ Below w4.heap.size w4 wx)
          case atStart => exact ⟨0, by omega, rfl, by first | exact HBJ.out | exact below_drewN HBJ.out _⟩
          case round =>
            clear HBJ
            obtain ⟨i, hqi, rfl, hbi⟩ := hrel
            have HBI := Lib.hid hbi
            by_cases hlti : i < k
            · have hii : (i : Int) < (k : Int) := by omega
              have hif : i < fs.length := by rw [HFL.out]; exact hlti
              obtain ⟨gb, off, hga, hgb, hcc⟩ := HRA.out.2 (by omega)
              subst hga
              have cr := (hbi.cell (p := ⟨gb, off + i, none⟩) hgb).trans (hcc i hif)
              have hfr := HFF.out.rows _ (List.getElem_mem hif)
              have hCL := fun p hp => HCLD.out p hp fs[i] (List.getElem_mem hif)
              have hstr := isStr_row hfr
              generalize fs[i] = f at *
              generalize strOf N f = X at *
              obtain ⟨hsz, hat⟩ := hstr
              have HFR := Lib.hid hfr
              have HCL2 := Lib.hid hCL
              clear hbi hcc hgb hif hfr hCL
              go_wp2
              go_loopg [81] m (fun q x wy => ∃ p : Nat, q + p = m ∧ x = .int .i64 p ∧ Below w4.heap.size w4 wy)
              case atStart => exact ⟨0, by omega, rfl, by first | exact HBI.out | exact below_drewN HBI.out _⟩
              case round =>
                clear HBI
                obtain ⟨p, hqp, rfl, hbp⟩ := hrel
                have HBP := Lib.hid hbp
                by_cases hltp : p < m
                · have hpi : (p : Int) < (m : Int) := by omega
                  have hpo : p < o[j].length := by rw [HMO.out]; exact hltp
                  have hI := HIN.out.kept hbp
                  have cp := hI.cell p _ (ints_at (lkN o j) p (by rw [HMM.out]; exact hltp))
                  have hlk : (lkN o j)[p]'(by rw [HMM.out]; exact hltp) = ((o[j][p] : Nat) : Int) := by simp [HLK.out, numsV]
                  rw [hlk] at cp
                  obtain ⟨r1, r2⟩ := HRNG.out p hpo
                  have hcl := HCL2.out p hpo
                  have hmem : ((act f o[j][p] : Nat) : Int) ∈ lkN o j := by rw [HLK.out]; exact numsV_mem.2 hcl
                  obtain ⟨t, ht⟩ : ∃ t, o[j][p] = t + 1 := ⟨o[j][p] - 1, by omega⟩
                  rw [ht] at cp r2 hmem
                  have htN : t < N := by omega
                  have hlo0 := HFR.out.lo t htN
                  have hhi0 := HFR.out.hi t htN
                  have hact : ((act f (t + 1) : Nat) : Int) = (f t : Int) - 48 := by unfold act; rw [Nat.add_sub_cancel]; omega
                  rw [hact] at hmem
                  have hlo : (49 : Int) ≤ f t := by omega
                  have hhi : (f t : Int) < 256 := by omega
                  have hcast : (((t + 1 : Nat) : Int)) = (t : Int) + 1 := by omega
                  rw [hcast] at cp
                  have hti : (t : Int) + 1 ≤ (N : Int) := by omega
                  have hhas : Calls Tryz.prog 9 #[.slice (some ⟨gi, 0, none⟩) m ci, .int .i64 ((f t : Int) - 48)] wr fun e w' => e = .returned (.bool true) ∧ wr = w' := (has_any6 _ (lkN o j) ((f t : Int) - 48) wr hI (by rw [HMM.out]; omega)).mono fun e w' h => ⟨by rw [h.1, decide_eq_true hmem], h.2⟩
                  have HHAS := Lib.hid hhas
                  have hatt := hat t (by omega)
                  clear hhas hcast hI hlk hbp hmem hact hcl ht
                  go_wp2_with fail
                  refine HHAS.out.mono ?_
                  rintro e w9 ⟨rfl, rfl⟩
                  go_wp2
                  go_roundg (m - (p + 1))
                  case measure => omega
                  case rel => exact ⟨p + 1, by omega, by go_num, by first | exact HBP.out | exact below_drewN HBP.out _⟩
                · obtain rfl : p = m := by omega
                  have hpi : ¬ (p : Int) < (p : Int) := by omega
                  clear hbp
                  go_wp2
                  go_roundg (k - (i + 1))
                  case measure => omega
                  case rel => exact ⟨i + 1, by omega, by go_num, HBP.out⟩
            · obtain rfl : i = k := by omega
              have hii : ¬ (i : Int) < (i : Int) := by omega
              clear hbi
              go_wp2
              go_roundg (ol - (j + 1))
              case measure => omega
              case rel => exact ⟨j + 1, by omega, by go_num, by rw [HST.out], HBI.out⟩
        · obtain rfl : ol = j := by omega
          have hji : ¬ (ol : Int) < (ol : Int) := by omega
          have hall : sumLen (o.take ol) = N := by rw [List.take_of_length_le (by rw [HOE.out]; exact Nat.le_refl _)]; exact HSUM.out
          rw [hall]
          have hnn : ((N : Int) != (N : Int)) = false := by simp
          have HB5 := Lib.hid (HB4.out.trans (hbj.mono HB4.out.size))
          have HT5 := Lib.hid (HT4.out.kept hbj)
          have H5 := Lib.hid (H4.out.kept hbj)
          clear hbj hall HBJ HT4 H4 HRA HSUM
          go_wp2_with fail
          refine (HCR.out _ _ HT5.out).mono ?_
          rintro e w6 ⟨v6, rfl, hn6, hb6⟩
          have HB6 := Lib.hid (HB5.out.trans (hb6.mono HB5.out.size))
          have H6 := Lib.hid (H5.out.kept hb6)
          have hdv := fun h j' (hj' : j' < o.length) => HFF.out.div h j' hj'
          obtain ⟨cl, hcl⟩ : ∃ k, (clL L).length = k := ⟨_, rfl⟩
          obtain ⟨va6, vc6, rfl, -⟩ := hn6.own.view
          rw [strs_len, hcl]
          rw [hcl] at hdv
          have hclb : cl ≤ 1000 := by rw [← hcl]; exact clL_len L
          generalize clB L = cb at *
          have HDV := Lib.hid hdv
          clear hn6 hb6 HB5 HT5 H5 HCR hdv hcl
          cases cb
          · go_wp2
            go_loopg [117] ol (fun q x wx => ∃ j : Nat, q + j = ol ∧ x = .int .i64 j ∧ Below w6.heap.size w6 wx)
            case atStart => exact ⟨0, by omega, by first | rfl | trivial, Below.refl _ _⟩
            case round =>
              obtain ⟨j, hq, rfl, hbj⟩ := hrel
              have HBJ := Lib.hid hbj
              by_cases hlt : j < ol
              · have hji : (j : Int) < (ol : Int) := by omega
                have hjo : j < o.length := by rw [HOE.out]; exact hlt
                obtain ⟨m, hm⟩ : ∃ m, o[j].length = m := ⟨_, rfl⟩
                have hmp := HFF.out.pos j hjo
                rw [hm] at hmp
                have hml : (lkN o j).length = m := by rw [lkN_at hjo, ← hm]; simp [numsV]
                have hin := H6.out.inner j hlt
                obtain ⟨ai, ci, hvi, -⟩ := hin.viewI hml
                obtain ⟨g2, hg2⟩ := HVA.out (by omega)
                subst hg2
                have cj := (H6.out.kept hbj).outer.cell j _ (H6.out.at j hlt)
                rw [hvi] at cj
                clear hbj hm hml hin hvi
                have h00 : ((0 : Int) != 0) = false := by simp
                have hm1 : ((m : Int) == 0) = false := by rw [beq_eq_false_iff_ne]; omega
                have hm2 : ¬ ((m : Int) = 0) := by omega
                go_wp2
                go_roundg (ol - (j + 1))
                case measure => omega
                case rel => exact ⟨j + 1, by omega, by go_num, by first | exact HBJ.out | exact below_drewN HBJ.out _⟩
              · obtain rfl : j = ol := by omega
                have hji : ¬ (j : Int) < (j : Int) := by omega
                have HB := Lib.hid (HB6.out.trans (HBJ.out.mono HB6.out.size))
                clear hbj HBJ H6 HFF HOE HVA HOL HK HDV
                go_wp2_with fail
                refine (DrawSortRows_any a2 l2 c2 z2 _ (HZ2.out.belowW HB.out) HL2.out).mono ?_
                rintro e y1 ⟨R, rv, r7, rs, rfl, rn, yb1⟩
                have hrx : ∀ l ∈ R, l.length ≤ maxLen := fun l hl => by have := rs l hl; unfold maxLen; omega
                obtain ⟨P, pb, hP, pi, ps⟩ := bothSortRows R (by omega) hrx
                have PI := Lib.hid pi
                have PS := Lib.hid ps
                unfold TextsAny at PI PS
                have YB1 := Lib.hid (HB.out.trans (yb1.mono HB.out.size))
                have R1 := Lib.hid rn.own.txts
                clear rn yb1 r7 rs hrx HB pi ps
                go_wp2_with fail
                refine (PI.out _ _ R1.out).mono ?_
                rintro e y2 ⟨p2, rfl, pn2, yb2⟩
                have YB2 := Lib.hid (YB1.out.trans (yb2.mono YB1.out.size))
                have R2 := Lib.hid (R1.out.kept yb2)
                have P2 := Lib.hid pn2.own
                clear yb2 pn2 YB1 R1 PI
                go_wp2_with fail
                refine (PS.out _ _ R2.out).mono ?_
                rintro e y3 ⟨p3, rfl, pn3, yb3⟩
                have YB3 := Lib.hid (YB2.out.trans (yb3.mono YB2.out.size))
                have P3 := Lib.hid (P2.out.kept yb3)
                have Q3 := Lib.hid pn3.own
                clear yb3 pn3 YB2 R2 P2 PS
                go_wp2_with fail
                refine (DrawLeftTimes_any a2 l2 c2 z2 _ (HZ2.out.belowW YB3.out) HL2.out).mono ?_
                rintro e y4 ⟨t, T, tv, t10, t6, ts, rfl, tn, yb4⟩
                have htx : ∀ l ∈ T, l.length ≤ maxLen := fun l hl => by have := ts l hl; unfold maxLen; omega
                obtain ⟨D, db, hD, di, ds⟩ := bothLeftTimes t T (by unfold maxLen; omega) (by omega) htx
                have DI := Lib.hid di
                have DS := Lib.hid ds
                unfold TextsAny at DI DS
                have YB4 := Lib.hid (YB3.out.trans (yb4.mono YB3.out.size))
                have P4 := Lib.hid (P3.out.kept yb4)
                have Q4 := Lib.hid (Q3.out.kept yb4)
                have T4 := Lib.hid tn.own.txts
                clear tn yb4 t10 t6 ts htx YB3 P3 Q3 di ds
                go_wp2_with fail
                refine (DI.out _ _ T4.out).mono ?_
                rintro e y5 ⟨d5, rfl, dn5, yb5⟩
                have YB5 := Lib.hid (YB4.out.trans (yb5.mono YB4.out.size))
                have P5 := Lib.hid (P4.out.kept yb5)
                have Q5 := Lib.hid (Q4.out.kept yb5)
                have T5 := Lib.hid (T4.out.kept yb5)
                have D5 := Lib.hid dn5.own
                clear yb5 dn5 YB4 P4 Q4 T4 DI
                go_wp2_with fail
                refine (DS.out _ _ T5.out).mono ?_
                rintro e y6 ⟨d6, rfl, dn6, yb6⟩
                have YB6 := Lib.hid (YB5.out.trans (yb6.mono YB5.out.size))
                have P6 := Lib.hid (P5.out.kept yb6)
                have Q6 := Lib.hid (Q5.out.kept yb6)
                have D6 := Lib.hid (D5.out.kept yb6)
                have E6 := Lib.hid dn6.own
                clear yb6 dn6 YB5 P5 Q5 T5 D5 DS
                cases pb
                all_goals cases db
                all_goals
                  go_wp2_with fail
                  refine (sameTexts_same _ _ P _ P6.out Q6.out (by omega)).mono ?_
                  rintro e y7 ⟨rfl, x7, hx7⟩
                  have yb7 : Below y6.heap.size y6 y7 := by rw [hx7]; exact below_drewN (Below.refl _ _) x7
                  have YB7 := Lib.hid (YB6.out.trans (yb7.mono YB6.out.size))
                  have D7 := Lib.hid (D6.out.kept yb7)
                  have E7 := Lib.hid (E6.out.kept yb7)
                  clear hx7 yb7 P6 Q6 D6 E6 YB6
                  go_wp2_with fail
                  refine (sameTexts_same _ _ D _ D7.out E7.out (by omega)).mono ?_
                  rintro e y8 ⟨rfl, x8, hx8⟩
                  have yb8 : Below y7.heap.size y7 y8 := by rw [hx8]; exact below_drewN (Below.refl _ _) x8
                  have YB8 := Lib.hid (YB7.out.trans (yb8.mono YB7.out.size))
                  clear hx8 yb8 D7 E7 YB7
                  go_wp2
                  go_ret
                  exact ⟨by first | rfl | trivial, YB8.out⟩
          · go_wp2
            go_loopg [117] ol (fun q x wx => ∃ j : Nat, q + j = ol ∧ x = .int .i64 j ∧ Below w6.heap.size w6 wx)
            case atStart => exact ⟨0, by omega, by first | rfl | trivial, Below.refl _ _⟩
            case round =>
              obtain ⟨j, hq, rfl, hbj⟩ := hrel
              have HBJ := Lib.hid hbj
              by_cases hlt : j < ol
              · have hji : (j : Int) < (ol : Int) := by omega
                have hjo : j < o.length := by rw [HOE.out]; exact hlt
                obtain ⟨m, hm⟩ : ∃ m, o[j].length = m := ⟨_, rfl⟩
                have hmp := HFF.out.pos j hjo
                rw [hm] at hmp
                have hml : (lkN o j).length = m := by rw [lkN_at hjo, ← hm]; simp [numsV]
                have hin := H6.out.inner j hlt
                obtain ⟨ai, ci, hvi, -⟩ := hin.viewI hml
                obtain ⟨g2, hg2⟩ := HVA.out (by omega)
                subst hg2
                have cj := (H6.out.kept hbj).outer.cell j _ (H6.out.at j hlt)
                rw [hvi] at cj
                obtain ⟨cd, hcd⟩ := HDV.out (by first | rfl | trivial) j hjo
                rw [hm] at hcd
                have hmod : Int.tmod (cl : Int) (m : Int) = 0 := by rw [hcd, Int.tmod_eq_emod_of_nonneg (by omega)]; simp
                have hmod2 : (cl : Int) % (m : Int) = 0 := by rw [hcd]; simp
                have hw0 : IntKind.i64.wrap (0 : Int) = 0 := Go.IntWalk.i64_in _ ⟨by omega, by omega⟩
                clear hcd
                clear hbj hm hml hin hvi
                have h00 : ((0 : Int) != 0) = false := by simp
                have hm1 : ((m : Int) == 0) = false := by rw [beq_eq_false_iff_ne]; omega
                have hm2 : ¬ ((m : Int) = 0) := by omega
                go_wp2
                go_roundg (ol - (j + 1))
                case measure => omega
                case rel => exact ⟨j + 1, by omega, by go_num, by first | exact HBJ.out | exact below_drewN HBJ.out _⟩
              · obtain rfl : j = ol := by omega
                have hji : ¬ (j : Int) < (j : Int) := by omega
                have HB := Lib.hid (HB6.out.trans (HBJ.out.mono HB6.out.size))
                clear hbj HBJ H6 HFF HOE HVA HOL HK HDV
                go_wp2_with fail
                refine (DrawSortRows_any a2 l2 c2 z2 _ (HZ2.out.belowW HB.out) HL2.out).mono ?_
                rintro e y1 ⟨R, rv, r7, rs, rfl, rn, yb1⟩
                have hrx : ∀ l ∈ R, l.length ≤ maxLen := fun l hl => by have := rs l hl; unfold maxLen; omega
                obtain ⟨P, pb, hP, pi, ps⟩ := bothSortRows R (by omega) hrx
                have PI := Lib.hid pi
                have PS := Lib.hid ps
                unfold TextsAny at PI PS
                have YB1 := Lib.hid (HB.out.trans (yb1.mono HB.out.size))
                have R1 := Lib.hid rn.own.txts
                clear rn yb1 r7 rs hrx HB pi ps
                go_wp2_with fail
                refine (PI.out _ _ R1.out).mono ?_
                rintro e y2 ⟨p2, rfl, pn2, yb2⟩
                have YB2 := Lib.hid (YB1.out.trans (yb2.mono YB1.out.size))
                have R2 := Lib.hid (R1.out.kept yb2)
                have P2 := Lib.hid pn2.own
                clear yb2 pn2 YB1 R1 PI
                go_wp2_with fail
                refine (PS.out _ _ R2.out).mono ?_
                rintro e y3 ⟨p3, rfl, pn3, yb3⟩
                have YB3 := Lib.hid (YB2.out.trans (yb3.mono YB2.out.size))
                have P3 := Lib.hid (P2.out.kept yb3)
                have Q3 := Lib.hid pn3.own
                clear yb3 pn3 YB2 R2 P2 PS
                go_wp2_with fail
                refine (DrawLeftTimes_any a2 l2 c2 z2 _ (HZ2.out.belowW YB3.out) HL2.out).mono ?_
                rintro e y4 ⟨t, T, tv, t10, t6, ts, rfl, tn, yb4⟩
                have htx : ∀ l ∈ T, l.length ≤ maxLen := fun l hl => by have := ts l hl; unfold maxLen; omega
                obtain ⟨D, db, hD, di, ds⟩ := bothLeftTimes t T (by unfold maxLen; omega) (by omega) htx
                have DI := Lib.hid di
                have DS := Lib.hid ds
                unfold TextsAny at DI DS
                have YB4 := Lib.hid (YB3.out.trans (yb4.mono YB3.out.size))
                have P4 := Lib.hid (P3.out.kept yb4)
                have Q4 := Lib.hid (Q3.out.kept yb4)
                have T4 := Lib.hid tn.own.txts
                clear tn yb4 t10 t6 ts htx YB3 P3 Q3 di ds
                go_wp2_with fail
                refine (DI.out _ _ T4.out).mono ?_
                rintro e y5 ⟨d5, rfl, dn5, yb5⟩
                have YB5 := Lib.hid (YB4.out.trans (yb5.mono YB4.out.size))
                have P5 := Lib.hid (P4.out.kept yb5)
                have Q5 := Lib.hid (Q4.out.kept yb5)
                have T5 := Lib.hid (T4.out.kept yb5)
                have D5 := Lib.hid dn5.own
                clear yb5 dn5 YB4 P4 Q4 T4 DI
                go_wp2_with fail
                refine (DS.out _ _ T5.out).mono ?_
                rintro e y6 ⟨d6, rfl, dn6, yb6⟩
                have YB6 := Lib.hid (YB5.out.trans (yb6.mono YB5.out.size))
                have P6 := Lib.hid (P5.out.kept yb6)
                have Q6 := Lib.hid (Q5.out.kept yb6)
                have D6 := Lib.hid (D5.out.kept yb6)
                have E6 := Lib.hid dn6.own
                clear yb6 dn6 YB5 P5 Q5 T5 D5 DS
                cases pb
                all_goals cases db
                all_goals
                  go_wp2_with fail
                  refine (sameTexts_same _ _ P _ P6.out Q6.out (by omega)).mono ?_
                  rintro e y7 ⟨rfl, x7, hx7⟩
                  have yb7 : Below y6.heap.size y6 y7 := by rw [hx7]; exact below_drewN (Below.refl _ _) x7
                  have YB7 := Lib.hid (YB6.out.trans (yb7.mono YB6.out.size))
                  have D7 := Lib.hid (D6.out.kept yb7)
                  have E7 := Lib.hid (E6.out.kept yb7)
                  clear hx7 yb7 P6 Q6 D6 E6 YB6
                  go_wp2_with fail
                  refine (sameTexts_same _ _ D _ D7.out E7.out (by omega)).mono ?_
                  rintro e y8 ⟨rfl, x8, hx8⟩
                  have yb8 : Below y7.heap.size y7 y8 := by rw [hx8]; exact below_drewN (Below.refl _ _) x8
                  have YB8 := Lib.hid (YB7.out.trans (yb8.mono YB7.out.size))
                  clear hx8 yb8 D7 E7 YB7
                  go_wp2
                  go_ret
                  exact ⟨by first | rfl | trivial, YB8.out⟩
end Go.Proofs.YtapcfojnljnoaaaGreat
