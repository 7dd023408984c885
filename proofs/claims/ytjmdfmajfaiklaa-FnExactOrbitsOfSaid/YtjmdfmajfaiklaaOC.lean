/- Orbits in the program. -/
import Derived.Test.YtjmdfmajfaiklaaOB
namespace Go.Proofs.Ytjmdfmajfaiklaa
open Go.RowKit
set_option linter.unusedSimpArgs false
set_option linter.unusedVariables false

def NumOut (l : List Nat) (w : World) (e : Ending) (w' : World) : Prop := ∃ v, e = .returned v ∧ New w.heap.size w' 3 v (ints (numsV l)) ∧ Below w.heap.size w w'
theorem withN_no {o : List Nat} {y : Nat} (h : decide (y ∈ o) = false) : withN o y = o ++ [y] := by simp only [decide_eq_false_iff_not] at h; simp [withN, h]
theorem withN_yes {o : List Nat} {y : Nat} (h : decide (y ∈ o) = true) : withN o y = o := by simp only [decide_eq_true_eq] at h; simp [withN, h]
theorem numsV_snoc (o : List Nat) (y : Nat) : ints (numsV o) ++ [.int .i64 (y : Int)] = ints (numsV (o ++ [y])) := by simp [ints, numsV]

set_option maxRecDepth 100000 in
set_option maxHeartbeats 1000000 in
theorem orbitOf_any (n : Nat) (h3 : 3 ≤ n) (h8 : n ≤ 8) (v : Value) (fs : List (Nat → Nat)) (hg : Rows n fs) (hl : fs.length ≤ 1000) (s : Nat) (hs1 : 1 ≤ s) (hs2 : s ≤ n) (w : World) (h : Digs w v fs) :
    Calls Try.prog 85 #[.int .i64 s, v] w (NumOut (incL n (orbF n fs s)) w) := by
  obtain ⟨m, hm⟩ : ∃ m, fs.length = m := ⟨_, rfl⟩
  obtain ⟨a, cap, rfl, hcap, ha⟩ := h
  have ha : 0 < m → ∃ g off, a = some ⟨g, off, none⟩ ∧ g < w.heap.size ∧ ∀ i (h : i < fs.length), w.rangeAt g (off + i * 8) (cells8 fs[i]) := fun h0 => ha (by rw [hm]; exact h0)
  rw [hm] at hl ⊢
  have hl' : (m : Int) ≤ 1000 := by omega
  have hos := orb_spec hg hs1 hs2
  have hway : OWay n fs s [s] := ⟨rfl, by simp, fun x hx => by simp at hx; omega, fun i y hi hy => by
    rw [List.getElem?_eq_none (by simp; omega)] at hy
    cases hy⟩
  have hres0 : orbF n fs s = bfsO fs (n + 1) 0 [s] := rfl
  generalize orbF n fs s = res at *
  have hn1 : New w.heap.size (w.alloc (.cells #[.int .i64 (s : Int)] 3)) 3 (.slice (some ⟨w.heap.size, 0, none⟩) 1 1) (ints (numsV [s])) := by
    have := Own.lit w 3 [.int .i64 (s : Int)] (by simp)
    exact ⟨this, fun g hg => by simp [Value.ownBlock] at hg; omega⟩
  have HN1 := Lib.hid hn1
  have HB1 := Lib.hid ((Below.refl _ w).alloc (Nat.le_refl _) (.cells #[.int .i64 (s : Int)] 3))
  have HA := Lib.hid ha
  have HM := Lib.hid hm
  have HG := Lib.hid hg
  have HRES := Lib.hid hres0.symm
  have HOS := Lib.hid hos
  have HWAY := Lib.hid hway
  obtain ⟨i0, hi0, hz0, hz1, hz2⟩ := info_parts infoInt
  have I0 := Lib.hid (⟨hi0, hz0, hz1, hz2⟩ : _ ∧ _ ∧ _ ∧ _)
  clear ha hm hcap hg hres0 hos hway hn1 hi0 hz0 hz1 hz2
  unfold NumOut
  go_enter Try.func85, Try.ntmps85
  go_wp2
  go_loopg [5, 6] (n + 1) (fun q wv i wr => ∃ (k : Nat) (out : List Nat), q + k = n + 1 ∧ i = .int .i64 k ∧ k ≤ out.length ∧ OWay n fs s out ∧ New w.heap.size wr 3 wv (ints (numsV out)) ∧ bfsO fs q k out = res ∧ Below w.heap.size w wr)
  case atStart => exact ⟨0, [s], by omega, rfl, by simp, HWAY.out, HN1.out, HRES.out, HB1.out⟩
  case round =>
    clear HN1 HRES HB1 HWAY
    obtain ⟨k, out, hq, rfl, hk, hw, hn, hr, hb⟩ := hrel
    have hlen := inN_len hw.nodup hw.rng
    have HQQ := Lib.hid hq
    have HN := Lib.hid hn
    have HB := Lib.hid hb
    have HWY := Lib.hid hw
    have h0 : 0 < out.length := (List.getElem?_eq_some_iff.1 hw.head).1
    obtain ⟨qq, rfl⟩ : ∃ q', gk = q' + 1 := ⟨gk - 1, by omega⟩
    unfold bfsO at hr
    obtain ⟨ol, hol⟩ : ∃ k', out.length = k' := ⟨_, rfl⟩
    obtain ⟨ua, uc, rfl, hua⟩ := hn.own.view
    have hsl : (ints (numsV out)).length = ol := by rw [ints_len, numsV_len, hol]
    rw [hsl] at HN hua ⊢
    obtain ⟨gu, rfl⟩ := hua (by omega)
    have HOL := Lib.hid hol
    clear hq hn hb hw hua
    by_cases hlt : k < out.length
    · rw [dif_pos hlt] at hr
      have hkx : out[k]? = some out[k] := List.getElem?_eq_getElem hlt
      have hkr := HWY.out.rng _ (List.getElem_mem hlt)
      obtain ⟨y, hy⟩ : ∃ y, out[k] = y + 1 := ⟨out[k] - 1, by omega⟩
      rw [hy] at hkx hkr hr
      have HR := Lib.hid hr
      have HLT := Lib.hid hlt
      have HKX : Hid (∀ t, (out ++ t)[k]? = some (y + 1)) := Lib.hid (fun t => by rw [List.getElem?_append_left hlt]; exact hkx)
      have hpos : (k : Int) < (ol : Int) := by omega
      have hy8 : y < n := by omega
      clear hr hkx hkr hlt hy hol hsl hlen
      go_wp2
      clear hpos
      go_loopg [5, 20] m (fun q wv i wr => ∃ (j : Nat) (o2 t2 : List Nat), q + j = m ∧ i = .int .i64 j ∧ o2 = out ++ t2 ∧ OWay n fs s o2 ∧ New w.heap.size wr 3 wv (ints (numsV o2)) ∧ stepO (fs.drop j) (y + 1) o2 = stepO fs (y + 1) out ∧ Below w.heap.size w wr)
      case atStart => exact ⟨0, out, [], by omega, rfl, by simp, HWY.out, HN.out, rfl, HB.out⟩
      case round =>
        clear HN HB
        obtain ⟨j, o2, t2, hq, rfl, ho2, hw, hn, hst, hb⟩ := hrel
        have HQI := Lib.hid hq
        have HN := Lib.hid hn
        have HB := Lib.hid hb
        have HST := Lib.hid hst
        have HO2 := Lib.hid ho2
        have HW2 := Lib.hid hw
        have hk2 : o2[k]? = some (y + 1) := by rw [ho2]; exact HKX.out t2
        have hlen2 := inN_len hw.nodup hw.rng
        obtain ⟨o2l, ho2l⟩ : ∃ k', o2.length = k' := ⟨_, rfl⟩
        obtain ⟨ua, uc, rfl, hua⟩ := hn.own.view
        have hsl : (ints (numsV o2)).length = o2l := by rw [ints_len, numsV_len, ho2l]
        have hklt : k < o2.length := (List.getElem?_eq_some_iff.1 hk2).1
        rw [hsl] at HN hua ⊢
        obtain ⟨gu, rfl⟩ := hua (by omega)
        have hcell : (ints (numsV o2))[k]? = some (.int .i64 ((y : Int) + 1)) := by
          simp only [ints, numsV, List.getElem?_map, hk2, Option.map_some]
          rfl
        have HCELL := Lib.hid hcell
        have hki : (k : Int) < (o2l : Int) := by omega
        have HOL2 := Lib.hid ho2l
        have HK2 := Lib.hid hk2
        have hol8 : o2l ≤ 8 := by omega
        have hop : 0 < o2l := by omega
        clear hq hn hb hst ho2 hw hk2 hlen2 hcell hsl hklt ho2l hua
        by_cases hlt : j < m
        · obtain ⟨gb, off, rfl, hgb, hc⟩ := HA.out (by omega)
          have hjx : j < fs.length := by rw [HM.out]; exact hlt
          have hrow := HG.out _ (List.getElem_mem hjx)
          have hload := hc j hjx
          have hmem := List.getElem_mem hjx
          have hst := HST.out
          rw [List.drop_eq_getElem_cons hjx] at hst
          generalize fs[j] = f at *
          have hst : stepO (fs.drop (j + 1)) (y + 1) (withN o2 (act f (y + 1))) = stepO fs (y + 1) out := hst
          have HL : Hid (wr.rangeAt gb (off + j * 8) (cells8 f)) := Lib.hid (fun k u hu => (HB.out.cell (p := ⟨gb, off + j * 8 + k, none⟩) hgb).trans (hload k u hu))
          have hji : (j : Int) < m := by omega
          have hu8 := act_sub hrow hy8
          have HXX := Lib.hid (RowAt.new wr 73 (dig8 f))
          have hal : Below wr.heap.size wr (wr.alloc (.cells (dig8 f) 73)) := (Below.refl _ wr).alloc (Nat.le_refl _) _
          have HBX := Lib.hid (HB.out.trans (hal.mono HB.out.size))
          have HNX := Lib.hid (HN.out.kept hal)
          have cx := HXX.out.cell y (dig8_get f y (by omega))
          have ck := HNX.out.own.cell k _ HCELL.out
          have hwy : IntKind.i64.wrap (y : Int) = y := IntWalk.i64_in _ ⟨by omega, by omega⟩
          have hyp : (0 : Int) ≤ (y : Int) := by omega
          have hyi : (y : Int) < 8 := by omega
          have HS3 := Lib.hid hst
          have HOW : Hid (OWay n fs s (withN o2 (act f (y + 1)))) := Lib.hid (HW2.out.snoc HK2.out hmem hrow)
          have hact8 := act_rng hrow (x := y + 1) (by omega) (by omega)
          have HHAS := Lib.hid (fun W (hW : Own W 3 (.slice (some ⟨gu, 0, none⟩) o2l uc) (ints (numsV o2))) => hasI_any o2 (act f (y + 1)) (.slice (some ⟨gu, 0, none⟩) o2l uc) W hW (by rw [HOL2.out]; exact hop) (by rw [HOL2.out]; omega))
          generalize act f (y + 1) = z at *
          have hz8 : (z : Int) ≤ 8 := by omega
          have HZ8 : Hid ((wr.alloc (.cells (dig8 f) 73)).heap.size = wr.heap.size + 1) := Lib.hid (by simp)
          clear hc hload hst HST hrow hal hmem HB HN
          cases hin : decide (z ∈ o2)
          · have HWT := Lib.hid (withN_no hin)
            rw [hin] at HHAS
            clear hin
            go_wp2_with (first | (refine wpList_store_row rfl 73 _ _ rfl _ _ rfl rfl 73 _ (heap_at _ _ _ (by simp)) (by kernel_rfl) rfl (by kernel_rfl) ?_; rw [setRow_at _ _ _ _ _ (by simp)]) | (refine wpList_load8 rfl _ rfl gb (off + j * 8) rfl f HL.out ?_) | fail)
            refine (HHAS.out _ HNX.out.own).mono ?_
            rintro e w5 ⟨rfl, rfl⟩
            go_wp2_with (at_builtin; refine wpList_app1 rfl (.tmp 37) (.tmp 39) 61 rfl 3 i0 (.int .i64 0) 8 Try.underlying61 I0.out.1 I0.out.2.1 I0.out.2.2.1 I0.out.2.2.2 rfl w.heap.size w _ (ints (numsV o2)) rfl HNX.out (by rw [HZ8.out]; rfl) rfl HBX.out.size HBX.out (by rw [ints_len, numsV_len, HOL2.out]; omega) (by omega) ?_)
            intro v7 w7 hn7 _ hb7 _
            rw [numsV_snoc, ← HWT.out] at hn7
            have HN7 := Lib.hid hn7
            have HB7 := Lib.hid hb7
            obtain ⟨ua7, uc7, rfl, -⟩ := hn7.own.view
            clear hn7 hb7 HNX HBX HXX cx ck
            go_wp2
            go_roundg (gk - 1)
            case measure => have := HQI.out; omega
            case rel => exact ⟨j + 1, withN o2 z, t2 ++ [z], by have := HQI.out; omega, by go_num, by rw [HWT.out, HO2.out, List.append_assoc], HOW.out, HN7.out, HS3.out, HB7.out⟩
          · have HWT := Lib.hid (withN_yes hin)
            rw [hin] at HHAS
            clear hin
            go_wp2_with (first | (refine wpList_store_row rfl 73 _ _ rfl _ _ rfl rfl 73 _ (heap_at _ _ _ (by simp)) (by kernel_rfl) rfl (by kernel_rfl) ?_; rw [setRow_at _ _ _ _ _ (by simp)]) | (refine wpList_load8 rfl _ rfl gb (off + j * 8) rfl f HL.out ?_) | fail)
            refine (HHAS.out _ HNX.out.own).mono ?_
            rintro e w5 ⟨rfl, rfl⟩
            go_wp2
            go_roundg (gk - 1)
            case measure => have := HQI.out; omega
            case rel => exact ⟨j + 1, o2, t2, by have := HQI.out; omega, by go_num, HO2.out, HW2.out, HNX.out, by have := HS3.out; rwa [HWT.out] at this, HBX.out⟩
        · obtain rfl : j = m := by have := HQI.out; omega
          have hst := HST.out
          rw [List.drop_eq_nil_of_le (by rw [HM.out]; exact Nat.le_refl _)] at hst
          have hst : o2 = stepO fs (y + 1) out := hst
          have hr := HR.out
          rw [← hst] at hr
          have HR2 := Lib.hid hr
          have hkl : k + 1 ≤ o2.length := by rw [HO2.out, List.length_append]; have := HLT.out; omega
          clear hst hr HST HR
          go_wp2
          go_roundg qq
          case measure => omega
          case rel => exact ⟨k + 1, o2, by have := HQQ.out; omega, by go_num, hkl, HW2.out, HN.out, HR2.out, HB.out⟩
    · rw [dif_neg hlt] at hr
      have hki : ¬ (k : Int) < (ol : Int) := by omega
      subst hr
      have HSI := Lib.hid (fun B w hB h => sortI_any n out HWY.out.nodup HWY.out.rng (by omega) B (.slice (some ⟨gu, 0, none⟩) ol uc) w hB h h0)
      clear hlt hol hsl hk hlen h0
      go_wp2_with fail
      refine (HSI.out w.heap.size _ HB.out.size HN.out).mono ?_
      rintro e w9 ⟨rfl, hn9, hb9⟩
      have HN9 := Lib.hid hn9
      have HB9 := Lib.hid (HB.out.trans hb9)
      clear hn9 hb9
      go_wp2
      go_ret
      exact ⟨_, rfl, HN9.out, HB9.out⟩
end Go.Proofs.Ytjmdfmajfaiklaa
