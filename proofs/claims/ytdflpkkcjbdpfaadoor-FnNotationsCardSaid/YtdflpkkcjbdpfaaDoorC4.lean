/- MirrorAll in the program and in the model, and the law on it. -/
import Derived.Test.YtdflpkkcjbdpfaaDoorC2
import Derived.Test.YtdflpkkcjbdpfaaDoorC3
namespace Go.Proofs.YtdflpkkcjbdpfaaDoor
open Go.RowKit
set_option linter.unusedSimpArgs false

def palOk {α : Type} (xs : List α) : Bool := decide (xs.length ≤ 20)
def palOut {α : Type} (xs : List α) : List α := if palOk xs = true then pal xs else []
theorem palOut_len {α : Type} (xs : List α) : (palOut xs).length ≤ 40 := by
  unfold palOut
  split
  · rename_i h
    have h : xs.length ≤ 20 := by simpa [palOk] using h
    rw [pal_len]; omega
  · simp

set_option maxRecDepth 100000 in
set_option maxHeartbeats 1000000 in
theorem iMirrorAll_any (v : Value) (xs : List (List Nat)) (w : World) (h : Txts w v xs) (hl : xs.length ≤ 2000000) :
    Calls Tryd.prog 10 #[v] w (TextsAny (palOut xs) (palOk xs) w) := by
  obtain ⟨n, hn⟩ : ∃ n, xs.length = n := ⟨_, rfl⟩
  have HT := Lib.hid h
  obtain ⟨a, cap, rfl, hcap, ha⟩ := h
  have hst := palTo_start xs
  have hml := palTo_len xs
  rw [hn] at hl hst ha hml HT ⊢
  have hl' : (n : Int) ≤ 2000000 := by omega
  by_cases hbig : 20 < n
  · have hb : palOk xs = false := by unfold palOk; rw [hn]; simp; omega
    have ho : palOut xs = [] := by unfold palOut; rw [hb]; rfl
    rw [hb, ho]
    have hbig' : (20 : Int) < n := by omega
    clear HT ha hst hml hb ho hn hcap
    go_enter Tryd.func10, Tryd.ntmps10
    go_wp2
    go_ret2
    exact ⟨_, rfl, New.nil _ _ _, Below.refl _ _⟩
  · have hb : palOk xs = true := by unfold palOk; rw [hn]; simp; omega
    have ho : palOut xs = palTo xs 0 := by unfold palOut; rw [hb]; rfl
    rw [hb, ho]
    have hbig' : (n : Int) ≤ 20 := by omega
    obtain ⟨i0, hi0, hz0, hz1, hz2⟩ := info_parts infoText
    have I0 := Lib.hid (⟨hi0, hz0, hz1, hz2⟩ : _ ∧ _ ∧ _ ∧ _)
    have HA := Lib.hid ha
    have HN := Lib.hid hn
    have HST := Lib.hid hst
    have HML := Lib.hid hml
    clear hi0 hz0 hz1 hz2 ha hn hst hml hcap hb ho
    go_enter Tryd.func10, Tryd.ntmps10
    go_wp2_with fail
    refine (clone_any _ xs _ HT.out (by rw [HN.out]; omega)).mono ?_
    rintro e w1 ⟨v1, rfl, hn1, hb1⟩
    have HN1 := Lib.hid hn1
    have HB1 := Lib.hid hb1
    clear hn1 hb1
    go_wp2
    go_loopg [4, 5] n (fun q out i wr => ∃ (k : Nat) (x : Int), k ≤ q ∧ i = .int .i64 x ∧ (x = k - 1 ∨ (x = -2 ∧ k = 0)) ∧ k + 1 ≤ n + 1 ∧ (1 ≤ k → k < n) ∧ New w.heap.size wr 9 out (strs (palTo xs k)) ∧ Below w.heap.size w wr)
    case atStart => exact ⟨n - 1, n - 2, by omega, rfl, by omega, by omega, by omega, by rw [HST.out]; exact HN1.out, HB1.out⟩
    case round =>
      clear HN1 HB1
      obtain ⟨k, x, hq, rfl, hx, hkn, hkn2, hnew, hbel⟩ := hrel
      have HNEW := Lib.hid hnew
      have HB := Lib.hid hbel
      clear hnew hbel
      by_cases hk : k = 0
      · subst hk
        have hx0 : x < 0 := by omega
        clear hx
        go_wp2
        go_ret2
        exact ⟨_, rfl, HNEW.out, HB.out⟩
      · obtain ⟨k, rfl⟩ : ∃ j, k = j + 1 := ⟨k - 1, by omega⟩
        have hxk : x = (k : Int) := by omega
        subst hxk
        obtain ⟨g, off, rfl, hg, hc⟩ := HA.out (by omega)
        have hkx : k < xs.length := by rw [HN.out]; omega
        have c1 := (HB.out.cell (p := ⟨g, off + k, none⟩) hg).trans (hc k (by omega))
        have hstep := palTo_step xs k (by rw [HN.out]; omega)
        rw [List.getD_eq_getElem?_getD, List.getElem?_eq_getElem hkx, Option.getD_some] at c1
        have hlen := HML.out (k + 1)
        have HSTEP := Lib.hid hstep
        have hki : (k : Int) < n := by omega
        generalize palTo xs (k + 1) = ys at *
        generalize xs[k] = s at *
        clear hc hstep hx
        go_wp2_with (at_builtin; refine wpList_app1 rfl (.tmp 20) (.tmp 25) 24 rfl 9 i0 (.string ⟨#[]⟩) 16 Tryd.underlying24 I0.out.1 I0.out.2.1 I0.out.2.2.1 I0.out.2.2.2 rfl w.heap.size w _ (strs ys) rfl HNEW.out rfl rfl HB.out.size HB.out (by rw [strs_len]; omega) (by omega) ?_)
        intro v4 w4 hn4 _ hb4 _
        rw [strs_snoc, ← HSTEP.out] at hn4
        have HN4 := Lib.hid hn4
        have HB4 := Lib.hid hb4
        clear hn4 hb4
        go_wp2
        go_roundg k
        case measure => omega
        case rel => exact ⟨k, (k : Int) - 1, Nat.le_refl _, by go_num, .inl rfl, by omega, by omega, HN4.out, HB4.out⟩

set_option maxRecDepth 100000 in
set_option maxHeartbeats 1000000 in
theorem sMirrorAll_any (v : Value) (xs : List (List Nat)) (w : World) (h : Txts w v xs) (hl : xs.length ≤ 2000000) :
    Calls Tryd.prog 12 #[v] w (TextsAny (palOut xs) (palOk xs) w) := by
  obtain ⟨n, hn⟩ : ∃ n, xs.length = n := ⟨_, rfl⟩
  have HT := Lib.hid h
  obtain ⟨a, cap, rfl, hcap, ha⟩ := h
  have hpl := pal_len xs
  rw [hn] at hl HT hpl ⊢
  have hl' : (n : Int) ≤ 2000000 := by omega
  have HN := Lib.hid hn
  clear ha hcap
  by_cases hbig : 20 < n
  · have hb : palOk xs = false := by unfold palOk; rw [hn]; simp; omega
    have ho : palOut xs = [] := by unfold palOut; rw [hb]; rfl
    rw [hb, ho]
    clear hb ho hn
    by_cases hbig2 : 40 < n
    · have hbig' : (40 : Int) < n := by omega
      clear hpl
      go_enter Tryd.func12, Tryd.ntmps12
      go_wp2
      go_ret2
      exact ⟨_, rfl, New.nil _ _ _, Below.refl _ _⟩
    · have hbig' : (n : Int) ≤ 40 := by omega
      have HPL := Lib.hid hpl
      clear hpl
      go_enter Tryd.func12, Tryd.ntmps12
      go_wp2_with fail
      refine (l3Mirror_any _ xs _ HT.out (by rw [HN.out]; omega)).mono ?_
      rintro e w1 ⟨v1, rfl, hn1, hb1⟩
      obtain ⟨a1, cap1, rfl, _⟩ := hn1.own.view
      rw [strs_len, HPL.out]
      have hb2 : (40 : Int) < ((2 * n - 1 : Nat) : Int) := by omega
      generalize 2 * n - 1 = m at *
      go_wp2
      go_ret2
      exact ⟨_, rfl, New.nil _ _ _, hb1⟩
  · have hb : palOk xs = true := by unfold palOk; rw [hn]; simp; omega
    have ho : palOut xs = pal xs := by unfold palOut; rw [hb]; rfl
    rw [hb, ho]
    clear hb ho hn
    have hbig' : (n : Int) ≤ 20 := by omega
    have HPL := Lib.hid hpl
    clear hpl
    go_enter Tryd.func12, Tryd.ntmps12
    go_wp2_with fail
    refine (l3Mirror_any _ xs _ HT.out (by rw [HN.out]; omega)).mono ?_
    rintro e w1 ⟨v1, rfl, hn1, hb1⟩
    have HT1 := Lib.hid (HT.out.kept hb1)
    have HB1 := Lib.hid hb1
    obtain ⟨a1, cap1, rfl, _⟩ := hn1.own.view
    rw [strs_len, HPL.out]
    have hb2 : ((2 * n - 1 : Nat) : Int) ≤ 40 := by omega
    generalize 2 * n - 1 = m at *
    clear hn1 hb1
    go_wp2_with fail
    refine (l3Mirror_any _ xs _ HT1.out (by rw [HN.out]; omega)).mono ?_
    rintro e w2 ⟨v2, rfl, hn2, hb2⟩
    have HN2 := Lib.hid (hn2.lower HB1.out.size)
    have HB2 := Lib.hid (HB1.out.trans (hb2.mono HB1.out.size))
    clear hn2 hb2
    go_wp2
    go_ret2
    exact ⟨_, rfl, HN2.out, HB2.out⟩
end Go.Proofs.YtdflpkkcjbdpfaaDoor
