/- Halves: mirrorStart in the program, l3Same in the model. -/
import Derived.Test.YtdflpkkcjbdpfaaDoorJ3
namespace Go.Proofs.YtdflpkkcjbdpfaaDoor
open Go.RowKit
set_option linter.unusedSimpArgs false

/-- the first half, if the list is its own mirror -/
def mirR (L : List (List Nat)) : List (List Nat) := if palB L = true then half L else []
set_option maxRecDepth 100000 in
set_option maxHeartbeats 1000000 in
theorem mirrorStart_any (v : Value) (L : List (List Nat)) (w : World) (h : Txts w v L) (hl : L.length ≤ 1000) :
    Calls Tryd.prog 29 #[v] w (TextsAny (mirR L) (palB L) w) := by
  obtain ⟨m, hm⟩ : ∃ m, L.length = m := ⟨_, rfl⟩
  have HH := Lib.hid h
  have HI := Lib.hid (fun w h => isMirrored_any v L w h hl)
  obtain ⟨a, cap, rfl, hcap, ha⟩ := h
  rw [hm] at hl HH HI ⊢
  have hl' : (m : Int) ≤ 1000 := by omega
  by_cases ho : m % 2 = 1
  · obtain ⟨u, hu, htu⟩ := slice_h HH.out (m / 2 + 1) (by omega)
    have hcast : ((m / 2 + 1 : Nat) : Int) = (m : Int) / 2 + 1 := by omega
    rw [hcast] at hu
    have hr : (m : Int) % 2 = 1 := by omega
    have hp : palB L = pairsOk L := by unfold palB; rw [hm, decide_eq_true ho, Bool.and_true]
    have HTU := Lib.hid htu
    clear htu hcap hcast ha
    cases hres : pairsOk L
    · have e1 : mirR L = [] := by unfold mirR; rw [hp, hres]; rfl
      rw [e1, hp, hres]
      rw [hres] at HI
      clear e1 hp hres hm
      go_enter Tryd.func29, Tryd.ntmps29
      go_wp2_with fail
      refine (HI.out _ HH.out).mono ?_
      rintro e w1 ⟨rfl, hb1⟩
      go_wp2
      go_ret2
      exact ⟨_, rfl, New.nil _ _ _, hb1⟩
    · have e1 : mirR L = L.take (m / 2 + 1) := by unfold mirR half; rw [hp, hres, hm]; rfl
      rw [e1, hp, hres]
      rw [hres] at HI
      clear e1 hp hres
      go_enter Tryd.func29, Tryd.ntmps29
      go_wp2_with fail
      refine (HI.out _ HH.out).mono ?_
      rintro e w1 ⟨rfl, hb1⟩
      have HB1 := Lib.hid hb1
      clear hb1
      go_wp2_with fail
      refine (clone_any u (L.take (m / 2 + 1)) _ (HTU.out.kept HB1.out) (by simp; omega)).mono ?_
      rintro e w2 ⟨v2, rfl, hn2, hb2⟩
      go_wp2
      go_ret2
      exact ⟨_, rfl, hn2.lower HB1.out.size, HB1.out.trans (hb2.mono HB1.out.size)⟩
  · have hr : (m : Int) % 2 = 0 := by omega
    have hp : palB L = false := by unfold palB; rw [hm, decide_eq_false ho, Bool.and_false]
    have hR : mirR L = [] := by unfold mirR; rw [hp]; rfl
    rw [hp, hR]
    clear ha hm hp hR HH HI
    go_enter Tryd.func29, Tryd.ntmps29
    go_wp2
    go_ret2
    exact ⟨_, rfl, New.nil _ _ _, Below.refl _ _⟩

set_option maxRecDepth 100000 in
set_option maxHeartbeats 1000000 in
theorem l3Same_any (v : Value) (L : List (List Nat)) (w : World) (h : Txts w v L) (hl : L.length ≤ 1000) :
    Calls Tryd.prog 54 #[v] w fun e w' => e = .returned (.bool (palB L)) ∧ Below w.heap.size w w' := by
  obtain ⟨m, hm⟩ : ∃ m, L.length = m := ⟨_, rfl⟩
  obtain ⟨a, cap, rfl, hcap, ha⟩ := h
  have hf : ((List.range m).drop 0).all (pairOk L) = pairsOk L := by unfold pairsOk; rw [hm]; rfl
  have hp : palB L = (pairsOk L && decide (m % 2 = 1)) := by unfold palB; rw [hm]
  rw [hm] at hl ha ⊢
  rw [hp]
  have hl' : (m : Int) ≤ 1000 := by omega
  have HA := Lib.hid ha
  have HM := Lib.hid hm
  generalize pairsOk L = res at *
  have HF := Lib.hid hf
  obtain ⟨tot, htot⟩ : ∃ tot, (res && decide (m % 2 = 1)) = tot := ⟨_, rfl⟩
  rw [htot]
  have HTOT := Lib.hid htot
  clear ha hm hcap hf hp htot
  go_enter Tryd.func54, Tryd.ntmps54
  go_wp2
  go_loopg [6] m (fun q i wr => ∃ j : Nat, j ≤ m ∧ q + j = m ∧ i = .int .i64 j ∧ ((List.range m).drop j).all (pairOk L) = res ∧ Below w.heap.size w wr)
  case atStart => exact ⟨0, by omega, rfl, rfl, HF.out, Below.refl _ _⟩
  case round =>
    clear HF
    obtain ⟨j, hj, hq, rfl, hf, hb⟩ := hrel
    have HB := Lib.hid hb
    clear hb
    have HF := Lib.hid hf
    clear hf
    by_cases hlt : j < m
    · obtain ⟨g, off, rfl, hg, hc⟩ := HA.out (by omega)
      have c1 := (HB.out.cell (p := ⟨g, off + j, none⟩) hg).trans (hc j hlt)
      have c2 := (HB.out.cell (p := ⟨g, off + (m - 1 - j), none⟩) hg).trans (hc (m - 1 - j) (by omega))
      have hpk : pairOk L j = sameT (L.getD j []) (L.getD (m - 1 - j) []) := by
        unfold pairOk
        rw [HM.out]
      have hf := HF.out
      rw [List.drop_eq_getElem_cons (by simpa using hlt), List.all_cons, List.getElem_range, hpk] at hf
      obtain ⟨k, hk⟩ : ∃ k, m - 1 - j = k := ⟨_, rfl⟩
      rw [hk] at c2 hf
      have hk2 : (m : Int) - 1 - j = k := by omega
      have hkm : (k : Int) < m := by omega
      have hjm : (j : Int) < m := by omega
      generalize L.getD j [] = x at *
      generalize L.getD k [] = y at *
      clear hc hpk hk HF
      cases hs : sameT x y
      · have hs2 : ((txt x).toList == (txt y).toList) = false := hs
        rw [hs, Bool.false_and] at hf
        have HR : Hid (tot = false) := Lib.hid (by rw [← HTOT.out, ← hf]; rfl)
        clear hs hf
        go_wp2
        go_quiet (fail)
        go_wp2
        go_ret
        exact ⟨by rw [HR.out]; rfl, below_drewN HB.out _⟩
      · have hs2 : ((txt x).toList == (txt y).toList) = true := hs
        rw [hs, Bool.true_and] at hf
        have HR := Lib.hid hf
        clear hs hf
        go_wp2
        go_quiet (fail)
        go_wp2
        go_roundg (m - (j + 1))
        case measure => omega
        case rel => exact ⟨j + 1, by omega, by omega, by go_num, HR.out, below_drewN HB.out _⟩
    · obtain rfl : j = m := by omega
      have hf := HF.out
      rw [List.drop_eq_nil_of_le (by simp)] at hf
      have hf : true = res := hf
      have HR : Hid (tot = decide (j % 2 = 1)) := Lib.hid (by rw [← HTOT.out, ← hf, Bool.true_and])
      have hone : ((j : Int) % 2 == 1) = decide (j % 2 = 1) := by
        rw [Bool.eq_iff_iff, beq_iff_eq, decide_eq_true_eq]; omega
      clear HF hf
      go_wp2
      go_ret
      exact ⟨by rw [HR.out]; rfl, HB.out⟩
end Go.Proofs.YtdflpkkcjbdpfaaDoor
