/- Halves: isMirrored in the program. -/
import Derived.Test.YtdflpkkcjbdpfaaDoorH1
namespace Go.Proofs.YtdflpkkcjbdpfaaDoor
open Go.RowKit
set_option linter.unusedSimpArgs false
set_option linter.unusedVariables false

set_option maxRecDepth 100000 in
set_option maxHeartbeats 1000000 in
theorem isMirrored_any (v : Value) (L : List (List Nat)) (w : World) (h : Txts w v L) (hl : L.length ≤ 1000) :
    Calls Tryd.prog 52 #[v] w fun e w' => e = .returned (.bool (pairsOk L)) ∧ Below w.heap.size w w' := by
  obtain ⟨m, hm⟩ : ∃ m, L.length = m := ⟨_, rfl⟩
  obtain ⟨a, cap, rfl, hcap, ha⟩ := h
  rw [hm] at hl ha ⊢
  have hl' : (m : Int) ≤ 1000 := by omega
  have HA := Lib.hid ha
  have HM := Lib.hid hm
  have HNO := Lib.hid (pairsOk_no L)
  have HYES := Lib.hid (pairsOk_half L)
  have HNIL : Hid (m = 0 → pairsOk L = true) := Lib.hid (fun h => by
    have : L = [] := List.eq_nil_of_length_eq_zero (by omega)
    subst this; rfl)
  clear ha hm hcap
  generalize pairsOk L = res at *
  go_enter Tryd.func52, Tryd.ntmps52
  go_wp2
  go_loopg [3, 4] m (fun q si sk wr => ∃ i : Nat, q + i = m ∧ 2 * i ≤ m ∧ si = .int .i64 i ∧ sk = .int .i64 ((m : Int) - 1 - i) ∧ (∀ t, t < i → pairOk L t = true) ∧ ∃ d, wr = w.drewN d)
  case atStart => exact ⟨0, by omega, by omega, rfl, by congr 1; omega, fun t ht => by omega, 0, rfl⟩
  case round =>
    obtain ⟨i, hqi, h2i, rfl, rfl, hpairs, d, rfl⟩ := hrel
    have HPA := Lib.hid hpairs
    clear hpairs
    by_cases hlt : 2 * i + 1 < m
    · obtain ⟨g, off, rfl, hg, hc⟩ := HA.out (by omega)
      have c1 := hc i (by omega)
      obtain ⟨k, hk⟩ : ∃ k, i + k + 1 = m := ⟨m - 1 - i, by omega⟩
      have hkk : (m : Int) - 1 - i = k := by omega
      have c2 := hc k (by omega)
      have hpk : pairOk L i = sameT (L.getD i []) (L.getD k []) := by
        unfold pairOk
        rw [HM.out, show m - 1 - i = k by omega]
      have hii : (i : Int) < k := by omega
      have him : (i : Int) < m := by omega
      have hqm : (k : Int) < m := by omega
      generalize L.getD i [] = x at *
      generalize L.getD k [] = y at *
      rw [hkk]
      clear hc hkk
      cases hs : sameT x y
      · have hs2 : ((txt x).toList == (txt y).toList) = false := hs
        have HR : Hid (res = false) := Lib.hid (HNO.out i (by rw [HM.out]; omega) (by rw [hpk]; exact hs))
        clear hpk hs
        go_wp2
        go_quiet (fail)
        go_wp2
        go_ret
        exact ⟨by rw [HR.out]; rfl, below_drewN (below_drewN (Below.refl _ _) _) _⟩
      · have hs2 : ((txt x).toList == (txt y).toList) = true := hs
        have HPK := Lib.hid (hpk.trans hs)
        clear hpk hs
        go_wp2
        go_quiet (fail)
        go_wp2
        go_roundg (m - (i + 1))
        case measure => omega
        case rel => exact ⟨i + 1, by omega, by omega, by go_num, by congr 1; omega, fun t ht => by
          rcases Nat.lt_or_ge t i with h1 | h1
          · exact HPA.out t h1
          · obtain rfl : t = i := by omega
            exact HPK.out, _, rfl⟩
    · have HR : Hid (res = true) := Lib.hid (by
        rcases Nat.eq_zero_or_pos m with h0 | h0
        · exact HNIL.out h0
        · exact HYES.out i (m - 1 - i) (by rw [HM.out]; omega) (by omega) HPA.out)
      have hii : ¬ (i : Int) < (m : Int) - 1 - i := by omega
      go_wp2
      go_ret
      exact ⟨by rw [HR.out]; rfl, below_drewN (Below.refl _ _) _⟩
end Go.Proofs.YtdflpkkcjbdpfaaDoor
