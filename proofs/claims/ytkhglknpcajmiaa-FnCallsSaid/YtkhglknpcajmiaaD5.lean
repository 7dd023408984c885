/- SameMethod in the program and in the model. -/
import Derived.Test.YtkhglknpcajmiaaDA
import Derived.Test.YtkhglknpcajmiaaH1
import Derived.Deep.RegionHeld3
namespace Go.Proofs.Ytkhglknpcajmiaa
open Go.RowKit
set_option linter.unusedSimpArgs false
set_option linter.unusedVariables false

/-- two lists of texts are the same -/
def sameLs (L M : List (List Nat)) : Bool := decide (L.length = M.length) && (List.range L.length).all fun i => sameT (L.getD i []) (M.getD i [])
theorem sameLs_len {L M : List (List Nat)} (h : L.length ≠ M.length) : sameLs L M = false := by
  unfold sameLs
  rw [decide_eq_false h, Bool.false_and]
theorem sameLs_no {L M : List (List Nat)} (i : Nat) (hi : i < L.length) (h : sameT (L.getD i []) (M.getD i []) = false) : sameLs L M = false := by
  unfold sameLs
  rw [Bool.and_eq_false_iff]
  refine .inr ?_
  rw [List.all_eq_false]
  exact ⟨i, List.mem_range.2 hi, by rw [h]; simp⟩
theorem sameLs_yes {L M : List (List Nat)} (hl : L.length = M.length) (h : ∀ t, t < L.length → sameT (L.getD t []) (M.getD t []) = true) : sameLs L M = true := by
  unfold sameLs
  rw [decide_eq_true hl, Bool.true_and, List.all_eq_true]
  intro t ht
  rw [List.mem_range] at ht
  exact h t ht

set_option maxRecDepth 100000 in
set_option maxHeartbeats 1000000 in
theorem l1SameS_any (v v' : Value) (L M : List (List Nat)) (w : World) (h : Txts w v L) (h' : Txts w v' M) (hl : L.length ≤ 2000000) (hl' : M.length ≤ 2000000) :
    Calls Try.prog 94 #[v, v'] w fun e w' => e = .returned (.bool (sameLs L M)) ∧ Below w.heap.size w w' := by
  obtain ⟨m, hm⟩ : ∃ m, L.length = m := ⟨_, rfl⟩
  obtain ⟨m', hm'⟩ : ∃ m', M.length = m' := ⟨_, rfl⟩
  obtain ⟨a, cap, rfl, hcap, ha⟩ := h
  obtain ⟨a', cap', rfl, hcap', ha'⟩ := h'
  rw [hm] at hl ha ⊢
  rw [hm'] at hl' ha' ⊢
  have hli : (m : Int) ≤ 2000000 := by omega
  have hli' : (m' : Int) ≤ 2000000 := by omega
  by_cases hne : m = m'
  · subst hne
    have HA := Lib.hid ha
    have HA' := Lib.hid ha'
    have HM := Lib.hid hm
    have HNO := Lib.hid (fun i (hi : i < m) h => sameLs_no (L := L) (M := M) i (by omega) h)
    have HYES := Lib.hid (fun h => sameLs_yes (L := L) (M := M) (by omega) h)
    clear ha hm hcap ha' hm' hcap'
    generalize sameLs L M = res at *
    go_enter Try.func94, Try.ntmps94
    go_wp2
    go_loopg [5, 13] m (fun q _ si wr => ∃ i : Nat, q + i = m ∧ si = .int .i64 i ∧ (∀ t, t < i → sameT (L.getD t []) (M.getD t []) = true) ∧ ∃ d, wr = w.drewN d)
    case atStart => exact ⟨0, by omega, rfl, fun t ht => by omega, 0, rfl⟩
    case round =>
      obtain ⟨i, hqi, rfl, hpairs, d, rfl⟩ := hrel
      have HPA := Lib.hid hpairs
      clear hpairs
      by_cases hlt : i < m
      · obtain ⟨g, off, rfl, hg, hc⟩ := HA.out (by omega)
        obtain ⟨g', off', rfl, hg', hc'⟩ := HA'.out (by omega)
        have c1 := hc i hlt
        have c2 := hc' i hlt
        have hii : (i : Int) < m := by omega
        obtain ⟨x, hx⟩ : ∃ x, L.getD i [] = x := ⟨_, rfl⟩
        obtain ⟨y, hy⟩ : ∃ y, M.getD i [] = y := ⟨_, rfl⟩
        rw [hx] at c1
        rw [hy] at c2
        have HX := Lib.hid hx
        have HY := Lib.hid hy
        clear hc hc' hx hy
        cases hs : sameT x y
        · have hs2 : ((txt x).toList == (txt y).toList) = false := hs
          have HR : Hid (res = false) := Lib.hid (HNO.out i hlt (by rw [HX.out, HY.out]; exact hs))
          clear hs
          go_wp2
          go_quiet (fail)
          go_wp2
          go_ret
          exact ⟨by rw [HR.out]; rfl, below_drewN (below_drewN (Below.refl _ _) _) _⟩
        · have hs2 : ((txt x).toList == (txt y).toList) = true := hs
          have HPK : Hid (sameT (L.getD i []) (M.getD i []) = true) := Lib.hid (by rw [HX.out, HY.out]; exact hs)
          clear hs
          go_wp2
          go_quiet (fail)
          go_wp2
          go_roundg (m - (i + 1))
          case measure => omega
          case rel => exact ⟨i + 1, by omega, by go_num, fun t ht => by
            rcases Nat.lt_or_ge t i with h1 | h1
            · exact HPA.out t h1
            · obtain rfl : t = i := by omega
              exact HPK.out, _, rfl⟩
      · have HR : Hid (res = true) := Lib.hid (HYES.out (fun t ht => HPA.out t (by have := HM.out; omega)))
        have hii : ¬ (i : Int) < m := by omega
        go_wp2
        go_ret
        exact ⟨by rw [HR.out]; rfl, below_drewN (Below.refl _ _) _⟩
  · have hnei : ¬ (m : Int) = m' := by omega
    rw [sameLs_len (by omega)]
    clear ha ha' hm hm' hcap hcap'
    go_enter Try.func94, Try.ntmps94
    go_wp2
    go_ret
    exact ⟨rfl, Below.refl _ _⟩

def sameB (s s' : ByteArray) (n n' : Int) (L M : List (List Nat)) : Bool := (s.toList == s'.toList) && (decide (n = n') && sameLs L M)

set_option maxRecDepth 100000 in
set_option maxHeartbeats 1000000 in
theorem sSameMethod_any (s s' : ByteArray) (n n' : Int) (v v' : Value) (L M : List (List Nat)) (w : World) (h : Txts w v L) (h' : Txts w v' M) (hl : L.length ≤ 2000000) (hl' : M.length ≤ 2000000) :
    Calls Try.prog 27 #[.agg #[.string s, .int .i64 n, v], .agg #[.string s', .int .i64 n', v']] w fun e w' => e = .returned (.bool (sameB s s' n n' L M)) ∧ Below w.heap.size w w' := by
  unfold sameB
  obtain ⟨a, cap, rfl, hcap, -⟩ := id h
  obtain ⟨a', cap', rfl, hcap', -⟩ := id h'
  have HT := Lib.hid h
  have HT' := Lib.hid h'
  have HE := Lib.hid (fun w h h' => l1SameS_any (.slice a L.length cap) (.slice a' M.length cap') L M w h h' hl hl')
  clear h h' hl hl' hcap hcap'
  generalize sameLs L M = res at *
  generalize L.length = m at *
  generalize M.length = m' at *
  have HR0 := Lib.hid ((RowAt.new w 25 #[.string s, .int .i64 n, .slice a m cap]).push (.cells #[.string s', .int .i64 n', .slice a' m' cap'] 25))
  have HY0 : Hid (RowAt ((w.alloc (.cells #[.string s, .int .i64 n, .slice a m cap] 25)).alloc (.cells #[.string s', .int .i64 n', .slice a' m' cap'] 25)) (w.heap.size + 1) 25 #[.string s', .int .i64 n', .slice a' m' cap']) := Lib.hid (by
    have := RowAt.new (w.alloc (.cells #[.string s, .int .i64 n, .slice a m cap] 25)) 25 #[.string s', .int .i64 n', .slice a' m' cap']
    simpa using this)
  have HB0 := Lib.hid (((Below.refl _ w).alloc (Nat.le_refl _) (.cells #[.string s, .int .i64 n, .slice a m cap] 25)).alloc (by simp) (.cells #[.string s', .int .i64 n', .slice a' m' cap'] 25))
  have c0 := HR0.out.cell 0 rfl
  have c1 := HR0.out.cell 1 rfl
  have c2 := HR0.out.cell 2 rfl
  have d0 := HY0.out.cell 0 rfl
  have d1 := HY0.out.cell 1 rfl
  have d2 := HY0.out.cell 2 rfl
  cases hs : (s.toList == s'.toList)
  · have HS := Lib.hid hs
    go_enter Try.func27, Try.ntmps27
    go_wp2
    go_ret
    exact ⟨by simp, HB0.out⟩
  · by_cases hn : n = n'
    · subst hn
      go_enter Try.func27, Try.ntmps27
      go_wp2_with fail
      refine (HE.out _ (HT.out.kept HB0.out) (HT'.out.kept HB0.out)).mono ?_
      rintro e w1 ⟨rfl, hb1⟩
      go_wp2
      go_ret
      exact ⟨by simp, HB0.out.trans (hb1.mono HB0.out.size)⟩
    · go_enter Try.func27, Try.ntmps27
      go_wp2
      go_ret
      exact ⟨by simp [hn], HB0.out⟩
end Go.Proofs.Ytkhglknpcajmiaa
