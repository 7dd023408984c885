/- IsPalindrome in the program and in the model. -/
import Derived.Test.YtfocnflnpabmkaaD2
import Derived.Test.YtfocnflnpabmkaaH1
import Derived.Deep.RegionHeld3
namespace Go.Proofs.Ytfocnflnpabmkaa
open Go.RowKit
set_option linter.unusedSimpArgs false
set_option linter.unusedVariables false

set_option maxRecDepth 100000 in
set_option maxHeartbeats 1000000 in
theorem isMirrored_any (v : Value) (L : List (List Nat)) (w : World) (h : Txts w v L) (hl : L.length ≤ 1000) :
    Calls Try.prog 82 #[v] w fun e w' => e = .returned (.bool (pairsOk L)) ∧ Below w.heap.size w w' := by
  obtain ⟨m, hm⟩ : ∃ m, L.length = m := ⟨_, rfl⟩
  obtain ⟨a, cap, rfl, hcap, ha⟩ := h
  rw [hm] at hl ha ⊢
  have hl' : (m : Int) ≤ 1000 := by omega
  have HA := Lib.hid ha
  have HM := Lib.hid hm
  have HNO := Lib.hid (pairsOk_no L)
  have HYES := Lib.hid (pairsOk_half L)
  have HNIL : Hid (m = 0 → pairsOk L = true) := Lib.hid (fun h => by
    have : L = [] := List.eq_nil_of_length_eq_zero (by omega)
    subst this; rfl)
  clear ha hm hcap
  generalize pairsOk L = res at *
  go_enter Try.func82, Try.ntmps82
  go_wp2
  go_loopg [3, 4] m (fun q si sk wr => ∃ i : Nat, q + i = m ∧ 2 * i ≤ m ∧ si = .int .i64 i ∧ sk = .int .i64 ((m : Int) - 1 - i) ∧ (∀ t, t < i → pairOk L t = true) ∧ ∃ d, wr = w.drewN d)
  case atStart => exact ⟨0, by omega, by omega, rfl, by congr 1; omega, fun t ht => by omega, 0, rfl⟩
  case round =>
    obtain ⟨i, hqi, h2i, rfl, rfl, hpairs, d, rfl⟩ := hrel
    have HPA := Lib.hid hpairs
    clear hpairs
    by_cases hlt : 2 * i + 1 < m
    · obtain ⟨g, off, rfl, hg, hc⟩ := HA.out (by omega)
      have c1 := hc i (by omega)
      obtain ⟨k, hk⟩ : ∃ k, i + k + 1 = m := ⟨m - 1 - i, by omega⟩
      have hkk : (m : Int) - 1 - i = k := by omega
      have c2 := hc k (by omega)
      have hpk : pairOk L i = sameT (L.getD i []) (L.getD k []) := by
        unfold pairOk
        rw [HM.out, show m - 1 - i = k by omega]
      have hii : (i : Int) < k := by omega
      have him : (i : Int) < m := by omega
      have hqm : (k : Int) < m := by omega
      generalize L.getD i [] = x at *
      generalize L.getD k [] = y at *
      rw [hkk]
      clear hc hkk
      cases hs : sameT x y
      · have hs2 : ((txt x).toList == (txt y).toList) = false := hs
        have HR : Hid (res = false) := Lib.hid (HNO.out i (by rw [HM.out]; omega) (by rw [hpk]; exact hs))
        clear hpk hs
        go_wp2
        go_quiet (fail)
        go_wp2
        go_ret
        exact ⟨by rw [HR.out]; rfl, below_drewN (below_drewN (Below.refl _ _) _) _⟩
      · have hs2 : ((txt x).toList == (txt y).toList) = true := hs
        have HPK := Lib.hid (hpk.trans hs)
        clear hpk hs
        go_wp2
        go_quiet (fail)
        go_wp2
        go_roundg (m - (i + 1))
        case measure => omega
        case rel => exact ⟨i + 1, by omega, by omega, by go_num, by congr 1; omega, fun t ht => by
          rcases Nat.lt_or_ge t i with h1 | h1
          · exact HPA.out t h1
          · obtain rfl : t = i := by omega
            exact HPK.out, _, rfl⟩
    · have HR : Hid (res = true) := Lib.hid (by
        rcases Nat.eq_zero_or_pos m with h0 | h0
        · exact HNIL.out h0
        · exact HYES.out i (m - 1 - i) (by rw [HM.out]; omega) (by omega) HPA.out)
      have hii : ¬ (i : Int) < (m : Int) - 1 - i := by omega
      go_wp2
      go_ret
      exact ⟨by rw [HR.out]; rfl, below_drewN (Below.refl _ _) _⟩

set_option maxRecDepth 100000 in
set_option maxHeartbeats 1000000 in
theorem l4Palindrome_any (s : ByteArray) (n : Int) (v : Value) (L : List (List Nat)) (w : World) (h : Txts w v L) (h1 : 1 ≤ L.length) (hl : L.length ≤ 1000) :
    Calls Try.prog 83 #[.agg #[.string s, .int .i64 n, v]] w fun e w' => e = .returned (.bool (pairsOk (L.take (L.length - 1)))) ∧ Below w.heap.size w w' := by
  obtain ⟨m, hm⟩ : ∃ m, L.length = m + 1 := ⟨L.length - 1, by omega⟩
  have hX : (L.take m).length = m := by simp; omega
  have hXL : ∀ k, k < m → (L.take m).getD k [] = L.getD k [] := fun k hk => by
    simp [List.getD_eq_getElem?_getD, List.getElem?_take, hk]
  obtain ⟨a, cap, rfl, hcap, ha⟩ := h
  rw [hm] at hl ha ⊢
  obtain ⟨g, off, rfl, hg, hc⟩ := ha (by omega)
  have hl' : (m : Int) ≤ 1000 := by omega
  have HC : Hid (∀ k, k < m → w.cell? ⟨g, off + k, none⟩ = some (.string (txt ((L.take m).getD k [])))) := Lib.hid (fun k hk => by rw [hXL k hk]; exact hc k (by omega))
  rw [Nat.add_sub_cancel]
  have HM := Lib.hid hX
  have HNO := Lib.hid (pairsOk_no (L.take m))
  have HYES := Lib.hid (pairsOk_half (L.take m))
  have HNIL : Hid (m = 0 → pairsOk (L.take m) = true) := Lib.hid (fun h => by subst h; rfl)
  generalize L.take m = X at *
  have HR0 := Lib.hid (RowAt.new w 26 #[.string s, .int .i64 n, .slice (some ⟨g, off, none⟩) (m + 1) cap])
  have HB0 := Lib.hid ((Below.refl _ w).alloc (Nat.le_refl _) (.cells #[.string s, .int .i64 n, .slice (some ⟨g, off, none⟩) (m + 1) cap] 26))
  clear ha hm hcap hX hXL hc h1
  generalize pairsOk X = res at *
  have b2 := HR0.out.cell 2 rfl
  go_enter Try.func83, Try.ntmps83
  go_wp2
  go_loopg [4] m (fun q si wr => ∃ i : Nat, q + i = m ∧ si = .int .i64 i ∧ (∀ t, t < i → pairOk X t = true) ∧ ∃ d, wr = (w.alloc (.cells #[.string s, .int .i64 n, .slice (some ⟨g, off, none⟩) (m + 1) cap] 26)).drewN d)
  case atStart => exact ⟨0, by omega, rfl, fun t ht => by omega, 0, rfl⟩
  case round =>
    obtain ⟨i, hqi, rfl, hpairs, d, rfl⟩ := hrel
    have HPA := Lib.hid hpairs
    clear hpairs
    by_cases hlt : i < m
    · obtain ⟨k, hk⟩ : ∃ k, i + k + 1 = m := ⟨m - 1 - i, by omega⟩
      have hkk : (m : Int) - 1 - i = k := by omega
      have c1 := (HB0.out.cell (p := ⟨g, off + i, none⟩) hg).trans (HC.out i hlt)
      have c2 := (HB0.out.cell (p := ⟨g, off + k, none⟩) hg).trans (HC.out k (by omega))
      have hpk : pairOk X i = sameT (X.getD i []) (X.getD k []) := by
        unfold pairOk
        rw [HM.out, show m - 1 - i = k by omega]
      have hii : (i : Int) < m := by omega
      have him : (i : Int) < ((m + 1 : Nat) : Int) := by omega
      have hqm : (k : Int) < ((m + 1 : Nat) : Int) := by omega
      have him1 : (i : Int) < (m : Int) + 1 := by omega
      have hqm1 : (k : Int) < (m : Int) + 1 := by omega
      generalize X.getD i [] = x at *
      generalize X.getD k [] = y at *
      cases hs : sameT x y
      · have hs2 : ((txt x).toList == (txt y).toList) = false := hs
        have HR : Hid (res = false) := Lib.hid (HNO.out i (by rw [HM.out]; omega) (by rw [hpk]; exact hs))
        clear hpk hs
        go_wp2
        go_quiet (fail)
        go_wp2
        go_ret
        exact ⟨by rw [HR.out]; rfl, below_drewN (below_drewN HB0.out _) _⟩
      · have hs2 : ((txt x).toList == (txt y).toList) = true := hs
        have HPK := Lib.hid (hpk.trans hs)
        clear hpk hs
        go_wp2
        go_quiet (fail)
        go_wp2
        go_roundg (m - (i + 1))
        case measure => omega
        case rel => exact ⟨i + 1, by omega, by go_num, fun t ht => by
          rcases Nat.lt_or_ge t i with h1 | h1
          · exact HPA.out t h1
          · obtain rfl : t = i := by omega
            exact HPK.out, _, rfl⟩
    · obtain rfl : i = m := by omega
      have HR : Hid (res = true) := Lib.hid (by
        rcases Nat.eq_zero_or_pos i with h0 | h0
        · exact HNIL.out h0
        · exact HYES.out (i - 1) 0 (by rw [HM.out]; omega) (by omega) (fun t ht => HPA.out t (by omega)))
      have hii : ¬ (i : Int) < (i : Int) := by omega
      go_wp2
      go_ret
      exact ⟨by rw [HR.out]; rfl, below_drewN HB0.out _⟩

theorem bothIsPalindrome_no (s : ByteArray) (hs : s.size ≤ maxLen) (n : Int) (L : List (List Nat)) (hl : L.length ≤ 2000000) (hsm : Small L) (hg : goodM s n L = false) (u : Value) (w : World) (h : Txts w u L) :
    (Calls Try.prog 30 #[.agg #[.string s, .int .i64 n, u]] w fun e w' => e = .returned (.tuple #[.bool false, .bool false]) ∧ Below w.heap.size w w') ∧
    (Calls Try.prog 31 #[.agg #[.string s, .int .i64 n, u]] w fun e w' => e = .returned (.tuple #[.bool false, .bool false]) ∧ Below w.heap.size w w') := by
  obtain ⟨a, cap, rfl, hcap, -⟩ := id h
  have HT := Lib.hid h
  have HR0 := Lib.hid (RowAt.new w 26 #[.string s, .int .i64 n, .slice a L.length cap])
  have HB0 := Lib.hid ((Below.refl _ w).alloc (Nat.le_refl _) (.cells #[.string s, .int .i64 n, .slice a L.length cap] 26))
  have HG := Lib.hid (fun w h => l4Good_any s hs n (.slice a L.length cap) L w h hl hsm)
  have HI := Lib.hid (fun w h => iGoodMethod_any s hs n (.slice a L.length cap) L w h hl)
  rw [hg] at HG HI
  clear h hcap hl hsm hg
  generalize L.length = m at *
  constructor
  · go_enter Try.func30, Try.ntmps30
    go_wp2_with (first | (refine wpList_load_row rfl 26 _ rfl _ rfl 26 _ _ _ (HR0.out) Try.underlying26 rfl (by kernel_rfl) ?_) | fail)
    refine (HI.out _ (HT.out.kept HB0.out)).mono ?_
    rintro e w1 ⟨rfl, hb1⟩
    have HB1 := Lib.hid (HB0.out.trans (hb1.mono HB0.out.size))
    go_wp2
    go_ret2
    exact ⟨rfl, HB1.out⟩
  · go_enter Try.func31, Try.ntmps31
    go_wp2_with (first | (refine wpList_load_row rfl 26 _ rfl _ rfl 26 _ _ _ (HR0.out) Try.underlying26 rfl (by kernel_rfl) ?_) | fail)
    refine (HG.out _ (HT.out.kept HB0.out)).mono ?_
    rintro e w1 ⟨rfl, hb1⟩
    have HB1 := Lib.hid (HB0.out.trans (hb1.mono HB0.out.size))
    go_wp2
    go_ret2
    exact ⟨rfl, HB1.out⟩

set_option maxRecDepth 100000 in
set_option maxHeartbeats 1000000 in
theorem bothIsPalindrome_yes (s : ByteArray) (hs : s.size ≤ maxLen) (n : Int) (L : List (List Nat)) (hl : L.length ≤ 2000000) (hsm : Small L) (hg : goodM s n L = true) (u : Value) (w : World) (h : Txts w u L) :
    (Calls Try.prog 30 #[.agg #[.string s, .int .i64 n, u]] w fun e w' => e = .returned (.tuple #[.bool (pairsOk (L.take (L.length - 1))), .bool true]) ∧ Below w.heap.size w w') ∧
    (Calls Try.prog 31 #[.agg #[.string s, .int .i64 n, u]] w fun e w' => e = .returned (.tuple #[.bool (pairsOk (L.take (L.length - 1))), .bool true]) ∧ Below w.heap.size w w') := by
  have hlen := goodAll_len (goodM_parts hg).1
  obtain ⟨a, cap, rfl, hcap, -⟩ := id h
  obtain ⟨v2, hv2, htv⟩ := slice_h h (L.length - 1) (by omega)
  have hcast : ((L.length - 1 : Nat) : Int) = (L.length : Int) - 1 := by omega
  rw [hcast] at hv2
  have HTV := Lib.hid htv
  have HT := Lib.hid h
  have HR0 := Lib.hid (RowAt.new w 26 #[.string s, .int .i64 n, .slice a L.length cap])
  have HB0 := Lib.hid ((Below.refl _ w).alloc (Nat.le_refl _) (.cells #[.string s, .int .i64 n, .slice a L.length cap] 26))
  have HG := Lib.hid (fun w h => l4Good_any s hs n (.slice a L.length cap) L w h hl hsm)
  have HI := Lib.hid (fun w h => iGoodMethod_any s hs n (.slice a L.length cap) L w h hl)
  have HP := Lib.hid (fun w h => l4Palindrome_any s n (.slice a L.length cap) L w h hlen.1 (by omega))
  have HQ := Lib.hid (fun w h => isMirrored_any v2 (L.take (L.length - 1)) w h (by simp; omega))
  rw [hg] at HG HI
  generalize pairsOk (L.take (L.length - 1)) = res at *
  have hm40 : (L.length : Int) ≤ 40 := by omega
  have hm1 : (1 : Int) ≤ L.length := by omega
  clear h hcap hl hsm hg hlen htv hcast
  generalize L.take (L.length - 1) = X at *
  generalize L.length = m at *
  constructor
  · go_enter Try.func30, Try.ntmps30
    go_wp2_with (first | (refine wpList_load_row rfl 26 _ rfl _ rfl 26 _ _ _ (HR0.out) Try.underlying26 rfl (by kernel_rfl) ?_) | fail)
    refine (HI.out _ (HT.out.kept HB0.out)).mono ?_
    rintro e w1 ⟨rfl, hb1⟩
    have HB1 := Lib.hid (HB0.out.trans (hb1.mono HB0.out.size))
    have HR1 := Lib.hid (HR0.out.kept hb1)
    have c2 := HR1.out.cell 2 rfl
    clear hb1
    go_wp2_with fail
    refine (HQ.out _ (HTV.out.kept HB1.out)).mono ?_
    rintro e w2 ⟨rfl, hb2⟩
    have HB2 := Lib.hid (HB1.out.trans (hb2.mono HB1.out.size))
    go_wp2
    go_ret2
    exact ⟨rfl, HB2.out⟩
  · go_enter Try.func31, Try.ntmps31
    go_wp2_with (first | (refine wpList_load_row rfl 26 _ rfl _ rfl 26 _ _ _ (HR0.out) Try.underlying26 rfl (by kernel_rfl) ?_) | fail)
    refine (HG.out _ (HT.out.kept HB0.out)).mono ?_
    rintro e w1 ⟨rfl, hb1⟩
    have HB1 := Lib.hid (HB0.out.trans (hb1.mono HB0.out.size))
    have HR1 := Lib.hid (HR0.out.kept hb1)
    clear hb1
    go_wp2_with (first | (refine wpList_load_row rfl 26 _ rfl _ rfl 26 _ _ _ (HR1.out) Try.underlying26 rfl (by kernel_rfl) ?_) | fail)
    refine (HP.out _ (HT.out.kept HB1.out)).mono ?_
    rintro e w2 ⟨rfl, hb2⟩
    have HB2 := Lib.hid (HB1.out.trans (hb2.mono HB1.out.size))
    go_wp2
    go_ret2
    exact ⟨rfl, HB2.out⟩
theorem bothIsPalindrome (s : ByteArray) (hs : s.size ≤ maxLen) (n : Int) (L : List (List Nat)) (hl : L.length ≤ 2000000) (hsm : Small L) :
    ∃ (t : Bool) (b : Bool), (∀ u w, Txts w u L → Calls Try.prog 30 #[.agg #[.string s, .int .i64 n, u]] w fun e w' => e = .returned (.tuple #[.bool t, .bool b]) ∧ Below w.heap.size w w') ∧
      (∀ u w, Txts w u L → Calls Try.prog 31 #[.agg #[.string s, .int .i64 n, u]] w fun e w' => e = .returned (.tuple #[.bool t, .bool b]) ∧ Below w.heap.size w w') := by
  cases hg : goodM s n L
  · exact ⟨_, _, fun u w h => (bothIsPalindrome_no s hs n L hl hsm hg u w h).1, fun u w h => (bothIsPalindrome_no s hs n L hl hsm hg u w h).2⟩
  · exact ⟨_, _, fun u w h => (bothIsPalindrome_yes s hs n L hl hsm hg u w h).1, fun u w h => (bothIsPalindrome_yes s hs n L hl hsm hg u w h).2⟩
set_option maxRecDepth 100000 in
set_option maxHeartbeats 1000000 in
theorem lawIsPalindrome (s : ByteArray) (n : Int) (v : Value) (ss : List ByteArray) (W : World) (hsz : s.size ≤ maxLen) (hA : Arg W v ss) (hy : ss.length ≤ maxLen ∧ ∀ t ∈ ss, t.size ≤ maxLen) :
    Calls Try.prog 8 #[.agg #[.string s, .int .i64 n, v]] W fun e w' => e = .returned (.bool true) ∧ Below W.heap.size W w' := by
  obtain ⟨a, cap, rfl, -⟩ := id hA
  have HB : Hid (s.size ≤ 1048576 → ss.length ≤ 1048576 → (∀ t ∈ ss, t.size ≤ 1048576) → _) := Lib.hid (fun h1 h2 h3 => bothIsPalindrome s (by simp only [maxLen]; omega) n (letss ss) (by rw [letss_len]; omega) (small_letss hy.2))
  have HSZ : Hid (∀ w, Arg w (.slice a ss.length cap) ss → Calls Try.prog 44 #[.agg #[.string s, .int .i64 n, .slice a ss.length cap], .int .i64 1048576] w _) := Lib.hid (fun w h => szMethod_any s hsz n (.slice a ss.length cap) ss w h hy.1 hy.2 1048576 (by omega) (by omega))
  have HTO : Hid (ss.length ≤ 1048576 → ∀ w, Arg w (.slice a ss.length cap) ss → Calls Try.prog 46 #[.agg #[.string s, .int .i64 n, .slice a ss.length cap]] w (MethOut s n (letss ss) w)) := Lib.hid (fun h2 w h => toMethod_any s n (.slice a ss.length cap) ss w h (by omega))
  have HLL := Lib.hid (letss_len ss)
  have HA := Lib.hid hA
  have HSS : Hid (ss.length = ss.length) := Lib.hid rfl
  have HR0 := Lib.hid (RowAt.new W 52 #[.string s, .int .i64 n, .slice a ss.length cap])
  have HB0 := Lib.hid ((Below.refl _ W).alloc (Nat.le_refl _) (.cells #[.string s, .int .i64 n, .slice a ss.length cap] 52))
  unfold MethOut at HTO
  generalize letss ss = L at *
  generalize hm : ss.length = m at *
  have HMM := Lib.hid hm
  clear hA hy hsz hm
  go_enter Try.func8, Try.ntmps8
  go_wp2_with (first | (refine wpList_load_row rfl 52 _ rfl _ rfl 52 _ _ _ (HR0.out) Try.underlying52 rfl (by kernel_rfl) ?_) | fail)
  refine (HSZ.out _ (HA.out.kept HB0.out)).mono ?_
  rintro e w1 ⟨z, rfl, hz0, hz1, hz2, hb1⟩
  have HR1 := Lib.hid (HR0.out.kept hb1)
  have HB1 := Lib.hid (HB0.out.trans (hb1.mono HB0.out.size))
  clear HR0 HB0 hb1 HSZ
  by_cases hneg : z < 0
  · clear hz2
    go_wp2
    go_ret
    exact ⟨rfl, HB1.out⟩
  have hz3 := hz2 (by omega)
  obtain ⟨hs1, hs2, hs3⟩ := hz3
  have hm2 : m ≤ 1048576 := by omega
  have HTO2 := Lib.hid (HTO.out hm2)
  have hboth := HB.out (by omega) (by omega) (fun t ht => by have := hs3 t ht; omega)
  clear HB HTO hz2 hs1 hs2 hs3
  obtain ⟨res, flag, hI, hS⟩ := hboth
  have HI := Lib.hid hI
  have HS := Lib.hid hS
  clear hI hS
  go_wp2_with (first | (refine wpList_load_row rfl 52 _ rfl _ rfl 52 _ _ _ (HR1.out) Try.underlying52 rfl (by kernel_rfl) ?_) | fail)
  refine (HTO2.out _ (HA.out.kept HB1.out)).mono ?_
  rintro e w2 ⟨v2, rfl, hn2, hb2⟩
  have HR2 := Lib.hid (HR1.out.kept hb2)
  have HB2 := Lib.hid (HB1.out.trans (hb2.mono HB1.out.size))
  have HT2 := Lib.hid hn2.own.txts
  clear HR1 HB1 hn2 hb2
  go_wp2_with fail
  refine (HS.out _ _ HT2.out).mono ?_
  rintro e w3 ⟨rfl, hb3⟩
  have HR3 := Lib.hid (HR2.out.kept hb3)
  have HB3 := Lib.hid (HB2.out.trans (hb3.mono HB2.out.size))
  clear HR2 HB2 hb3 HT2
  go_wp2_with (first | (refine wpList_load_row rfl 52 _ rfl _ rfl 52 _ _ _ (HR3.out) Try.underlying52 rfl (by kernel_rfl) ?_) | fail)
  refine (HTO2.out _ (HA.out.kept HB3.out)).mono ?_
  rintro e w4 ⟨v4, rfl, hn4, hb4⟩
  have HR4 := Lib.hid (HR3.out.kept hb4)
  have HB4 := Lib.hid (HB3.out.trans (hb4.mono HB3.out.size))
  have HN4 := Lib.hid (hn4.lower HB3.out.size)
  obtain ⟨a4, k4, rfl, -⟩ := hn4.own.view
  rw [strs_len, HLL.out] at HN4 ⊢
  clear HR3 HB3 hn4 hb4
  go_wp2_with (first | (refine wpList_store_row rfl 26 _ _ rfl _ _ rfl rfl 26 _ (heap_alloc_new _ _) (by kernel_rfl) rfl (by kernel_rfl) ?_; rw [World.setRow_alloc_new]) | fail)
  have HX5 := Lib.hid (RowAt.new w4 26 #[.string s, .int .i64 n, .slice a4 m k4])
  have HR5 := Lib.hid (HR4.out.push (.cells #[.string s, .int .i64 n, .slice a4 m k4] 26))
  have HB5 := Lib.hid (HB4.out.alloc HB4.out.size (.cells #[.string s, .int .i64 n, .slice a4 m k4] 26))
  have HN5 := Lib.hid (HN4.out.kept ((Below.refl _ _).alloc (Nat.le_refl _) (.cells #[.string s, .int .i64 n, .slice a4 m k4] 26)))
  clear HR4 HB4 HN4
  refine (HI.out _ _ HN5.out.own.txts).mono ?_
  rintro e w6 ⟨rfl, hb6⟩
  have HX6 := Lib.hid (HX5.out.kept hb6)
  have HR6 := Lib.hid (HR5.out.kept hb6)
  have HB6 := Lib.hid (HB5.out.trans (hb6.mono HB5.out.size))
  have HN6 := Lib.hid (HN5.out.kept hb6)
  clear HX5 HR5 HB5 HN5 hb6
  go_wp2
  have hltx := HX6.out.lt
  have hltr := HR6.out.lt
  have HX6A : Hid (∀ W', Below w6.heap.size w6 W' → (W'.cell? ⟨w4.heap.size, 0, none⟩ = some (.string s) ∧ W'.cell? ⟨w4.heap.size, 1, none⟩ = some (.int .i64 n) ∧ W'.cell? ⟨w4.heap.size, 2, none⟩ = some (.slice a4 m k4) ∧ W'.cell? ⟨W.heap.size, 0, none⟩ = some (.string s) ∧ W'.cell? ⟨W.heap.size, 1, none⟩ = some (.int .i64 n) ∧ W'.cell? ⟨W.heap.size, 2, none⟩ = some (.slice a m cap) ∧ Below w6.heap.size w6 W')) := Lib.hid (fun W' h => by
    have hx := HX6.out.keep h hltx
    have hr := HR6.out.keep h hltr
    exact ⟨hx.cell 0 rfl, hx.cell 1 rfl, hx.cell 2 rfl, hr.cell 0 rfl, hr.cell 1 rfl, hr.cell 2 rfl, h⟩)
  have HTO7 : Hid (∀ W', Below w6.heap.size w6 W' → Calls Try.prog 46 #[.agg #[.string s, .int .i64 n, .slice a m cap]] W' fun e w' => (∃ a7 k7, e = .returned (.agg #[.string s, .int .i64 n, .slice a7 m k7]) ∧ Own w' 9 (.slice a7 m k7) (strs L)) ∧ Below w6.heap.size w6 w') := Lib.hid (fun W' h => (HTO2.out W' (HA.out.kept (HB6.out.trans (h.mono HB6.out.size)))).mono fun e w' hw => by
    obtain ⟨v7, rfl, hn7, hb7⟩ := hw
    obtain ⟨a7, k7, rfl, -⟩ := hn7.own.view
    have ho := hn7.own
    rw [strs_len, HLL.out] at ho ⊢
    exact ⟨⟨a7, k7, rfl, ho⟩, h.trans (hb7.mono h.size)⟩)
  have HEQ7 : Hid (∀ W' a7 k7, Below w6.heap.size w6 W' → Own W' 9 (.slice a7 m k7) (strs L) → Calls Try.prog 48 #[.agg #[.string s, .int .i64 n, .slice a4 m k4], .agg #[.string s, .int .i64 n, .slice a7 m k7]] W' fun e w' => e = .returned (.bool true) ∧ Below w6.heap.size w6 w') := Lib.hid (fun W' a7 k7 h ho => (eqMethod_same s n _ _ L W' (HN6.out.kept h).own ho (by rw [HLL.out]; omega)).mono fun e w' hw => ⟨hw.1, h.trans (hw.2.mono h.size)⟩)
  clear hltx hltr
  go_region_held3 (fun w' => w'.cell? ⟨w4.heap.size, 0, none⟩ = some (.string s) ∧ w'.cell? ⟨w4.heap.size, 1, none⟩ = some (.int .i64 n) ∧ w'.cell? ⟨w4.heap.size, 2, none⟩ = some (.slice a4 m k4) ∧ w'.cell? ⟨W.heap.size, 0, none⟩ = some (.string s) ∧ w'.cell? ⟨W.heap.size, 1, none⟩ = some (.int .i64 n) ∧ w'.cell? ⟨W.heap.size, 2, none⟩ = some (.slice a m cap) ∧ Below w6.heap.size w6 w') (first | assumption | exact HX6A.out _ (Below.refl _ _).drew) (first | (go_at_call 46; refine (HTO7.out _ (by first | exact (Below.refl _ _).drew | exact Below.refl _ _)).mono ?_; rintro e7 w7 ⟨⟨a7, k7, rfl, ho7⟩, hb7⟩; have hS7 := HX6A.out _ hb7) | (go_at_call 48; refine (HEQ7.out _ _ _ hb7 ho7).mono ?_; rintro e8 w8 ⟨rfl, hb8⟩; have hS8 := HX6A.out _ hb8) | fail)
  go_wp2
  go_ret
  exact ⟨rfl, HB6.out.trans (hS8.2.2.2.2.2.2.mono HB6.out.size)⟩

end Go.Proofs.Ytfocnflnpabmkaa
