/- The law FnBackwards. -/
import Derived.Test.YtkhglknpcajmiaaYB
import Derived.Test.YtkhglknpcajmiaaYC
import Derived.Test.YtkhglknpcajmiaaXT
import Derived.Test.YtkhglknpcajmiaaXG
import Derived.Deep.RegionHeld3
namespace Go.Proofs.Ytkhglknpcajmiaa
open Go.RowKit
set_option linter.unusedSimpArgs false
set_option linter.unusedVariables false

theorem small10T {L : List (List Nat)} (h : ∀ l ∈ L, l.length ≤ 10) : Small L := fun l hl => by
  have := h l hl
  unfold maxLen
  omega
set_option maxRecDepth 100000 in
set_option maxHeartbeats 1000000 in
theorem palT_any (s : ByteArray) (n : Int) (v : Value) (L : List (List Nat)) (w : World) (h : Txts w v L) (h1 : 1 ≤ L.length) (hl : L.length ≤ 1000) :
    Calls Try.prog 129 #[.agg #[.string s, .int .i64 n, v]] w fun e w' => e = .returned (.bool (pairsOk (L.take (L.length - 1)))) ∧ Below w.heap.size w w' := by
  obtain ⟨m, hm⟩ : ∃ m, L.length = m + 1 := ⟨L.length - 1, by omega⟩
  have hX : (L.take m).length = m := by simp; omega
  have hXL : ∀ k, k < m → (L.take m).getD k [] = L.getD k [] := fun k hk => by
    simp [List.getD_eq_getElem?_getD, List.getElem?_take, hk]
  obtain ⟨a, cap, rfl, hcap, ha⟩ := h
  rw [hm] at hl ha ⊢
  obtain ⟨g, off, rfl, hg, hc⟩ := ha (by omega)
  have hl' : (m : Int) ≤ 1000 := by omega
  have HC : Hid (∀ k, k < m → w.cell? ⟨g, off + k, none⟩ = some (.string (txt ((L.take m).getD k [])))) := Lib.hid (fun k hk => by rw [hXL k hk]; exact hc k (by omega))
  rw [Nat.add_sub_cancel]
  have HM := Lib.hid hX
  have HNO := Lib.hid (pairsOk_no (L.take m))
  have HYES := Lib.hid (pairsOk_half (L.take m))
  have HNIL : Hid (m = 0 → pairsOk (L.take m) = true) := Lib.hid (fun h => by subst h; rfl)
  generalize L.take m = X at *
  have HR0 := Lib.hid (RowAt.new w 25 #[.string s, .int .i64 n, .slice (some ⟨g, off, none⟩) (m + 1) cap])
  have HB0 := Lib.hid ((Below.refl _ w).alloc (Nat.le_refl _) (.cells #[.string s, .int .i64 n, .slice (some ⟨g, off, none⟩) (m + 1) cap] 25))
  clear ha hm hcap hX hXL hc h1
  generalize pairsOk X = res at *
  have b2 := HR0.out.cell 2 rfl
  go_enter Try.func129, Try.ntmps129
  go_wp2
  go_loopg [4] m (fun q si wr => ∃ i : Nat, q + i = m ∧ si = .int .i64 i ∧ (∀ t, t < i → pairOk X t = true) ∧ ∃ d, wr = (w.alloc (.cells #[.string s, .int .i64 n, .slice (some ⟨g, off, none⟩) (m + 1) cap] 25)).drewN d)
  case atStart => exact ⟨0, by omega, rfl, fun t ht => by omega, 0, rfl⟩
  case round =>
    obtain ⟨i, hqi, rfl, hpairs, d, rfl⟩ := hrel
    have HPA := Lib.hid hpairs
    clear hpairs
    by_cases hlt : i < m
    · obtain ⟨k, hk⟩ : ∃ k, i + k + 1 = m := ⟨m - 1 - i, by omega⟩
      have hkk : (m : Int) - 1 - i = k := by omega
      have c1 := (HB0.out.cell (p := ⟨g, off + i, none⟩) hg).trans (HC.out i hlt)
      have c2 := (HB0.out.cell (p := ⟨g, off + k, none⟩) hg).trans (HC.out k (by omega))
      have hpk : pairOk X i = sameT (X.getD i []) (X.getD k []) := by
        unfold pairOk
        rw [HM.out, show m - 1 - i = k by omega]
      have hii : (i : Int) < m := by omega
      have him : (i : Int) < ((m + 1 : Nat) : Int) := by omega
      have hqm : (k : Int) < ((m + 1 : Nat) : Int) := by omega
      have him1 : (i : Int) < (m : Int) + 1 := by omega
      have hqm1 : (k : Int) < (m : Int) + 1 := by omega
      generalize X.getD i [] = x at *
      generalize X.getD k [] = y at *
      cases hs : sameT x y
      · have hs2 : ((txt x).toList == (txt y).toList) = false := hs
        have HR : Hid (res = false) := Lib.hid (HNO.out i (by rw [HM.out]; omega) (by rw [hpk]; exact hs))
        clear hpk hs
        go_wp2
        go_quiet (fail)
        go_wp2
        go_ret
        exact ⟨by rw [HR.out]; rfl, below_drewN (below_drewN HB0.out _) _⟩
      · have hs2 : ((txt x).toList == (txt y).toList) = true := hs
        have HPK := Lib.hid (hpk.trans hs)
        clear hpk hs
        go_wp2
        go_quiet (fail)
        go_wp2
        go_roundg (m - (i + 1))
        case measure => omega
        case rel => exact ⟨i + 1, by omega, by go_num, fun t ht => by
          rcases Nat.lt_or_ge t i with h1 | h1
          · exact HPA.out t h1
          · obtain rfl : t = i := by omega
            exact HPK.out, _, rfl⟩
    · obtain rfl : i = m := by omega
      have HR : Hid (res = true) := Lib.hid (by
        rcases Nat.eq_zero_or_pos i with h0 | h0
        · exact HNIL.out h0
        · exact HYES.out (i - 1) 0 (by rw [HM.out]; omega) (by omega) (fun t ht => HPA.out t (by omega)))
      have hii : ¬ (i : Int) < (i : Int) := by omega
      go_wp2
      go_ret
      exact ⟨by rw [HR.out]; rfl, below_drewN HB0.out _⟩
set_option maxRecDepth 100000 in
set_option maxHeartbeats 1000000 in
theorem sPalindrome_no (s : ByteArray) (hs : s.size ≤ maxLen) (n : Int) (v : Value) (L : List (List Nat)) (hl : L.length ≤ 2000000) (hsm : Small L) (hg : goodM s n L = false) (w : World) (h : Txts w v L) :
    Calls Try.prog 65 #[.agg #[.string s, .int .i64 n, v]] w fun e w' => e = .returned (.tuple #[.bool false, .bool false]) ∧ Below w.heap.size w w' := by
  obtain ⟨a, cap, rfl, hcap, -⟩ := id h
  have HT := Lib.hid h
  have HR0 := Lib.hid (RowAt.new w 25 #[.string s, .int .i64 n, .slice a L.length cap])
  have HB0 := Lib.hid ((Below.refl _ w).alloc (Nat.le_refl _) (.cells #[.string s, .int .i64 n, .slice a L.length cap] 25))
  have HG := Lib.hid (fun w h => l4Good_any s hs n (.slice a L.length cap) L w h hl hsm)
  rw [hg] at HG
  clear h hcap hl hsm hg
  generalize L.length = m at *
  go_enter Try.func65, Try.ntmps65
  go_wp2_with (first | (refine wpList_load_row rfl 25 _ rfl _ rfl 25 _ _ _ (HR0.out) Try.underlying25 rfl (by kernel_rfl) ?_) | fail)
  refine (HG.out _ (HT.out.kept HB0.out)).mono ?_
  rintro e w1 ⟨rfl, hb1⟩
  have HB1 := Lib.hid (HB0.out.trans (hb1.mono HB0.out.size))
  go_wp2
  go_ret2
  exact ⟨rfl, HB1.out⟩
set_option maxRecDepth 100000 in
set_option maxHeartbeats 1000000 in
theorem sPalindrome_yes (s : ByteArray) (hs : s.size ≤ maxLen) (n : Int) (v : Value) (L : List (List Nat)) (hl : L.length ≤ 2000000) (hsm : Small L) (hg : goodM s n L = true) (w : World) (h : Txts w v L) :
    Calls Try.prog 65 #[.agg #[.string s, .int .i64 n, v]] w fun e w' => e = .returned (.tuple #[.bool (pairsOk (L.take (L.length - 1))), .bool true]) ∧ Below w.heap.size w w' := by
  have hlen := goodAll_len (goodM_parts hg).1
  obtain ⟨a, cap, rfl, hcap, -⟩ := id h
  have HT := Lib.hid h
  have HR0 := Lib.hid (RowAt.new w 25 #[.string s, .int .i64 n, .slice a L.length cap])
  have HB0 := Lib.hid ((Below.refl _ w).alloc (Nat.le_refl _) (.cells #[.string s, .int .i64 n, .slice a L.length cap] 25))
  have HG := Lib.hid (fun w h => l4Good_any s hs n (.slice a L.length cap) L w h hl hsm)
  have HP := Lib.hid (fun w h => palT_any s n (.slice a L.length cap) L w h hlen.1 (by omega))
  rw [hg] at HG
  generalize pairsOk (L.take (L.length - 1)) = res at *
  clear h hcap hl hsm hg hlen
  generalize L.length = m at *
  go_enter Try.func65, Try.ntmps65
  go_wp2_with (first | (refine wpList_load_row rfl 25 _ rfl _ rfl 25 _ _ _ (HR0.out) Try.underlying25 rfl (by kernel_rfl) ?_) | fail)
  refine (HG.out _ (HT.out.kept HB0.out)).mono ?_
  rintro e w1 ⟨rfl, hb1⟩
  have HB1 := Lib.hid (HB0.out.trans (hb1.mono HB0.out.size))
  have HR1 := Lib.hid (HR0.out.kept hb1)
  clear hb1
  go_wp2_with (first | (refine wpList_load_row rfl 25 _ rfl _ rfl 25 _ _ _ (HR1.out) Try.underlying25 rfl (by kernel_rfl) ?_) | fail)
  refine (HP.out _ (HT.out.kept HB1.out)).mono ?_
  rintro e w2 ⟨rfl, hb2⟩
  have HB2 := Lib.hid (HB1.out.trans (hb2.mono HB1.out.size))
  go_wp2
  go_ret2
  exact ⟨rfl, HB2.out⟩
theorem sPalindrome_some (s : ByteArray) (hs : s.size ≤ maxLen) (n : Int) (L : List (List Nat)) (hl : L.length ≤ 2000000) (hsm : Small L) :
    ∃ (p f : Bool), (∀ u w, Txts w u L → Calls Try.prog 65 #[.agg #[.string s, .int .i64 n, u]] w fun e w' => e = .returned (.tuple #[.bool p, .bool f]) ∧ Below w.heap.size w w') ∧ (goodM s n L = true → f = true ∧ p = pairsOk (L.take (L.length - 1))) := by
  cases hg : goodM s n L
  · exact ⟨false, false, fun u w h => sPalindrome_no s hs n u L hl hsm hg w h, fun h => by cases h⟩
  · exact ⟨_, true, fun u w h => sPalindrome_yes s hs n u L hl hsm hg w h, fun _ => ⟨rfl, rfl⟩⟩
/-- whether a touch comes round, on both sides, and what stands behind it -/
theorem round_some (s : ByteArray) (hs : s.size ≤ maxLen) (n : Int) (L : List (List Nat)) (hl : L.length ≤ 2000000) (hsm : Small L) (b q : ByteArray) (hb : b.size ≤ maxLen) (hq : q.size ≤ maxLen) (t : ByteArray) (ht : t.size ≤ maxLen) :
    ∃ (res flag : Bool), (∀ u w, Txts w u L → Calls Try.prog 48 #[.agg #[.string s, .int .i64 n, u], .agg #[.string b, .string q], .string t] w fun e w' => e = .returned (.tuple #[.bool res, .bool flag]) ∧ Below w.heap.size w w') ∧
      (∀ u w, Txts w u L → Calls Try.prog 49 #[.agg #[.string s, .int .i64 n, u], .agg #[.string b, .string q], .string t] w fun e w' => e = .returned (.tuple #[.bool res, .bool flag]) ∧ Below w.heap.size w w') ∧
      (flag = true → ∃ k : Nat, n = k ∧ goodK s k L b q = true ∧ goodT t = true ∧ res = roundT k L b q t) := by
  cases hk : askT s n L b q t
  · exact ⟨false, false, fun u w h => iIsRound_no s hs n u L b q t ht w h hl hk, fun u w h => sIsRound_no s hs n u L b q t hb hq ht w h hl hsm hk, fun h => by cases h⟩
  · unfold askT at hk
    rw [Bool.and_eq_true] at hk
    obtain ⟨hg, hgt⟩ := hk
    obtain ⟨k, rfl⟩ := goodK_cast hg
    exact ⟨_, true, fun u w h => iIsRound_yes s hs k u L b q t w h hl hg hgt, fun u w h => sIsRound_yes s hs k u L b q t hb hq ht w h hl hsm hg hgt, fun _ => ⟨k, rfl, hg, hgt, rfl⟩⟩

set_option maxRecDepth 100000 in
set_option maxHeartbeats 1000000 in
set_option maxHeartbeats 16000000 in
theorem lawBackwards (a1 : Option Addr) (l1 c1 : Nat) (z1 : List Int) (a2 : Option Addr) (l2 c2 : Nat) (z2 : List Int) (w : World) (hz1 : IsBytes w a1 l1 c1 z1) (hz2 : IsBytes w a2 l2 c2 z2) :
    Calls Try.prog 6 #[.slice a1 l1 c1, .slice a2 l2 c2] w fun e w' => e = .returned (.bool true) ∧ Below w.heap.size w w' := by
  have HZ1 := Lib.hid hz1
  have HZ2 := Lib.hid hz2
  have hm1 := hz1.lenW
  have hm2 := hz2.lenW
  unfold maxLen at hm1 hm2
  have HL1 := Lib.hid (show l1 ≤ 9223372036854775807 by omega)
  have HL2 := Lib.hid (show l2 ≤ 9223372036854775807 by omega)
  clear hz1 hz2
  by_cases hbig : 1048576 < l1 + l2 ∧ l1 + l2 ≤ 9223372036854775807
  · obtain ⟨hg1, hg2⟩ := hbig
    have hbi : (1048576 : Int) < l1 + l2 := by omega
    have hbj : (l1 : Int) + l2 ≤ 9223372036854775807 := by omega
    go_enter Try.func6, Try.ntmps6
    go_wp2
    go_ret
    exact ⟨rfl, Below.refl _ _⟩
  obtain ⟨z, hz, hz2, hz3⟩ : ∃ z : Int, IntKind.i64.wrap ((l1 : Int) + l2) = z ∧ wrap64 ((l1 : Int) + l2) = z ∧ ¬ 1048576 < z := by
    by_cases h : l1 + l2 ≤ 9223372036854775807
    · exact ⟨(l1 : Int) + l2, IntWalk.i64_in _ (by omega), by unfold wrap64; omega, by omega⟩
    · have e : IntKind.i64.wrap ((l1 : Int) + l2) = wrap64 ((l1 : Int) + l2) := by
        unfold wrap64 IntKind.wrap
        have e1 : ((2 : Int) ^ IntKind.i64.bits) = 18446744073709551616 := rfl
        have e2 : ((2 : Int) ^ (IntKind.i64.bits - 1)) = 9223372036854775808 := rfl
        have e3 : IntKind.i64.signed = true := rfl
        simp only [e1, e2, e3, Bool.true_and, decide_eq_true_eq, true_and]
        split <;> omega
      refine ⟨_, e, rfl, ?_⟩
      unfold wrap64
      omega
  clear hbig hm1 hm2
  go_enter Try.func6, Try.ntmps6
  go_wp2_with fail
  clear hz hz2 hz3
  refine (DrawIsRound_any a1 l1 c1 z1 _ HZ1.out HL1.out).mono ?_
  rintro e w1 ⟨s, n, v, L, x, y, t, rfl, hsz, hn2, hn9, hn, hL, hs, hx, hy, ht, hb1⟩
  have hsx : s.size ≤ maxLen := by unfold maxLen; omega
  have hxm : x.size ≤ maxLen := by unfold maxLen; omega
  have hym : y.size ≤ maxLen := by unfold maxLen; omega
  have htm : t.size ≤ maxLen := by unfold maxLen; omega
  have hsm := small10T hs
  have hl2 : L.length ≤ 2000000 := by omega
  obtain ⟨a, cap, hv, -⟩ := hn.own.view
  rw [strs_len] at hv
  subst hv
  have hal := ((Below.refl w1.heap.size w1).alloc (Nat.le_refl _) (.cells #[.string s, .int .i64 n, .slice a L.length cap] 25)).alloc (by simp) (.cells #[.string x, .string y] 27)
  have HM2 := Lib.hid ((RowAt.new w1 25 #[.string s, .int .i64 n, .slice a L.length cap]).push (.cells #[.string x, .string y] 27))
  have HK2 : Hid (RowAt ((w1.alloc (.cells #[.string s, .int .i64 n, .slice a L.length cap] 25)).alloc (.cells #[.string x, .string y] 27)) (w1.heap.size + 1) 27 #[.string x, .string y]) := Lib.hid (by
    have := RowAt.new (w1.alloc (.cells #[.string s, .int .i64 n, .slice a L.length cap] 25)) 27 #[.string x, .string y]
    simpa using this)
  have HT2 := Lib.hid (hn.own.txts.kept hal)
  have HB2 := Lib.hid (hb1.trans (hal.mono hb1.size))
  obtain ⟨rs, fl, f1, f2, hfl⟩ := round_some s hsx n L hl2 hsm x y hxm hym t htm
  obtain ⟨pp, pf, f3, hpp⟩ := sPalindrome_some s hsx n L hl2 hsm
  have HF1 := Lib.hid f1
  have HF2 := Lib.hid f2
  have HF3 := Lib.hid f3
  have HRV := Lib.hid (iReverseTouch_any t htm)
  have HYES : Hid (fl = true → pf = true → pp = true → goodT t = true ∧ revY t = revT t ∧ ∀ u w, Txts w u L → Calls Try.prog 48 #[.agg #[.string s, .int .i64 n, u], .agg #[.string x, .string y], .string (revT t)] w fun e w' => e = .returned (.tuple #[.bool rs, .bool true]) ∧ Below w.heap.size w w') := Lib.hid (fun h1 h2 h3 => by
    obtain ⟨k, rfl, hg, hgt, rfl⟩ := hfl h1
    obtain ⟨-, hp⟩ := hpp (goodK_parts hg).1
    rw [h3] at hp
    have hrv := roundT_rev hg hp.symm t (goodT_parts hgt).1
    refine ⟨hgt, revY_yes hgt, fun u w h => ?_⟩
    have := iIsRound_yes s hsx k u L x y (revT t) w h hl2 hg (goodT_rev hgt)
    rwa [hrv] at this)
  obtain ⟨mL, hmL⟩ : ∃ mL, L.length = mL := ⟨_, rfl⟩
  rw [hmL] at HM2 HK2 HT2 HB2 ⊢
  clear hn hb1 hal hs hsz hn2 hn9 hx hy ht hsx hxm hym htm hsm hl2 f1 f2 f3 hfl hpp hL hmL HZ1 HL1
  go_wp2_with (first | (refine wpList_store_row rfl 25 _ _ rfl _ _ rfl rfl 25 _ (heap_at _ _ _ (by simp)) (by kernel_rfl) rfl (by kernel_rfl) ?_; rw [setRow_at _ _ _ _ _ (by simp)]) | (refine wpList_store_row rfl 27 _ _ rfl _ _ rfl rfl 27 _ (heap_at _ _ _ (by simp)) (by kernel_rfl) rfl (by kernel_rfl) ?_; rw [setRow_at _ _ _ _ _ (by simp)]) | (refine wpList_load_row rfl 25 _ rfl _ rfl 25 _ _ _ (HM2.out) Try.underlying25 rfl (by kernel_rfl) ?_) | (refine wpList_load_row rfl 27 _ rfl _ rfl 27 _ _ _ (HK2.out) Try.underlying27 rfl (by kernel_rfl) ?_) | fail)
  refine (HF1.out _ _ HT2.out).mono ?_
  rintro e w3 ⟨rfl, hb3⟩
  have HM3 := Lib.hid (HM2.out.kept hb3)
  have HK3 := Lib.hid (HK2.out.kept hb3)
  have HT3 := Lib.hid (HT2.out.kept hb3)
  have HB3 := Lib.hid (HB2.out.trans (hb3.mono HB2.out.size))
  clear hb3 HM2 HK2 HT2 HB2
  go_wp2_with (first | (refine wpList_load_row rfl 25 _ rfl _ rfl 25 _ _ _ (HM3.out) Try.underlying25 rfl (by kernel_rfl) ?_) | (refine wpList_load_row rfl 27 _ rfl _ rfl 27 _ _ _ (HK3.out) Try.underlying27 rfl (by kernel_rfl) ?_) | fail)
  refine (HF2.out _ _ HT3.out).mono ?_
  rintro e w4 ⟨rfl, hb4⟩
  have HM4 := Lib.hid (HM3.out.kept hb4)
  have HK4 := Lib.hid (HK3.out.kept hb4)
  have HT4 := Lib.hid (HT3.out.kept hb4)
  have HB4 := Lib.hid (HB3.out.trans (hb4.mono HB3.out.size))
  clear hb4 HM3 HK3 HT3 HB3
  have he1 : (fl != fl) = false := by simp
  have he2 : (rs != rs) = false := by simp
  go_wp2_with (first | (refine wpList_load_row rfl 25 _ rfl _ rfl 25 _ _ _ (HM4.out) Try.underlying25 rfl (by kernel_rfl) ?_) | (refine wpList_load_row rfl 27 _ rfl _ rfl 27 _ _ _ (HK4.out) Try.underlying27 rfl (by kernel_rfl) ?_) | fail)
  refine (HF3.out _ _ HT4.out).mono ?_
  rintro e w5 ⟨rfl, hb5⟩
  have HM5 := Lib.hid (HM4.out.kept hb5)
  have HK5 := Lib.hid (HK4.out.kept hb5)
  have HT5 := Lib.hid (HT4.out.kept hb5)
  have HB5 := Lib.hid (HB4.out.trans (hb5.mono HB4.out.size))
  clear hb5 HM4 HK4 HT4 HB4
  clear he1 he2
  cases fl
  · go_wp2
    go_ret
    exact ⟨rfl, HB5.out⟩
  cases pf
  · go_wp2
    go_ret
    exact ⟨rfl, HB5.out⟩
  cases pp
  · go_wp2
    go_ret
    exact ⟨rfl, HB5.out⟩
  obtain ⟨hgt, hry, f4⟩ := HYES.out rfl rfl rfl
  have HF4 := Lib.hid f4
  have HRV2 := Lib.hid (by have := HRV.out; rwa [hgt, hry] at this)
  clear f4 hgt hry HYES HRV
  go_wp2_with fail
  refine (HRV2.out _).mono ?_
  rintro e w6 ⟨rfl, hb6⟩
  have HM6 := Lib.hid (HM5.out.kept hb6)
  have HK6 := Lib.hid (HK5.out.kept hb6)
  have HT6 := Lib.hid (HT5.out.kept hb6)
  have HB6 := Lib.hid (HB5.out.trans (hb6.mono HB5.out.size))
  clear hb6 HM5 HK5 HT5 HB5
  go_wp2_with (first | (refine wpList_load_row rfl 25 _ rfl _ rfl 25 _ _ _ (HM6.out) Try.underlying25 rfl (by kernel_rfl) ?_) | (refine wpList_load_row rfl 27 _ rfl _ rfl 27 _ _ _ (HK6.out) Try.underlying27 rfl (by kernel_rfl) ?_) | fail)
  refine (HF4.out _ _ HT6.out).mono ?_
  rintro e w7 ⟨rfl, hb7⟩
  have HB7 := Lib.hid (HB6.out.trans (hb7.mono HB6.out.size))
  have he3 : (rs == rs) = true := by simp
  go_wp2
  go_ret
  exact ⟨rfl, HB7.out⟩
end Go.Proofs.Ytkhglknpcajmiaa
