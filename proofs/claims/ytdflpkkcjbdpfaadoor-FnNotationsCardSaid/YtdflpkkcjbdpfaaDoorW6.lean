/- A text spoilt. -/
import Derived.Test.YtdflpkkcjbdpfaaDoorK5
namespace Go.Proofs.YtdflpkkcjbdpfaaDoor
open Go.RowKit
set_option linter.unusedSimpArgs false
set_option linter.unusedVariables false

set_option maxRecDepth 100000 in
set_option maxHeartbeats 1000000 in
theorem spoilt_any (b : Nat) (a : Option Addr) (len cap m N : Nat) (t : ByteArray) (ht : t.size ≤ N) (hN : N ≤ 1000) (hm : m ≤ 800000) (w : World) (hc : Cur w b a len cap m) :
    Calls Tryd.prog 49 #[.pointer (some ⟨b, 0, none⟩), .string t, .string ⟨#[45, 120, 46, 44, 49, 52]⟩] w (SomeText (N + 2) b a len cap (m + 20) w) := by
  have HC := Lib.hid hc
  clear hc
  go_enter Tryd.func49, Tryd.ntmps49
  go_wp2_with fail
  refine (pick_any b a len cap m 2 (by omega) (by omega) (by omega) _ HC.out).mono ?_
  rintro e w1 ⟨x, hx, rfl, hc1, ho1⟩
  have HC1 := Lib.hid hc1
  have HO1 := Lib.hid ho1
  clear hc1 ho1
  go_wp2_with fail
  go_loopg [1, 7, 8, 9] (1 + x) (fun q t n _ _ wr => ∃ (s : ByteArray) (mm : Nat), q ≤ 2 ∧ s.size + q ≤ N + 2 ∧ mm + 6 * q ≤ m + 18 ∧ t = .string s ∧ n = .int .i64 q ∧ Cur wr b a len cap mm ∧ Only b w wr)
  case atStart => exact ⟨t, m + 2, by omega, by omega, by omega, rfl, by go_num, HC1.out, HO1.out⟩
  case round =>
    obtain ⟨s, mm, hq2, hsq, hmm, rfl, rfl, hc, ho⟩ := hrel
    have HC2 := Lib.hid hc
    have HO2 := Lib.hid ho
    clear hc ho HC1 HO1
    by_cases hgo : 0 < gk ∧ 0 < s.size
    · obtain ⟨hg, hs0⟩ := hgo
      obtain ⟨g', hg'⟩ : ∃ g', gk = g' + 1 := ⟨gk - 1, by omega⟩
      subst hg'
      have hs10 : s.size ≤ N + 1 := by omega
      have hs0i : (0 : Int) < s.size := by omega
      clear hg
      go_wp2_with fail
      refine (pick_any b a len cap mm s.size (by omega) hs0 (by omega) _ HC2.out).mono ?_
      rintro e w2 ⟨i, hi, rfl, hc3, ho3⟩
      have HC3 := Lib.hid hc3
      have HO3 := Lib.hid (HO2.out.trans ho3)
      clear hc3 ho3
      go_wp2_with fail
      refine (pick_any b a len cap (mm + 2) 6 (by omega) (by omega) (by omega) _ HC3.out).mono ?_
      rintro e w3 ⟨c, hc, rfl, hc4, ho4⟩
      have HC4 := Lib.hid hc4
      have HO4 := Lib.hid (HO3.out.trans ho4)
      clear hc4 ho4
      have hci : (c : Int) < 6 := by omega
      have hconv := fun (W : World) (v : Nat) => conv_dig (W.alloc (.cells #[.int .u8 v] 5)) W.heap.size 1 1 (fun _ => v) (fun i hi => by
        obtain rfl : i = 0 := by omega
        rw [World.cell?_alloc_at _ _ _ _ rfl]; rfl)
      go_wp2_with fail
      refine (pick_any b a len cap (mm + 4) 3 (by omega) (by omega) (by omega) _ (HC4.out.below ((Below.refl _ _).alloc (Nat.le_refl _) _))).mono ?_
      rintro e w5 ⟨y, hy, rfl, hc6, ho6⟩
      have HC6 := Lib.hid hc6
      have HO6 := Lib.hid ((HO4.out.trans (Only.of_below (b := b) ((Below.refl w3.heap.size w3).alloc (Nat.le_refl _) _))).trans ho6)
      clear hc6 ho6 hconv
      obtain ⟨ws, hws⟩ : ∃ ws : ByteArray, (strOf 1 fun _ => ((⟨#[45, 120, 46, 44, 49, 52]⟩ : ByteArray)[c]'hc).toNat) = ws := ⟨_, rfl⟩
      have hw1 : ws.size = 1 := by rw [← hws, strOf_size]
      rw [hws]
      have HWS := Lib.hid hws
      clear hws
      have hii : (i : Int) + 1 ≤ s.size := by omega
      have hwp : IntKind.i64.wrap ((i : Int) + 1) = (i : Int) + 1 := IntWalk.i64_in _ (by omega)
      have hmin : min i s.size = i := by omega
      have hm1 : ¬ 9223372036854775807 < i + 1 := by omega
      have hm2 : ¬ 9223372036854775807 < i + 1 + (s.size - i) := by omega
      have hm3 : ¬ 9223372036854775807 < i + 1 + (s.size - (i + 1)) := by omega
      have hm4 : ¬ 9223372036854775807 < i + (s.size - (i + 1)) := by omega
      have hy3 : y = 0 ∨ y = 1 ∨ y = 2 := by omega
      rcases hy3 with rfl | rfl | rfl
      all_goals
        go_wp2_with fail
        go_quiet (fail)
        go_wp2
        go_roundg g'
        case measure => omega
        case rel =>
          refine ⟨_, mm + 6, by omega, ?_, by omega, rfl, by go_num, HC6.out, Only.drewN HO6.out _⟩
          simp only [ByteArray.size_append, ByteArray.size_extract]
          omega
    · by_cases hg : 0 < gk
      · have hs0 : s.size = 0 := by omega
        have hs0i : ¬ ((0 : Int) < s.size) := by omega
        have hgi : (0 : Int) < gk := by omega
        have HS0 := Lib.hid hs0
        clear hs0 hgo
        go_wp2
        go_ret
        exact ⟨s, by omega, rfl, HC2.out.more (by omega), HO2.out⟩
      · obtain rfl : gk = 0 := by omega
        clear hgo
        go_wp2
        go_ret
        exact ⟨s, by omega, rfl, HC2.out.more (by omega), HO2.out⟩

end Go.Proofs.YtdflpkkcjbdpfaaDoor
