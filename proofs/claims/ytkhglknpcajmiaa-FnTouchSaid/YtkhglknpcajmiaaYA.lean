/- Touches drawn. -/
import Derived.Test.YtkhglknpcajmiaaG1
namespace Go.Proofs.Ytkhglknpcajmiaa
open Go.RowKit
set_option linter.unusedSimpArgs false
set_option linter.unusedVariables false

def fivesT : List ByteArray := [⟨#[112]⟩, ⟨#[112]⟩, ⟨#[98]⟩, ⟨#[115]⟩, ⟨#[98]⟩]
theorem fivesT_small : ∀ s ∈ fivesT, s.size ≤ 1 := by
  intro s hs
  simp [fivesT] at hs
  rcases hs with rfl | rfl | rfl | rfl <;> decide
def threesT : List ByteArray := [⟨#[112]⟩, ⟨#[98]⟩, ⟨#[115]⟩]
theorem threesT_small : ∀ s ∈ threesT, s.size ≤ 1 := by
  intro s hs
  simp [threesT] at hs
  rcases hs with rfl | rfl | rfl <;> decide
def spoilsT : List ByteArray := [⟨#[]⟩, ⟨#[120]⟩, ⟨#[112, 66]⟩, ⟨#[112, 32, 98]⟩]
theorem spoilsT_small : ∀ s ∈ spoilsT, s.size ≤ 130 := by
  intro s hs
  simp [spoilsT] at hs
  rcases hs with rfl | rfl | rfl | rfl <;> decide

set_option maxRecDepth 100000 in
set_option maxHeartbeats 1000000 in
theorem touch_draw (b : Nat) (a : Option Addr) (len cap m : Nat) (hm : m ≤ 800000) (w : World) (hc : Cur w b a len cap m) :
    Calls Try.prog 151 #[.pointer (some ⟨b, 0, none⟩), .int .i64 9] w (SomeText 130 b a len cap (m + 30) w) := by
  have HC := Lib.hid hc
  clear hc
  unfold SomeText
  go_enter Try.func151, Try.ntmps151
  go_wp2_with fail
  refine (pick_any b a len cap m 9 (by omega) (by omega) (by omega) _ HC.out).mono ?_
  rintro e w1 ⟨x, hx, rfl, hc1, ho1⟩
  have HC1 := Lib.hid hc1
  have HO1 := Lib.hid ho1
  have hxi : (x : Int) < 9 := by omega
  have hwp : IntKind.i64.wrap (1 + (x : Int)) = ((x + 1 : Nat) : Int) := by rw [show (1 : Int) + x = ((x + 1 : Nat) : Int) by omega]; exact IntWalk.i64_in _ (by omega)
  clear hc1 ho1
  go_wp2
  go_loopg [5, 6] (x + 1) (fun q u i wr => ∃ t : ByteArray, u = .string t ∧ i = .int .i64 q ∧ q ≤ 9 ∧ t.size + q ≤ 9 ∧ Cur wr b a len cap (m + 2 + 2 * (9 - q)) ∧ Only b w wr)
  case atStart => exact ⟨⟨#[]⟩, rfl, by first | rfl | go_num | (congr 1; omega), by omega, by show 0 + (x + 1) ≤ 9; omega, HC1.out.more (by omega), HO1.out⟩
  case round =>
    clear HC1 HO1
    obtain ⟨t, rfl, rfl, hq9, hts, hcu, hon⟩ := hrel
    have HCU := Lib.hid hcu
    have HON := Lib.hid hon
    clear hcu hon
    by_cases hq0 : 0 < gk
    · obtain ⟨q, rfl⟩ : ∃ q, gk = q + 1 := ⟨gk - 1, by omega⟩
      have hqi : (0 : Int) < ((q + 1 : Nat) : Int) := by omega
      have HOF : Hid (Calls Try.prog 104 #[.pointer (some ⟨b, 0, none⟩), .slice (some ⟨wr.heap.size, 0, none⟩) 5 5] (wr.alloc (.cells #[.string ⟨#[112]⟩, .string ⟨#[112]⟩, .string ⟨#[98]⟩, .string ⟨#[115]⟩, .string ⟨#[98]⟩] 9)) fun e w' => ∃ s : ByteArray, s.size ≤ 1 ∧ e = .returned (.string s) ∧ Cur w' b a len cap (m + 2 + 2 * (9 - (q + 1)) + 2) ∧ Only b wr w') :=
        Lib.hid (ofK_any 1 b a len cap (m + 2 + 2 * (9 - (q + 1))) fivesT fivesT_small (by omega) (by decide) (by decide) wr HCU.out 9)
      go_wp2_with fail
      refine HOF.out.mono ?_
      rintro e w3 ⟨s3, hs3, rfl, hc3, ho3⟩
      have HC3 := Lib.hid hc3
      have HO3 := Lib.hid (HON.out.trans ho3)
      have hmx : ¬ 9223372036854775807 < t.size + s3.size := by omega
      have HSZ : Hid ((t ++ s3).size + q ≤ 9) := Lib.hid (by rw [ByteArray.size_append]; omega)
      have hwq : IntKind.i64.wrap (((q + 1 : Nat) : Int) - 1) = (q : Int) := by rw [show (((q + 1 : Nat) : Int) - 1) = (q : Int) by omega]; exact IntWalk.i64_in _ (by omega)
      clear hc3 ho3 HOF HCU HON
      go_wp2
      go_roundg q
      case measure => omega
      case rel => exact ⟨t ++ s3, rfl, by first | rfl | go_num | (congr 1; omega), by omega, HSZ.out, HC3.out.more (by omega), HO3.out⟩
    · obtain rfl : gk = 0 := by omega
      have hqi : ¬ (0 : Int) < ((0 : Nat) : Int) := by omega
      go_wp2_with fail
      refine (one_any b a len cap (m + 2 + 2 * (9 - 0)) 3 (by omega) (by omega) (by omega) _ HCU.out).mono ?_
      rintro e w4 ⟨t4, rfl, hc4, ho4⟩
      have HC4 := Lib.hid (hc4.more (m' := m + 30) (by omega))
      have HO4 := Lib.hid (HON.out.trans ho4)
      have hmx : ¬ 9223372036854775807 < t.size + t.size := by omega
      have HSZ : Hid ((t ++ t).size ≤ 130) := Lib.hid (by rw [ByteArray.size_append]; omega)
      have HSZ1 : Hid (t.size ≤ 130) := Lib.hid (by omega)
      clear hc4 ho4 HCU HON
      cases t4
      · go_wp2
        go_ret
        exact ⟨t, HSZ1.out, rfl, HC4.out, HO4.out⟩
      · go_wp2
        go_ret
        exact ⟨t ++ t, HSZ.out, rfl, HC4.out, HO4.out⟩

set_option maxRecDepth 100000 in
set_option maxHeartbeats 1000000 in
theorem anyTouch_draw (b : Nat) (a : Option Addr) (len cap m : Nat) (hm : m ≤ 700000) (w : World) (hc : Cur w b a len cap m) :
    Calls Try.prog 120 #[.pointer (some ⟨b, 0, none⟩)] w (SomeText 130 b a len cap (m + 200) w) := by
  have HC := Lib.hid hc
  clear hc
  unfold SomeText
  go_enter Try.func120, Try.ntmps120
  go_wp2_with fail
  refine (pick_any b a len cap m 16 (by omega) (by omega) (by omega) _ HC.out).mono ?_
  rintro e w1 ⟨x, hx, rfl, hc1, ho1⟩
  have HC1 := Lib.hid hc1
  have HO1 := Lib.hid ho1
  have hlt := hc1.lt
  clear hc1 ho1
  by_cases h0 : x = 0
  · subst h0
    have HOF : Hid (Calls Try.prog 104 #[.pointer (some ⟨b, 0, none⟩), .slice (some ⟨w1.heap.size, 0, none⟩) 4 4] (w1.alloc (.cells #[.string ⟨#[]⟩, .string ⟨#[120]⟩, .string ⟨#[112, 66]⟩, .string ⟨#[112, 32, 98]⟩] 9)) fun e w' => ∃ s : ByteArray, s.size ≤ 130 ∧ e = .returned (.string s) ∧ Cur w' b a len cap (m + 2 + 2) ∧ Only b w1 w') :=
      Lib.hid (ofK_any 130 b a len cap (m + 2) spoilsT spoilsT_small (by omega) (by decide) (by decide) w1 HC1.out 9)
    go_wp2_with fail
    refine HOF.out.mono ?_
    rintro e w3 ⟨s3, hs3, rfl, hc3, ho3⟩
    have HC3 := Lib.hid (hc3.more (m' := m + 200) (by omega))
    have HO3 := Lib.hid (HO1.out.trans ho3)
    have HS3 := Lib.hid hs3
    clear hc3 ho3 HOF hs3
    go_wp2
    go_ret
    exact ⟨s3, HS3.out, rfl, HC3.out, HO3.out⟩
  by_cases h1 : x = 1
  · subst h1
    clear h0
    have HAM : Hid (Calls Try.prog 150 #[.pointer (some ⟨b, 0, none⟩), .slice (some ⟨w1.heap.size, 0, none⟩) 3 3] (w1.alloc (.cells #[.int .i64 59, .int .i64 60, .int .i64 61] 3)) (SomeInt (fun n => 59 ≤ n ∧ n ≤ 61) b a len cap (m + 2 + 2) (w1.alloc (.cells #[.int .i64 59, .int .i64 60, .int .i64 61] 3)))) :=
      Lib.hid (among_any (fun n => 59 ≤ n ∧ n ≤ 61) b a len cap (m + 2) 3 w1.heap.size 3 (fun i => [59, 60, 61].getD i 0) (by omega) (by omega) (by omega) _ (HC1.out.below ((Below.refl _ _).alloc (Nat.le_refl _) _)) (by omega) (fun i hi => ⟨by
        have : i = 0 ∨ i = 1 ∨ i = 2 := by omega
        rcases this with rfl | rfl | rfl <;> decide, list_cells w1 [59, 60, 61] _ i hi⟩))
    unfold SomeInt at HAM
    go_wp2_with fail
    refine HAM.out.mono ?_
    rintro e w2 ⟨y, ⟨hy1, hy2⟩, rfl, hc2, ho2⟩
    obtain ⟨z, rfl⟩ := Int.eq_ofNat_of_zero_le (show 0 ≤ y by omega)
    have HC2 := Lib.hid hc2
    have HO2 := Lib.hid (HO1.out.trans (Only.trans (Only.of_below (b := b) ((Below.refl w1.heap.size w1).alloc (Nat.le_refl _) _)) ho2))
    clear hc2 ho2 HAM HC1 HO1
    have hz61 : z ≤ 61 := by omega
    go_wp2
    go_loopg [3, 4] z (fun q u i wr => ∃ t : ByteArray, u = .string t ∧ i = .int .i64 q ∧ q ≤ 61 ∧ t.size + q ≤ 61 ∧ Cur wr b a len cap (m + 4 + 2 * (61 - q)) ∧ Only b w wr)
    case atStart => exact ⟨⟨#[]⟩, rfl, rfl, hz61, by show 0 + z ≤ 61; omega, HC2.out.more (by omega), HO2.out⟩
    case round =>
      clear HC2 HO2
      obtain ⟨t, rfl, rfl, hq9, hts, hcu, hon⟩ := hrel
      have HCU := Lib.hid hcu
      have HON := Lib.hid hon
      clear hcu hon
      by_cases hq0 : 0 < gk
      · obtain ⟨q, rfl⟩ : ∃ q, gk = q + 1 := ⟨gk - 1, by omega⟩
        have hqi : (0 : Int) < ((q + 1 : Nat) : Int) := by omega
        have HOF : Hid (Calls Try.prog 104 #[.pointer (some ⟨b, 0, none⟩), .slice (some ⟨wr.heap.size, 0, none⟩) 3 3] (wr.alloc (.cells #[.string ⟨#[112]⟩, .string ⟨#[98]⟩, .string ⟨#[115]⟩] 9)) fun e w' => ∃ s : ByteArray, s.size ≤ 1 ∧ e = .returned (.string s) ∧ Cur w' b a len cap (m + 4 + 2 * (61 - (q + 1)) + 2) ∧ Only b wr w') :=
          Lib.hid (ofK_any 1 b a len cap (m + 4 + 2 * (61 - (q + 1))) threesT threesT_small (by omega) (by decide) (by decide) wr HCU.out 9)
        go_wp2_with fail
        refine HOF.out.mono ?_
        rintro e w3 ⟨s3, hs3, rfl, hc3, ho3⟩
        have HC3 := Lib.hid hc3
        have HO3 := Lib.hid (HON.out.trans ho3)
        have hmx : ¬ 9223372036854775807 < t.size + s3.size := by omega
        have HSZ : Hid ((t ++ s3).size + q ≤ 61) := Lib.hid (by rw [ByteArray.size_append]; omega)
        have hwq : IntKind.i64.wrap (((q + 1 : Nat) : Int) - 1) = (q : Int) := by rw [show (((q + 1 : Nat) : Int) - 1) = (q : Int) by omega]; exact IntWalk.i64_in _ (by omega)
        clear hc3 ho3 HOF HCU HON
        go_wp2
        go_roundg q
        case measure => omega
        case rel => exact ⟨t ++ s3, rfl, by first | rfl | go_num | (congr 1; omega), by omega, HSZ.out, HC3.out.more (by omega), HO3.out⟩
      · obtain rfl : gk = 0 := by omega
        have hqi : ¬ (0 : Int) < ((0 : Nat) : Int) := by omega
        have HC4 := Lib.hid (HCU.out.more (m' := m + 200) (by omega))
        have HSZ1 : Hid (t.size ≤ 130) := Lib.hid (by omega)
        clear HCU
        go_wp2
        go_ret
        exact ⟨t, HSZ1.out, rfl, HC4.out, HON.out⟩
  · have hx0 : ((x : Int) == 0) = false := by rw [beq_eq_false_iff_ne]; omega
    have hx1 : ((x : Int) == 1) = false := by rw [beq_eq_false_iff_ne]; omega
    clear h0 h1
    go_wp2_with fail
    refine (touch_draw b a len cap (m + 2) (by omega) _ HC1.out).mono ?_
    rintro e w3 ⟨s3, hs3, rfl, hc3, ho3⟩
    have HC3 := Lib.hid (hc3.more (m' := m + 200) (by omega))
    have HO3 := Lib.hid (HO1.out.trans ho3)
    have HS3 := Lib.hid hs3
    clear hc3 ho3 hs3
    go_wp2
    go_ret
    exact ⟨s3, HS3.out, rfl, HC3.out, HO3.out⟩
end Go.Proofs.Ytkhglknpcajmiaa
