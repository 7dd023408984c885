/- Any list of changes drawn. -/
import Derived.Test.YtdflpkkcjbdpfaaDoorW5
namespace Go.Proofs.YtdflpkkcjbdpfaaDoor
open Go.RowKit
set_option linter.unusedSimpArgs false
set_option linter.unusedVariables false

/-- a stage and a new list of short texts are returned -/
def SomeAny (b : Nat) (a : Option Addr) (len cap m : Nat) (w : World) (e : Ending) (w' : World) : Prop :=
  ∃ (n : Int) (v : Value) (L : List (List Nat)), e = .returned (.tuple #[.int .i64 n, v]) ∧ 3 ≤ n ∧ n ≤ 9 ∧ New w.heap.size w' 9 v (strs L) ∧ L.length ≤ 41 ∧ (∀ l ∈ L, l.length ≤ 10) ∧ Dr b a len cap m w w'

set_option maxRecDepth 100000 in
set_option maxHeartbeats 4000000 in
theorem anyChanges_draw (b : Nat) (a : Option Addr) (len cap m : Nat) (hm : m ≤ 500000) (w : World) (hc : Cur w b a len cap m) :
    Calls Tryd.prog 42 #[.pointer (some ⟨b, 0, none⟩)] w (SomeAny b a len cap (m + 400) w) := by
  have HC := Lib.hid hc
  have hlt := hc.lt
  clear hc
  obtain ⟨i0, hi0, hz0, hz1, hz2⟩ := info_parts infoText
  have I0 := Lib.hid (⟨hi0, hz0, hz1, hz2⟩ : _ ∧ _ ∧ _ ∧ _)
  clear hi0 hz0 hz1 hz2
  go_enter Tryd.func42, Tryd.ntmps42
  go_wp2_with fail
  refine (stage_draw b a len cap m (by omega) _ HC.out).mono ?_
  rintro e w1 ⟨n, ⟨h3, h8⟩, rfl, hc1, ho1⟩
  obtain ⟨n, rfl⟩ := Int.eq_ofNat_of_zero_le (show 0 ≤ n by omega)
  have HD1 := Lib.hid ((Dr.start HC.out).call hc1 ho1)
  clear hc1 ho1
  go_wp2_with fail
  refine (changes_draw b a len cap _ n (by omega) (by omega) (by omega) _ HD1.out.cur).mono ?_
  rintro e w2 ⟨v, L, rfl, hn, hL, hs, hd⟩
  have HD2 := Lib.hid (HD1.out.call hd.cur hd.only)
  have HN2 := Lib.hid (hn.lower HD1.out.only.size)
  have HS := Lib.hid hs
  clear hn hd hs HD1
  go_wp2_with fail
  refine (pick_any b a len cap _ 20 (by omega) (by omega) (by omega) _ HD2.out.cur).mono ?_
  rintro e w3 ⟨x, hx, rfl, hc3, ho3⟩
  have HD3 := Lib.hid (HD2.out.call hc3 ho3)
  have HN3 := Lib.hid (HN2.out.only ho3 hlt)
  clear hc3 ho3 HD2 HN2
  have hx5 : x = 0 ∨ x = 1 ∨ x = 2 ∨ x = 3 ∨ 4 ≤ x := by omega
  rcases hx5 with rfl | rfl | rfl | rfl | h4
  · go_wp2_with fail
    refine (l1OwnS_any _ L w3 HN3.out.own.txts (by omega)).mono ?_
    rintro e w4 ⟨v4, rfl, hn4, hb4⟩
    have HD4 := Lib.hid (HD3.out.below HC.out (hb4.mono HD3.out.only.size))
    have HN4 := Lib.hid (hn4.lower HD3.out.only.size)
    clear hn4 hb4 HD3 HN3
    go_wp2_with (at_builtin; refine wpList_app1 rfl (.tmp 17) (.tmp 18) 24 rfl 9 i0 (.string ⟨#[]⟩) 16 Tryd.underlying24 I0.out.1 I0.out.2.1 I0.out.2.2.1 I0.out.2.2.2 rfl w.heap.size w4 _ (strs L) rfl HN4.out rfl rfl HD4.out.only.size (Below.refl _ _) (by rw [strs_len]; omega) (by omega) ?_)
    intro v7 w7 hn7 _ hb7 _
    have HD7 := Lib.hid (HD4.out.below HC.out hb7)
    have e7 : strs L ++ [.string ⟨#[120]⟩] = strs (L ++ [[120]]) := by simp [strs]; rfl
    rw [e7] at hn7
    have HH7 := Lib.hid hn7
    clear hn7 hb7 e7 HD4 HN4
    go_wp2
    go_ret2
    exact ⟨n, _, L ++ [[120]], rfl, h3, by omega, HH7.out, by simp; omega, small_app HS.out (by simp), HD7.out.more (by omega)⟩
  · go_wp2
    go_ret2
    exact ⟨n, _, [], rfl, h3, by omega, New.nil _ _ _, by simp, by simp, HD3.out.more (by omega)⟩
  · go_wp2
    go_ret2
    exact ⟨_, _, L, rfl, by omega, by omega, HN3.out, by omega, HS.out, HD3.out.more (by omega)⟩
  · go_wp2_with fail
    refine (l1OwnS_any _ L w3 HN3.out.own.txts (by omega)).mono ?_
    rintro e w4 ⟨v4, rfl, hn4, hb4⟩
    have HD4 := Lib.hid (HD3.out.below HC.out (hb4.mono HD3.out.only.size))
    have HN4 := Lib.hid (hn4.lower HD3.out.only.size)
    clear hn4 hb4 HD3 HN3
    go_wp2_with fail
    refine (pick_any b a len cap _ 2 (by omega) (by omega) (by omega) _ HD4.out.cur).mono ?_
    rintro e w5 ⟨y, hy, rfl, hc5, ho5⟩
    have HD5 := Lib.hid (HD4.out.call hc5 ho5)
    have HN5 := Lib.hid (HN4.out.only ho5 hlt)
    have hyi : (y : Int) < 2 := by omega
    clear hc5 ho5 HD4 HN4
    go_wp2_with fail
    go_loopg [5] (40 + y - L.length) (fun q hv wr => ∃ (H : List (List Nat)) (mm : Nat), New w.heap.size wr 9 hv (strs H) ∧ (∀ l ∈ H, l.length ≤ 10) ∧ Dr b a len cap mm w wr ∧ H.length + q = 40 + y ∧ mm + 2 * q ≤ m + 350)
    case atStart => exact ⟨L, _, HN5.out, HS.out, HD5.out, by omega, by omega⟩
    case round =>
      obtain ⟨H, mm, hhv, hsm, hdr, hL8, hmm⟩ := hrel
      have HD9 := Lib.hid hdr
      have HS9 := Lib.hid hsm
      obtain ⟨ao, co, hov, -⟩ := hhv.own.view
      rw [strs_len] at hov
      subst hov
      have HH9 := Lib.hid hhv
      clear hdr hhv hsm HD5 HN5
      by_cases hg : 0 < gk
      · obtain ⟨g', hg'⟩ : ∃ g', gk = g' + 1 := ⟨gk - 1, by omega⟩
        subst hg'
        have hli : (H.length : Int) < 40 + (y : Int) := by omega
        go_wp2_with fail
        refine (change_draw b a len cap mm n (by omega) (by omega) (by omega) _ HD9.out.cur).mono ?_
        rintro e5 w6 ⟨l5, hl5, rfl, hc5, ho5⟩
        have HD6 := Lib.hid (HD9.out.call hc5 ho5)
        have HH6 := Lib.hid (HH9.out.only ho5 hlt)
        have HL5 := Lib.hid (small_app HS9.out (txt_len (by omega) (by omega) hl5))
        clear hc5 ho5 hl5 HD9 HH9 HS9
        go_wp2_with (at_builtin; refine wpList_app1 rfl (.tmp 37) (.tmp 41) 24 rfl 9 i0 (.string ⟨#[]⟩) 16 Tryd.underlying24 I0.out.1 I0.out.2.1 I0.out.2.2.1 I0.out.2.2.2 rfl w.heap.size w6 _ (strs H) rfl HH6.out rfl rfl HD6.out.only.size (Below.refl _ _) (by rw [strs_len]; omega) (by omega) ?_)
        intro v7 w7 hn7 hk7 hb7 _
        have HD7 := Lib.hid (HD6.out.below HC.out hb7)
        have e7 : strs H ++ [.string (txt l5)] = strs (H ++ [l5]) := by simp [strs]
        rw [e7] at hn7
        have HH7 := Lib.hid hn7
        clear hn7 hk7 hb7 e7 HD6 HH6
        go_wp2
        go_roundg g'
        case measure => omega
        case rel => exact ⟨H ++ [l5], mm + 2, HH7.out, HL5.out, HD7.out, by simp; omega, by omega⟩
      · obtain rfl : gk = 0 := by omega
        have hli : ¬ ((H.length : Int) < 40 + (y : Int)) := by omega
        go_wp2
        go_ret2
        exact ⟨n, _, H, rfl, h3, by omega, HH9.out, by omega, HS9.out, HD9.out.more (by omega)⟩
  · have q0 : ((x : Int) == 0) = false := by rw [beq_eq_false_iff_ne]; omega
    have q1 : ((x : Int) == 1) = false := by rw [beq_eq_false_iff_ne]; omega
    have q2 : ((x : Int) == 2) = false := by rw [beq_eq_false_iff_ne]; omega
    have q3 : ((x : Int) == 3) = false := by rw [beq_eq_false_iff_ne]; omega
    go_wp2
    go_ret2
    exact ⟨n, _, L, rfl, h3, by omega, HN3.out, by omega, HS.out, HD3.out.more (by omega)⟩

/-- a stage and a new list of short texts are returned, and all that was there stands -/
def DrawnAny (w : World) (e : Ending) (w' : World) : Prop :=
  ∃ (n : Int) (v : Value) (L : List (List Nat)), e = .returned (.tuple #[.int .i64 n, v]) ∧ 3 ≤ n ∧ n ≤ 9 ∧ New w.heap.size w' 9 v (strs L) ∧ L.length ≤ 41 ∧ (∀ l ∈ L, l.length ≤ 10) ∧ Below w.heap.size w w'

set_option maxRecDepth 100000 in
set_option maxHeartbeats 1000000 in
theorem DrawNotationText_any (a : Option Addr) (len cap : Nat) (zs : List Int) (w : World) (hz : IsBytes w a len cap zs) (hl : len ≤ 1048576) :
    Calls Tryd.prog 20 #[.slice a len cap] w (DrawnAny w) := by
  have HCODE := Lib.hid (codeAt_of hz)
  clear hz
  go_enter Tryd.func20, Tryd.ntmps20
  go_wp2_with fail
  refine (anyChanges_draw w.heap.size a len cap 0 (by omega) _ (cur_new a len cap w HCODE.out hl)).mono ?_
  rintro e w1 ⟨n, v, L, rfl, h3, h9, hn, hL, hs, hd⟩
  have HB := Lib.hid (cur_below hd.only)
  have HN := Lib.hid (hn.lower (show w.heap.size ≤ (w.alloc _).heap.size by simp))
  have HS := Lib.hid hs
  clear hd hn hs
  go_wp2
  go_ret2
  exact ⟨n, v, L, rfl, h3, h9, HN.out, hL, HS.out, HB.out⟩
set_option maxRecDepth 100000 in
set_option maxHeartbeats 1000000 in
theorem DrawHalvesOf_any (a : Option Addr) (len cap : Nat) (zs : List Int) (w : World) (hz : IsBytes w a len cap zs) (hl : len ≤ 1048576) :
    Calls Tryd.prog 6 #[.slice a len cap] w (DrawnAny w) := by
  have HZ := Lib.hid hz
  clear hz
  go_enter Tryd.func6, Tryd.ntmps6
  go_wp2_with fail
  refine (DrawNotationText_any a len cap zs w HZ.out hl).mono ?_
  rintro e w1 ⟨n, v, L, rfl, h3, h9, hn, hL, hs, hd⟩
  have HB := Lib.hid hd
  have HN := Lib.hid hn
  have HS := Lib.hid hs
  clear hd hn hs
  go_wp2
  go_ret2
  exact ⟨n, v, L, rfl, h3, h9, HN.out, hL, HS.out, HB.out⟩
end Go.Proofs.YtdflpkkcjbdpfaaDoor
