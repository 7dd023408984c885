/- DrawCloseRows, DrawGoodRows. -/
import Derived.Test.YtapcfojnljnoaaaLE
namespace Go.Proofs.Ytapcfojnljnoaaa
open Go.RowKit
set_option linter.unusedSimpArgs false
set_option linter.unusedVariables false

def DrawnTexts (most : Nat) (w : World) (e : Ending) (w' : World) : Prop :=
  ∃ (L : List (List Nat)) (v : Value), L.length ≤ most ∧ (∀ l ∈ L, l.length ≤ 8) ∧ e = .returned v ∧ New w.heap.size w' 9 v (strs L) ∧ Below w.heap.size w w'
set_option maxRecDepth 100000 in
set_option maxHeartbeats 1000000 in
theorem DrawCloseRows_any (a : Option Addr) (len cap : Nat) (zs : List Int) (w : World) (hz : IsBytes w a len cap zs) (hl : len ≤ 1048576) :
    Calls Try.prog 41 #[.slice a len cap] w (DrawnTexts 3 w) := by
  have HCODE := Lib.hid (codeAt_of hz)
  clear hz
  unfold DrawnTexts
  go_enter Try.func41, Try.ntmps41
  go_wp2_with fail
  refine (one_any w.heap.size a len cap 0 10 (by omega) (by omega) (by omega) _ (cur_new a len cap w HCODE.out hl)).mono ?_
  rintro e w1 ⟨t, rfl, hc1, ho1⟩
  have HC1 := Lib.hid hc1
  have HO1 := Lib.hid ho1
  have hlt := hc1.lt
  have HSZ := Lib.hid (show w.heap.size ≤ w1.heap.size from Nat.le_of_lt hlt)
  clear hc1 ho1
  cases t
  · clear hlt
    go_wp2_with fail
    refine (gens_draw w.heap.size a len cap _ (by omega) _ HC1.out).mono ?_
    rintro e w3 ⟨n, fs, v, h3, h5, h1, h2, hr, rfl, hn, hc3, ho3⟩
    have HN := Lib.hid (hn.lower HSZ.out)
    have HO3 := Lib.hid (HO1.out.trans ho3)
    obtain ⟨ua, uc, rfl, -⟩ := hn.own.view
    clear hn hc3 ho3 hr
    go_wp2
    go_ret
    exact ⟨rowsL n fs, _, by rw [rowsL_len]; omega, rowsL_small (by omega), rfl, HN.out, cur_below HO3.out⟩
  · go_wp2_with fail
    refine (among_any (fun n => 3 ≤ n ∧ n ≤ 8) w.heap.size a len cap _ 2 w1.heap.size 2 (fun i => [6, 7].getD i 0) (by omega) (by omega) (by omega) _ (HC1.out.below ((Below.refl _ _).alloc (Nat.le_refl _) _)) (by omega) (fun i hi => ⟨?_, list_cells w1 [6, 7] _ i hi⟩)).mono ?_
    · have : i = 0 ∨ i = 1 := by omega
      rcases this with rfl | rfl <;> decide
    rintro e w3 ⟨x, hx, rfl, hc3, ho3⟩
    obtain ⟨n, rfl⟩ : ∃ n : Nat, x = (n : Int) := ⟨x.toNat, by omega⟩
    have h3 : 3 ≤ n := by omega
    have h8 : n ≤ 8 := by omega
    have HC3 := Lib.hid hc3
    have HO3 := Lib.hid (HO1.out.trans (Only.trans (Only.of_below (b := w.heap.size) ((Below.refl w1.heap.size w1).alloc (Nat.le_refl _) _)) ho3))
    have HSZ3 := Lib.hid (show w.heap.size ≤ w3.heap.size from Nat.le_of_lt hc3.lt)
    clear hx hc3 ho3 hlt
    go_wp2_with fail
    refine (rowsOf_draw w.heap.size a len cap _ n 3 (by omega) h3 h8 (by omega) _ HC3.out).mono ?_
    rintro e w4 ⟨L, v, h1, h2, rfl, hn, hc4, ho4⟩
    have HN := Lib.hid (hn.lower HSZ3.out)
    have HO4 := Lib.hid (HO3.out.trans ho4)
    have HL := Lib.hid (And.intro h1 h2)
    obtain ⟨ua, uc, rfl, -⟩ := hn.own.view
    clear hn hc4 ho4 h1 h2
    go_wp2
    go_ret
    exact ⟨L, _, HL.out.1, HL.out.2, rfl, HN.out, cur_below HO4.out⟩
set_option maxRecDepth 100000 in
set_option maxHeartbeats 1000000 in
theorem DrawGoodRows_any (a : Option Addr) (len cap : Nat) (zs : List Int) (w : World) (hz : IsBytes w a len cap zs) (hl : len ≤ 1048576) :
    Calls Try.prog 45 #[.slice a len cap] w (DrawnTexts 7 w) := by
  have HCODE := Lib.hid (codeAt_of hz)
  obtain ⟨i0, hi0, hz0, hz1, hz2⟩ := info_parts infoText
  have I0 := Lib.hid (⟨hi0, hz0, hz1, hz2⟩ : _ ∧ _ ∧ _ ∧ _)
  clear hz hi0 hz0 hz1 hz2
  unfold DrawnTexts
  go_enter Try.func45, Try.ntmps45
  go_wp2_with fail
  refine (stage_draw w.heap.size a len cap 0 (by omega) _ (cur_new a len cap w HCODE.out hl)).mono ?_
  rintro e w1 ⟨x, ⟨hx3, hx8⟩, rfl, hc1, ho1⟩
  obtain ⟨n, rfl⟩ : ∃ n : Nat, x = (n : Int) := ⟨x.toNat, by omega⟩
  have h3 : 3 ≤ n := by omega
  have h8 : n ≤ 8 := by omega
  have HC1 := Lib.hid hc1
  have HO1 := Lib.hid ho1
  have HSZ := Lib.hid (show w.heap.size < w1.heap.size from hc1.lt)
  clear hc1 ho1 hx3 hx8
  go_wp2_with fail
  refine (rowsOf_draw w.heap.size a len cap _ n 6 (by omega) h3 h8 (by omega) _ HC1.out).mono ?_
  rintro e w4 ⟨L, v, h1, h2, rfl, hn, hc4, ho4⟩
  have HN := Lib.hid hn
  have HC4 := Lib.hid hc4
  have HO4 := Lib.hid (HO1.out.trans ho4)
  have HL := Lib.hid (And.intro h1 h2)
  obtain ⟨ua, uc, rfl, -⟩ := hn.own.view
  clear hn hc4 ho4 h1 h2
  go_wp2_with fail
  refine (one_any w.heap.size a len cap _ 12 (by omega) (by omega) (by omega) _ HC4.out).mono ?_
  rintro e w5 ⟨t, rfl, hc5, ho5⟩
  have HO5 := Lib.hid (HO4.out.trans ho5)
  have HB5 := Lib.hid (cur_below HO5.out)
  have HN5 := Lib.hid ((HN.out.only ho5 HSZ.out).lower (Nat.le_of_lt HSZ.out))
  clear hc5 ho5
  cases t
  · go_wp2
    go_ret
    exact ⟨L, _, by have := HL.out.1; omega, HL.out.2, rfl, HN5.out, HB5.out⟩
  · have hL6 := HL.out.1
    go_wp2_with (at_builtin; refine wpList_app1 rfl (.tmp 14) (.tmp 15) 22 rfl 9 i0 (.string ⟨#[]⟩) 16 Try.underlying22 I0.out.1 I0.out.2.1 I0.out.2.2.1 I0.out.2.2.2 rfl w.heap.size w _ (strs L) rfl HN5.out rfl rfl HB5.out.size HB5.out (by rw [strs_len]; omega) (by omega) ?_)
    intro v7 w7 hn7 _ hb7 _
    rw [show (Value.string ⟨#[49, 50, 51]⟩) = .string (txt [49, 50, 51]) from rfl, strs_snoc] at hn7
    have HN7 := Lib.hid hn7
    have HB7 := Lib.hid hb7
    obtain ⟨ua7, uc7, rfl, -⟩ := hn7.own.view
    clear hn7 hb7
    go_wp2
    go_ret
    exact ⟨L ++ [[49, 50, 51]], _, by rw [List.length_append]; simp; omega, fun l hl => by
      rcases List.mem_append.1 hl with h | h
      · exact HL.out.2 l h
      · simp at h; rw [h]; simp, rfl, HN7.out, HB7.out⟩
end Go.Proofs.Ytapcfojnljnoaaa
