/- DrawOrbitsOf, DrawSortRows, DrawLeftTimes. -/
import Derived.Test.YtapcfojnljnoaaaGreatLDF
namespace Go.Proofs.YtapcfojnljnoaaaGreat
open Go.RowKit
set_option linter.unusedSimpArgs false
set_option linter.unusedVariables false

/-- drawn texts and a number -/
def DrawnTI (w : World) (e : Ending) (w' : World) : Prop :=
  ∃ (L : List (List Nat)) (v : Value) (n : Nat), L.length ≤ 2 ∧ (∀ l ∈ L, l.length ≤ 8) ∧ 3 ≤ n ∧ n ≤ 6 ∧ e = .returned (.tuple #[v, .int .i64 n]) ∧ New w.heap.size w' 9 v (strs L) ∧ Below w.heap.size w w'
set_option maxRecDepth 100000 in
set_option maxHeartbeats 1000000 in
theorem DrawOrbitsOf_any (a : Option Addr) (len cap : Nat) (zs : List Int) (w : World) (hz : IsBytes w a len cap zs) (hl : len ≤ 1048576) :
    Calls Tryz.prog 5 #[.slice a len cap] w (DrawnTI w) := by
  have HCODE := Lib.hid (codeAt_of hz)
  clear hz
  unfold DrawnTI
  go_enter Tryz.func5, Tryz.ntmps5
  have hc0 := cur_new a len cap w HCODE.out hl
  have hlt0 := hc0.lt
  go_wp2_with fail
  refine (gens_draw w.heap.size a len cap 0 (by omega) _ hc0).mono ?_
  rintro e w3 ⟨n, fs, v, h3, h5, h1, h2, hr, rfl, hn, hc3, ho3⟩
  have HC3 := Lib.hid hc3
  have HO3 := Lib.hid ho3
  obtain ⟨B, hB⟩ : ∃ B, (w.alloc (.cells #[.slice a len cap, .int .i64 0, .int .u64 0] 43)).heap.size = B := ⟨_, rfl⟩
  rw [hB] at hn hlt0
  have HLT := Lib.hid hlt0
  have HN := Lib.hid hn
  have hn0 := hn.own
  have hnb := hn.base
  obtain ⟨k, hk⟩ : ∃ k, fs.length = k := ⟨_, rfl⟩
  obtain ⟨va, vc, rfl, hva⟩ := hn.own.view
  have hkl : (strs (rowsL n fs)).length = k := by rw [strs_len, rowsL_len, hk]
  rw [hkl] at HN hva hn0 hnb ⊢
  obtain ⟨g, rfl⟩ := hva (by omega)
  have c0 := hn0.cell 0 _ (strs_rowsL_get n fs 0 (by omega))
  have hs0 : (strOf n (fs[0]'(by omega))).size = n := strOf_size _ _
  generalize strOf n (fs[0]'(by omega)) = s0 at *
  have hkp : (0 : Int) < (k : Int) := by omega
  have HSM := Lib.hid (rowsL_small (n := n) (by omega) (fs := fs))
  have HLE : Hid ((rowsL n fs).length ≤ 2) := Lib.hid (by rw [rowsL_len]; omega)
  clear hc0 hlt0 hn hc3 ho3 hB hn0 hnb hva hr
  go_wp2_with fail
  refine (pick_any w.heap.size a len cap _ 10 (by omega) (by omega) (by omega) _ HC3.out).mono ?_
  rintro e w4 ⟨x, hx, rfl, hc4, ho4⟩
  have HB4 := Lib.hid (cur_below (HO3.out.trans ho4))
  have HN4 := Lib.hid ((HN.out.only ho4 HLT.out).lower (Nat.le_of_lt HLT.out))
  try rw [hs0]
  clear hc4 ho4 c0 hs0 HN
  by_cases e0 : x = 0
  · subst e0
    have q0 : (((0 : Nat) : Int) == 0) = true := by decide
    go_wp2
    go_ret2
    exact ⟨[], _, n, by simp, fun l hl => by simp at hl, h3, by omega, rfl, New.nil _ _ _, HB4.out⟩
  · have q0 : ((x : Int) == 0) = false := by rw [beq_eq_false_iff_ne]; omega
    by_cases e1 : x = 1
    · subst e1
      have q1 : (((1 : Nat) : Int) == 1) = true := by decide
      go_wp2
      go_ret2
      exact ⟨rowsL n fs, _, n + 1, HLE.out, HSM.out, by omega, by omega, by go_num, HN4.out, HB4.out⟩
    · have q1 : ((x : Int) == 1) = false := by rw [beq_eq_false_iff_ne]; omega
      go_wp2
      go_ret2
      exact ⟨rowsL n fs, _, n, HLE.out, HSM.out, h3, by omega, rfl, HN4.out, HB4.out⟩
set_option maxRecDepth 100000 in
set_option maxHeartbeats 1000000 in
theorem DrawSortRows_any (a : Option Addr) (len cap : Nat) (zs : List Int) (w : World) (hz : IsBytes w a len cap zs) (hl : len ≤ 1048576) :
    Calls Tryz.prog 11 #[.slice a len cap] w (DrawnTexts 7 w) := by
  have HD := Lib.hid (DrawGoodRows_any a len cap zs w hz hl)
  clear hz
  unfold DrawnTexts at HD ⊢
  go_enter Tryz.func11, Tryz.ntmps11
  go_wp2_with fail
  refine HD.out.mono ?_
  rintro e w1 ⟨L, v, h7, h8, rfl, hn, hb⟩
  have HN := Lib.hid hn
  have HB := Lib.hid hb
  have HL := Lib.hid (And.intro h7 h8)
  obtain ⟨ua, uc, rfl, -⟩ := hn.own.view
  clear hn hb h7 h8
  go_wp2
  go_ret
  exact ⟨L, _, HL.out.1, HL.out.2, rfl, HN.out, HB.out⟩
/-- a drawn text and drawn texts -/
def DrawnST (w : World) (e : Ending) (w' : World) : Prop :=
  ∃ (s : ByteArray) (L : List (List Nat)) (v : Value), s.size ≤ 10 ∧ L.length ≤ 6 ∧ (∀ l ∈ L, l.length ≤ 8) ∧ e = .returned (.tuple #[.string s, v]) ∧ New w.heap.size w' 9 v (strs L) ∧ Below w.heap.size w w'
set_option maxRecDepth 100000 in
set_option maxHeartbeats 1000000 in
theorem DrawLeftTimes_any (a : Option Addr) (len cap : Nat) (zs : List Int) (w : World) (hz : IsBytes w a len cap zs) (hl : len ≤ 1048576) :
    Calls Tryz.prog 14 #[.slice a len cap] w (DrawnST w) := by
  have HCODE := Lib.hid (codeAt_of hz)
  clear hz
  unfold DrawnST
  go_enter Tryz.func14, Tryz.ntmps14
  go_wp2_with fail
  refine (stage_draw w.heap.size a len cap 0 (by omega) _ (cur_new a len cap w HCODE.out hl)).mono ?_
  rintro e w1 ⟨x, ⟨hx3, hx8⟩, rfl, hc1, ho1⟩
  obtain ⟨n, rfl⟩ : ∃ n : Nat, x = (n : Int) := ⟨x.toNat, by omega⟩
  have h3 : 3 ≤ n := by omega
  have h8 : n ≤ 8 := by omega
  have HC1 := Lib.hid hc1
  have HO1 := Lib.hid ho1
  clear hc1 ho1 hx3 hx8
  go_wp2_with fail
  refine (one_any w.heap.size a len cap _ 10 (by omega) (by omega) (by omega) _ HC1.out).mono ?_
  rintro e w2 ⟨t, rfl, hc2, ho2⟩
  have HC2 := Lib.hid hc2
  have HO2 := Lib.hid (HO1.out.trans ho2)
  clear hc2 ho2 HC1 HO1
  cases t
  · go_wp2_with fail
    refine (row_draw6 w.heap.size a len cap _ n (by omega) h3 h8 _ HC2.out).mono ?_
    rintro e w5 ⟨f, hf, rfl, hc5, ho5⟩
    have HC5 := Lib.hid hc5
    have HO5 := Lib.hid (HO2.out.trans ho5)
    have HSZ := Lib.hid (show w.heap.size ≤ w5.heap.size from Nat.le_of_lt hc5.lt)
    have hsz : (strOf n f).size ≤ 10 := by rw [strOf_size]; omega
    generalize strOf n f = s at *
    clear hf hc5 ho5
    go_wp2_with fail
    refine (rowsOf_draw w.heap.size a len cap _ n 6 (by omega) h3 h8 (by omega) _ HC5.out).mono ?_
    rintro e w6 ⟨L, v, h1, h2, rfl, hn, hc6, ho6⟩
    have HN := Lib.hid (hn.lower HSZ.out)
    have HB6 := Lib.hid (cur_below (HO5.out.trans ho6))
    have HL := Lib.hid (And.intro h1 h2)
    obtain ⟨ua, uc, rfl, -⟩ := hn.own.view
    clear hn hc6 ho6 h1 h2
    go_wp2
    go_ret2
    exact ⟨s, L, _, hsz, HL.out.1, HL.out.2, rfl, HN.out, HB6.out⟩
  · go_wp2_with fail
    refine (anyRow_draw w.heap.size a len cap _ (by omega) _ HC2.out).mono ?_
    rintro e w5 ⟨s, hsz, rfl, hc5, ho5⟩
    have HC5 := Lib.hid hc5
    have HO5 := Lib.hid (HO2.out.trans ho5)
    have HSZ := Lib.hid (show w.heap.size ≤ w5.heap.size from Nat.le_of_lt hc5.lt)
    clear hc5 ho5
    go_wp2_with fail
    refine (rowsOf_draw w.heap.size a len cap _ n 6 (by omega) h3 h8 (by omega) _ HC5.out).mono ?_
    rintro e w6 ⟨L, v, h1, h2, rfl, hn, hc6, ho6⟩
    have HN := Lib.hid (hn.lower HSZ.out)
    have HB6 := Lib.hid (cur_below (HO5.out.trans ho6))
    have HL := Lib.hid (And.intro h1 h2)
    obtain ⟨ua, uc, rfl, -⟩ := hn.own.view
    clear hn hc6 ho6 h1 h2
    go_wp2
    go_ret2
    exact ⟨s, L, _, hsz, HL.out.1, HL.out.2, rfl, HN.out, HB6.out⟩
end Go.Proofs.YtapcfojnljnoaaaGreat
