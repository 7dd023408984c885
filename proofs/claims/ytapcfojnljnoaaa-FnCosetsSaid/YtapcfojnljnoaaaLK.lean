/- DrawCosetOf, DrawCosetsIn. -/
import Derived.Test.YtapcfojnljnoaaaLH
namespace Go.Proofs.Ytapcfojnljnoaaa
open Go.RowKit
set_option linter.unusedSimpArgs false
set_option linter.unusedVariables false

/-- drawn texts and a drawn text -/
def DrawnTS (w : World) (e : Ending) (w' : World) : Prop :=
  ∃ (L : List (List Nat)) (v : Value) (s : ByteArray), L.length ≤ 800 ∧ Sml L ∧ s.size ≤ 10 ∧ e = .returned (.tuple #[v, .string s]) ∧ Txts w' v L ∧ Below w.heap.size w w'
set_option maxRecDepth 100000 in
set_option maxHeartbeats 1000000 in
theorem DrawCosetOf_any (a : Option Addr) (len cap : Nat) (zs : List Int) (w : World) (hz : IsBytes w a len cap zs) (hl : len ≤ 1048576) :
    Calls Try.prog 46 #[.slice a len cap] w (DrawnTS w) := by
  have HCODE := Lib.hid (codeAt_of hz)
  clear hz
  unfold DrawnTS
  go_enter Try.func46, Try.ntmps46
  have hc0 := cur_new a len cap w HCODE.out hl
  have hlt0 := hc0.lt
  go_wp2_with fail
  refine (group_draw w.heap.size a len cap 0 (by omega) _ hc0).mono ?_
  rintro e w3 ⟨n, fs, v, h3, h5, hr, hfl, rfl, hn, hc3, ho3⟩
  have HC3 := Lib.hid hc3
  have HO3 := Lib.hid ho3
  obtain ⟨B, hB⟩ : ∃ B, (w.alloc (.cells #[.slice a len cap, .int .i64 0, .int .u64 0] 88)).heap.size = B := ⟨_, rfl⟩
  rw [hB] at hn hlt0
  have HLT := Lib.hid hlt0
  have HT := Lib.hid hn
  have HT0 := hn.1
  obtain ⟨k, hk⟩ : ∃ k, fs.length = k := ⟨_, rfl⟩
  obtain ⟨⟨va, vc, rfl, hvc, -⟩, -⟩ := id hn
  have hkl : (rowsL n fs).length = k := by rw [rowsL_len, hk]
  rw [hkl] at HT HT0 hvc ⊢
  have HSM := Lib.hid (sml_rowsL (n := n) (by omega) fs)
  have HLE : Hid ((rowsL n fs).length ≤ 800) := Lib.hid (by omega)
  clear hc0 hlt0 hn hc3 ho3 hB
  by_cases h0 : k = 0
  · subst h0
    have hki : (((0 : Nat) : Int) == 0) = true := by decide
    clear HT0
    go_wp2_with fail
    refine (anyRow_draw w.heap.size a len cap _ (by omega) _ HC3.out).mono ?_
    rintro e w5 ⟨s, hs, rfl, hc5, ho5⟩
    have HT5 := Lib.hid (HT.out.only ho5 HLT.out).1
    have HB5 := Lib.hid (cur_below (HO3.out.trans ho5))
    clear hc5 ho5
    go_wp2
    go_ret2
    exact ⟨_, .slice va 0 vc, s, HLE.out, HSM.out, hs, rfl, HT5.out, HB5.out⟩
  · have hki : ((k : Int) == 0) = false := by rw [beq_eq_false_iff_ne]; omega
    have hkp : (0 : Int) < (k : Int) := by omega
    obtain ⟨g, off, s0, rfl, hgl, c0, hs0⟩ := txts_first HT0 (by rw [rowsL_len]; omega)
    rw [firstN_rowsL (by omega)] at hs0
    have hgb : w.heap.size < g := Nat.lt_of_lt_of_le HLT.out (HT.out.2 g off _ _ rfl)
    clear HT0
    go_wp2_with fail
    refine (one_any w.heap.size a len cap _ 10 (by omega) (by omega) (by omega) _ HC3.out).mono ?_
    rintro e w4 ⟨t, rfl, hc4, ho4⟩
    have HC4 := Lib.hid hc4
    have HO4 := Lib.hid (HO3.out.trans ho4)
    have HT4 := Lib.hid (HT.out.only ho4 HLT.out)
    have c1 : w4.cell? ⟨g, off, none⟩ = some (.string s0) := by
      rw [← c0]
      unfold World.cell?
      rw [ho4.block g hgl (by omega)]
    clear hc4 ho4 c0 HC3 HO3 HT
    cases t
    · have HRD := Lib.hid (fun w h => row_draw6 w.heap.size a len cap (12 + 2) n (by omega) h3 (by omega) w h)
      clear HRD
      go_wp2_with fail
      try rw [hs0]
      refine (row_draw6 w.heap.size a len cap _ n (by omega) h3 (by omega) _ HC4.out).mono ?_
      rintro e w5 ⟨f, hf, rfl, hc5, ho5⟩
      have HT5 := Lib.hid (HT4.out.only ho5 HLT.out).1
      have HB5 := Lib.hid (cur_below (HO4.out.trans ho5))
      have hsz : (strOf n f).size ≤ 10 := by rw [strOf_size]; omega
      generalize strOf n f = s at *
      clear hc5 ho5 c1
      go_wp2
      go_ret2
      exact ⟨_, .slice (some ⟨g, off, none⟩) k vc, s, HLE.out, HSM.out, hsz, rfl, HT5.out, HB5.out⟩
    · clear c1
      go_wp2_with fail
      refine (anyRow_draw w.heap.size a len cap _ (by omega) _ HC4.out).mono ?_
      rintro e w5 ⟨s, hs, rfl, hc5, ho5⟩
      have HT5 := Lib.hid (HT4.out.only ho5 HLT.out).1
      have HB5 := Lib.hid (cur_below (HO4.out.trans ho5))
      clear hc5 ho5
      go_wp2
      go_ret2
      exact ⟨_, .slice (some ⟨g, off, none⟩) k vc, s, HLE.out, HSM.out, hs, rfl, HT5.out, HB5.out⟩
/-- drawn texts, two lists -/
def DrawnTT (w : World) (e : Ending) (w' : World) : Prop :=
  ∃ (L M : List (List Nat)) (v u : Value), L.length ≤ 800 ∧ Sml L ∧ M.length ≤ 8 ∧ Sml M ∧ e = .returned (.tuple #[v, u]) ∧ Txts w' v L ∧ Txts w' u M ∧ Below w.heap.size w w'
set_option maxRecDepth 100000 in
set_option maxHeartbeats 1000000 in
theorem DrawCosetsIn_any (a : Option Addr) (len cap : Nat) (zs : List Int) (w : World) (hz : IsBytes w a len cap zs) (hl : len ≤ 1048576) :
    Calls Try.prog 49 #[.slice a len cap] w (DrawnTT w) := by
  have HCODE := Lib.hid (codeAt_of hz)
  clear hz
  unfold DrawnTT
  go_enter Try.func49, Try.ntmps49
  have hc0 := cur_new a len cap w HCODE.out hl
  have hlt0 := hc0.lt
  go_wp2_with fail
  refine (group_draw w.heap.size a len cap 0 (by omega) _ hc0).mono ?_
  rintro e w3 ⟨n, fs, v, h3, h5, hr, hfl, rfl, hn, hc3, ho3⟩
  have HC3 := Lib.hid hc3
  have HO3 := Lib.hid ho3
  obtain ⟨B, hB⟩ : ∃ B, (w.alloc (.cells #[.slice a len cap, .int .i64 0, .int .u64 0] 88)).heap.size = B := ⟨_, rfl⟩
  rw [hB] at hn hlt0
  have HLT := Lib.hid hlt0
  have HT := Lib.hid hn
  have HT0 := hn.1
  obtain ⟨k, hk⟩ : ∃ k, fs.length = k := ⟨_, rfl⟩
  obtain ⟨⟨va, vc, rfl, hvc, -⟩, -⟩ := id hn
  have hkl : (rowsL n fs).length = k := by rw [rowsL_len, hk]
  rw [hkl] at HT HT0 hvc ⊢
  have HSM := Lib.hid (sml_rowsL (n := n) (by omega) fs)
  have HLE : Hid ((rowsL n fs).length ≤ 800) := Lib.hid (by omega)
  clear hc0 hlt0 hn hc3 ho3 hB
  by_cases h0 : k = 0
  · subst h0
    have hki : ¬ (0 : Int) < ((0 : Nat) : Int) := by omega
    clear HT0
    go_wp2_with fail
    refine (rowsOf_draw w.heap.size a len cap _ 4 8 (by omega) (by omega) (by omega) (by omega) _ HC3.out).mono ?_
    rintro e w5 ⟨M, u, h1, h2, rfl, hu, hc5, ho5⟩
    have HT5 := Lib.hid (HT.out.only ho5 HLT.out).1
    have HB5 := Lib.hid (cur_below (HO3.out.trans ho5))
    have HU5 := Lib.hid hu.own.txts
    have HM := Lib.hid (And.intro h1 h2)
    obtain ⟨ua, uc, rfl, -⟩ := hu.own.view
    clear hc5 ho5 hu h1 h2
    go_wp2
    go_ret2
    exact ⟨_, M, .slice va 0 vc, _, HLE.out, HSM.out, HM.out.1, HM.out.2, rfl, HT5.out, HU5.out, HB5.out⟩
  · have hkp : (0 : Int) < (k : Int) := by omega
    obtain ⟨g, off, s0, rfl, hgl, c0, hs0⟩ := txts_first HT0 (by rw [rowsL_len]; omega)
    rw [firstN_rowsL (by omega)] at hs0
    have hgb : w.heap.size < g := Nat.lt_of_lt_of_le HLT.out (HT.out.2 g off _ _ rfl)
    clear HT0
    go_wp2_with fail
    refine (one_any w.heap.size a len cap _ 10 (by omega) (by omega) (by omega) _ HC3.out).mono ?_
    rintro e w4 ⟨t, rfl, hc4, ho4⟩
    have HC4 := Lib.hid hc4
    have HO4 := Lib.hid (HO3.out.trans ho4)
    have HT4 := Lib.hid (HT.out.only ho4 HLT.out)
    have c1 : w4.cell? ⟨g, off, none⟩ = some (.string s0) := by
      rw [← c0]
      unfold World.cell?
      rw [ho4.block g hgl (by omega)]
    clear hc4 ho4 c0 HC3 HO3 HT
    cases t
    · go_wp2_with fail
      try rw [hs0]
      refine (rowsOf_draw w.heap.size a len cap _ n 8 (by omega) (by omega) (by omega) (by omega) _ HC4.out).mono ?_
      rintro e w5 ⟨M, u, h1, h2, rfl, hu, hc5, ho5⟩
      have HT5 := Lib.hid (HT4.out.only ho5 HLT.out).1
      have HB5 := Lib.hid (cur_below (HO4.out.trans ho5))
      have HU5 := Lib.hid hu.own.txts
      have HM := Lib.hid (And.intro h1 h2)
      obtain ⟨ua, uc, rfl, -⟩ := hu.own.view
      clear hc5 ho5 hu h1 h2
      go_wp2
      go_ret2
      exact ⟨_, M, .slice (some ⟨g, off, none⟩) k vc, _, HLE.out, HSM.out, HM.out.1, HM.out.2, rfl, HT5.out, HU5.out, HB5.out⟩
    · clear c1
      go_wp2_with fail
      refine (rowsOf_draw w.heap.size a len cap _ 4 8 (by omega) (by omega) (by omega) (by omega) _ HC4.out).mono ?_
      rintro e w5 ⟨M, u, h1, h2, rfl, hu, hc5, ho5⟩
      have HT5 := Lib.hid (HT4.out.only ho5 HLT.out).1
      have HB5 := Lib.hid (cur_below (HO4.out.trans ho5))
      have HU5 := Lib.hid hu.own.txts
      have HM := Lib.hid (And.intro h1 h2)
      obtain ⟨ua, uc, rfl, -⟩ := hu.own.view
      clear hc5 ho5 hu h1 h2
      go_wp2
      go_ret2
      exact ⟨_, M, .slice (some ⟨g, off, none⟩) k vc, _, HLE.out, HSM.out, HM.out.1, HM.out.2, rfl, HT5.out, HU5.out, HB5.out⟩
end Go.Proofs.Ytapcfojnljnoaaa
