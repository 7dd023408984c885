/- What the laws are handed to ask with. -/
import Derived.Test.YtnildepdpkbekaaA24
import Derived.OpenShut
namespace Go.Proofs.Ytnildepdpkbekaa
open Go.RowKit
set_option linter.unusedSimpArgs false

/-- bytes that came in: nil, or a row of cap cells, the numbers zs -/
def IsBytes (w : World) (a : Option Addr) (len cap : Nat) (zs : List Int) : Prop :=
  (a = none ∧ len = 0 ∧ cap = 0 ∧ zs = []) ∨
  ∃ x, a = some x ∧ len ≤ cap ∧ cap ≤ maxLen ∧ zs.length = cap ∧ (∀ i, i < zs.length → w.cell? (x.add i) = some (.int .u8 (zs.getD i 0))) ∧ ∀ n ∈ zs, (Lit.int .u8 n).wf = true
theorem codeAt_of {w : World} {a : Option Addr} {len cap : Nat} {zs : List Int} (h : IsBytes w a len cap zs) : CodeAt w w.heap.size a len := by
  rcases h with ⟨_, h0, _⟩ | ⟨x, rfl, hl, _, hz, hc, hw⟩
  · exact .inl h0
  · by_cases h0 : len = 0
    · exact .inl h0
    · obtain ⟨xb, xo, sp⟩ := x
      have hc0 := hc 0 (by omega)
      have hsp : sp = none := by simpa [Addr.add] using World.cell?_spot hc0
      subst hsp
      have hadd : ∀ i, (⟨xb, xo, none⟩ : Addr).add i = ⟨xb, xo + i, none⟩ := fun i => by unfold Addr.add; split <;> simp_all
      refine .inr ⟨xb, xo, fun i => (zs.getD i 0).toNat, rfl, ?_, fun i hi => ?_⟩
      · have := block_lt_of_cell hc0
        rw [hadd] at this
        exact Nat.ne_of_lt this
      · have hi2 : i < zs.length := by omega
        have hmem : zs.getD i 0 ∈ zs := by
          rw [List.getD_eq_getElem?_getD, List.getElem?_eq_getElem hi2]
          exact List.getElem_mem hi2
        have hb := bounds_u8 (hw _ hmem)
        have := hc i hi2
        rw [hadd] at this
        refine ⟨by show (zs.getD i 0).toNat < 256; omega, ?_⟩
        rw [this]
        show _ = some (Value.int .u8 ((zs.getD i 0).toNat : Int))
        rw [Int.toNat_of_nonneg hb.1]

theorem cur_new (a : Option Addr) (len cap : Nat) (w : World) (h : CodeAt w w.heap.size a len) (hl : len ≤ 1048576) :
    Cur (w.alloc (.cells #[.slice a len cap, .int .i64 0, .int .u64 0] 72)) w.heap.size a len cap 0 :=
  ⟨h.only (Only.of_below ((Below.refl _ _).alloc (Nat.le_refl _) _)), hl, 0, 0, Nat.le_refl _, RowAt.new _ _ _⟩
theorem cur_below {w W' : World} {o : Obj} (h : Only w.heap.size (w.alloc o) W') : Below w.heap.size w W' :=
  ((Below.refl _ w).alloc (Nat.le_refl _) o).trans (h.below (by simp))

/-- a text of no more than 10 bytes -/
def SomeStr (w : World) (e : Ending) (w' : World) : Prop := ∃ s : ByteArray, s.size ≤ 10 ∧ e = .returned (.string s) ∧ Below w.heap.size w w'
def SomeStr2 (w : World) (e : Ending) (w' : World) : Prop := ∃ s t : ByteArray, s.size ≤ 10 ∧ t.size ≤ 10 ∧ e = .returned (.tuple #[.string s, .string t]) ∧ Below w.heap.size w w'
def SomeStrInt (w : World) (e : Ending) (w' : World) : Prop := ∃ (s : ByteArray) (k : Int), s.size ≤ 10 ∧ e = .returned (.tuple #[.string s, .int .i64 k]) ∧ Below w.heap.size w w'
def SomeInt1 (w : World) (e : Ending) (w' : World) : Prop := ∃ k : Int, e = .returned (.int .i64 k) ∧ Below w.heap.size w w'
def SomeInt2 (w : World) (e : Ending) (w' : World) : Prop := ∃ n k : Int, -100000 ≤ k ∧ k ≤ 100000 ∧ e = .returned (.tuple #[.int .i64 n, .int .i64 k]) ∧ Below w.heap.size w w'

set_option maxRecDepth 100000 in
set_option maxHeartbeats 1000000 in
theorem DrawTurnRow_any (a : Option Addr) (len cap : Nat) (zs : List Int) (w : World) (hz : IsBytes w a len cap zs) (hl : len ≤ 1048576) :
    Calls Try.prog 47 #[.slice a len cap] w (SomeStr w) := by
  have HCODE := Lib.hid (codeAt_of hz)
  clear hz
  go_enter Try.func47, Try.ntmps47
  go_wp2_with fail
  refine (anyRow_draw w.heap.size a len cap 0 (by omega) _ (cur_new a len cap w HCODE.out hl)).mono ?_
  rintro e w1 ⟨s, hs, rfl, hc1, ho1⟩
  have HO1 := Lib.hid ho1
  clear hc1 ho1
  go_wp2
  go_ret
  exact ⟨s, hs, rfl, cur_below HO1.out⟩

set_option maxRecDepth 100000 in
set_option maxHeartbeats 1000000 in
theorem DrawCyclesOf_any (a : Option Addr) (len cap : Nat) (zs : List Int) (w : World) (hz : IsBytes w a len cap zs) (hl : len ≤ 1048576) :
    Calls Try.prog 13 #[.slice a len cap] w (SomeStr w) := by
  have HZ := Lib.hid hz
  clear hz
  go_enter Try.func13, Try.ntmps13
  go_wp2_with fail
  refine (DrawTurnRow_any a len cap zs _ HZ.out hl).mono ?_
  rintro e w1 ⟨s, hs, rfl, hb⟩
  have HB := Lib.hid hb
  clear hb
  go_wp2
  go_ret
  exact ⟨s, hs, rfl, HB.out⟩

set_option maxRecDepth 100000 in
set_option maxHeartbeats 1000000 in
theorem DrawTimes_any (a : Option Addr) (len cap : Nat) (zs : List Int) (w : World) (hz : IsBytes w a len cap zs) (hl : len ≤ 1048576) :
    Calls Try.prog 79 #[.slice a len cap] w (SomeStr2 w) := by
  have HCODE := Lib.hid (codeAt_of hz)
  clear hz
  go_enter Try.func79, Try.ntmps79
  go_wp2_with fail
  refine (anyRow_draw w.heap.size a len cap 0 (by omega) _ (cur_new a len cap w HCODE.out hl)).mono ?_
  rintro e w1 ⟨s, hs, rfl, hc1, ho1⟩
  have HC1 := Lib.hid hc1
  have HO1 := Lib.hid ho1
  clear hc1 ho1
  by_cases hsz : 3 ≤ s.size ∧ s.size ≤ 8
  · obtain ⟨h3, h8⟩ := hsz
    have h3' : (3 : Int) ≤ s.size := by omega
    have h8' : (s.size : Int) ≤ 8 := by omega
    go_wp2_with fail
    refine (one_any w.heap.size a len cap _ 8 (by omega) (by omega) (by omega) _ HC1.out).mono ?_
    rintro e w2 ⟨t, rfl, hc2, ho2⟩
    have HC2 := Lib.hid hc2
    have HO2 := Lib.hid (HO1.out.trans ho2)
    clear hc2 ho2
    cases t
    · go_wp2_with fail
      refine (row_draw w.heap.size a len cap _ s.size (by omega) h3 h8 _ HC2.out).mono ?_
      rintro e w3 ⟨u, hu, rfl, hc3, ho3⟩
      have HO3 := Lib.hid (HO2.out.trans ho3)
      clear hc3 ho3
      go_wp2
      go_ret2
      exact ⟨s, u, hs, by omega, rfl, cur_below HO3.out⟩
    · go_wp2_with fail
      refine (anyRow_draw w.heap.size a len cap _ (by omega) _ HC2.out).mono ?_
      rintro e w3 ⟨u, hu, rfl, hc3, ho3⟩
      have HO3 := Lib.hid (HO2.out.trans ho3)
      clear hc3 ho3
      go_wp2
      go_ret2
      exact ⟨s, u, hs, hu, rfl, cur_below HO3.out⟩
  · have hcase : (s.size : Int) < 3 ∨ ((3 : Int) ≤ s.size ∧ (8 : Int) < s.size) := by omega
    clear hsz
    rcases hcase with h1 | ⟨h1, h2⟩
    all_goals
      go_wp2_with fail
      refine (anyRow_draw w.heap.size a len cap _ (by omega) _ HC1.out).mono ?_
      rintro e w3 ⟨u, hu, rfl, hc3, ho3⟩
      have HO3 := Lib.hid (HO1.out.trans ho3)
      clear hc3 ho3
      go_wp2
      go_ret2
      exact ⟨s, u, hs, hu, rfl, cur_below HO3.out⟩

set_option maxRecDepth 100000 in
set_option maxHeartbeats 1000000 in
theorem DrawRoundsOf_any (a : Option Addr) (len cap : Nat) (zs : List Int) (w : World) (hz : IsBytes w a len cap zs) (hl : len ≤ 1048576) :
    Calls Try.prog 77 #[.slice a len cap] w (SomeInt1 w) := by
  have HCODE := Lib.hid (codeAt_of hz)
  clear hz
  go_enter Try.func77, Try.ntmps77
  go_wp2_with fail
  have hcur := cur_new a len cap w HCODE.out hl
  refine (among_any (fun _ => True) w.heap.size a len cap 0 10 (w.heap.size + 1) 10 (fun i => [2, 3, 4, 5, 6, 7, 8, 9, 0, -1].getD i 0) (by omega) (by omega) (by omega) _ (hcur.below ((Below.refl _ _).alloc (Nat.le_refl _) _)) (by omega) (fun i hi => ⟨trivial, ?_⟩)).mono ?_
  · have := list_cells (w.alloc (.cells #[.slice a len cap, .int .i64 0, .int .u64 0] 72)) [2, 3, 4, 5, 6, 7, 8, 9, 0, -1] 3 i hi
    simpa using this
  rintro e w1 ⟨x, hx, rfl, hc1, ho1⟩
  have HO1 := Lib.hid (Only.trans (Only.of_below (b := w.heap.size) ((Below.refl (w.alloc (.cells #[.slice a len cap, .int .i64 0, .int .u64 0] 72)).heap.size _).alloc (Nat.le_refl _) _)) ho1)
  clear hc1 ho1 hcur
  go_wp2
  go_ret
  exact ⟨x, rfl, cur_below HO1.out⟩

set_option maxRecDepth 100000 in
set_option maxHeartbeats 1000000 in
theorem big_any (a1 a2 : Option Addr) (l1 l2 c1 c2 : Nat) (h1 : l1 ≤ maxLen) (h2 : l2 ≤ maxLen) (w : World) :
    Calls Try.prog 12 #[.slice a1 l1 c1, .slice a2 l2 c2] w fun e w' => e = .returned (.bool (decide (1048576 < l1 + l2))) ∧ w = w' := by
  unfold maxLen at h1 h2
  by_cases hb : 1048576 < l1
  · have hb' : (1048576 : Int) < l1 := by omega
    go_enter Try.func12, Try.ntmps12
    go_wp2
    go_ret
    exact ⟨by simp; omega, rfl⟩
  · have hb' : (l1 : Int) ≤ 1048576 := by omega
    by_cases hb2 : 1048576 < l1 + l2
    · have hb2' : (1048576 : Int) - l1 < l2 := by omega
      go_enter Try.func12, Try.ntmps12
      go_wp2
      go_ret
      exact ⟨by simp [hb2]; try omega, rfl⟩
    · have hb2' : (l2 : Int) ≤ (1048576 : Int) - l1 := by omega
      go_enter Try.func12, Try.ntmps12
      go_wp2
      go_ret
      exact ⟨by simp [hb2]; try omega, rfl⟩

/-- the number that is made of bytes -/
def SmallInt (w : World) (e : Ending) (w' : World) : Prop := ∃ k : Nat, k < 1000003 ∧ e = .returned (.int .i64 k) ∧ w = w'
end Go.Proofs.Ytnildepdpkbekaa
