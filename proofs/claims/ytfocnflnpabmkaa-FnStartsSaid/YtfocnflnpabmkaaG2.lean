/- Draws: the arguments of the laws on methods. -/
import Derived.Test.YtfocnflnpabmkaaG1
import Derived.Test.YtfocnflnpabmkaaD1
namespace Go.Proofs.Ytfocnflnpabmkaa
open Go.RowKit
set_option linter.unusedSimpArgs false
set_option linter.unusedVariables false

/-- a method is drawn, its changes a new list -/
def DrawnM (w : World) (e : Ending) (w' : World) : Prop :=
  ∃ (s : ByteArray) (n : Int) (v : Value) (L : List (List Nat)), e = .returned (.agg #[.string s, .int .i64 n, v]) ∧ s.size ≤ 11 ∧ 2 ≤ n ∧ n ≤ 9 ∧ New w.heap.size w' 9 v (strs L) ∧ L.length ≤ 41 ∧ (∀ l ∈ L, l.length ≤ 10) ∧ Below w.heap.size w w'

set_option maxRecDepth 100000 in
set_option maxHeartbeats 1000000 in
theorem drawGood_any (a : Option Addr) (len cap : Nat) (zs : List Int) (w : World) (hz : IsBytes w a len cap zs) (hl : len ≤ 1048576) :
    Calls Try.prog 79 #[.slice a len cap] w (DrawnM w) := by
  have hb0 := (Below.refl _ w).alloc (Nat.le_refl _) (.cells #[.string ⟨#[]⟩, .int .i64 0, .slice none 0 0] 26)
  have hcode := codeAt_of (hz.belowW hb0)
  have HCUR := Lib.hid (cur_new a len cap _ hcode hl)
  have HR := Lib.hid ((RowAt.new w 26 #[.string ⟨#[]⟩, .int .i64 0, .slice none 0 0]).push (.cells #[.slice a len cap, .int .i64 0, .int .u64 0] 68))
  have HB := Lib.hid (hb0.alloc hb0.size (.cells #[.slice a len cap, .int .i64 0, .int .u64 0] 68))
  clear hz hcode hb0
  simp only [World.size_alloc] at HCUR
  go_enter Try.func79, Try.ntmps79
  go_wp2_with fail
  refine (anyMethod_draw (w.heap.size + 1) a len cap 0 (by omega) _ HCUR.out).mono ?_
  rintro e w1 ⟨s, n, v, L, rfl, hsz, hn2, hn9, hn, hL, hs, hd⟩
  have HR1 := Lib.hid (HR.out.only hd.only (by omega))
  have HB1 : Hid (Below w.heap.size w w1) := Lib.hid (by
    have h1 := hd.only.below (by simp)
    exact HB.out.trans ⟨h1.os, h1.tape, h1.output, h1.size, fun k hk => h1.block k (by omega)⟩)
  have HN1 := Lib.hid (hn.lower (B' := w.heap.size) (by simp; omega))
  have HS := Lib.hid hs
  clear hn hs hd HCUR HB
  obtain ⟨av, cv, hv, -⟩ := HN1.out.own.view
  subst hv
  go_wp2_with (first | (refine wpList_store_row rfl 26 _ _ rfl _ _ rfl rfl 26 _ (HR1.out) (by kernel_rfl) rfl (by kernel_rfl) ?_) | fail)
  exact bodyPost_ret (results_cell_row rfl _ _ w.heap.size 26 _ (0, 0) _ rfl (HR1.out.row _) Try.underlying26 rfl (by kernel_rfl)) rfl ⟨s, n, _, L, rfl, hsz, hn2, hn9, HN1.out.setRowOther _ _ (HN1.out.apartRow HR1.out (by decide)), hL, HS.out, below_setRow HB1.out (Nat.le_refl _) _⟩

set_option maxRecDepth 100000 in
set_option maxHeartbeats 1000000 in
theorem DrawHuntBells_any (a : Option Addr) (len cap : Nat) (zs : List Int) (w : World) (hz : IsBytes w a len cap zs) (hl : len ≤ 1048576) :
    Calls Try.prog 34 #[.slice a len cap] w (DrawnM w) := by
  have hb0 := (Below.refl _ w).alloc (Nat.le_refl _) (.cells #[.string ⟨#[]⟩, .int .i64 0, .slice none 0 0] 26)
  have HZ := Lib.hid (hz.belowW hb0)
  have HR := Lib.hid (RowAt.new w 26 #[.string ⟨#[]⟩, .int .i64 0, .slice none 0 0])
  have HB := Lib.hid hb0
  clear hz hb0
  go_enter Try.func34, Try.ntmps34
  go_wp2_with fail
  refine (drawGood_any a len cap zs _ HZ.out hl).mono ?_
  rintro e w1 ⟨s, n, v, L, rfl, hsz, hn2, hn9, hn, hL, hs, hb⟩
  have HR1 := Lib.hid (HR.out.kept hb)
  have HB1 := Lib.hid (HB.out.trans (hb.mono HB.out.size))
  have HN1 := Lib.hid (hn.lower HB.out.size)
  have HS := Lib.hid hs
  clear hn hs hb HZ HB
  obtain ⟨av, cv, hv, -⟩ := HN1.out.own.view
  subst hv
  go_wp2_with (first | (refine wpList_store_row rfl 26 _ _ rfl _ _ rfl rfl 26 _ (HR1.out) (by kernel_rfl) rfl (by kernel_rfl) ?_) | fail)
  exact bodyPost_ret (results_cell_row rfl _ _ w.heap.size 26 _ (0, 0) _ rfl (HR1.out.row _) Try.underlying26 rfl (by kernel_rfl)) rfl ⟨s, n, _, L, rfl, hsz, hn2, hn9, HN1.out.setRowOther _ _ (HN1.out.apartRow HR1.out (by decide)), hL, HS.out, below_setRow HB1.out (Nat.le_refl _) _⟩

set_option maxRecDepth 100000 in
set_option maxHeartbeats 1000000 in
theorem DrawLeadHead_any (a : Option Addr) (len cap : Nat) (zs : List Int) (w : World) (hz : IsBytes w a len cap zs) (hl : len ≤ 1048576) :
    Calls Try.prog 42 #[.slice a len cap] w (DrawnM w) := by
  have hb0 := (Below.refl _ w).alloc (Nat.le_refl _) (.cells #[.string ⟨#[]⟩, .int .i64 0, .slice none 0 0] 26)
  have HZ := Lib.hid (hz.belowW hb0)
  have HR := Lib.hid (RowAt.new w 26 #[.string ⟨#[]⟩, .int .i64 0, .slice none 0 0])
  have HB := Lib.hid hb0
  clear hz hb0
  go_enter Try.func42, Try.ntmps42
  go_wp2_with fail
  refine (drawGood_any a len cap zs _ HZ.out hl).mono ?_
  rintro e w1 ⟨s, n, v, L, rfl, hsz, hn2, hn9, hn, hL, hs, hb⟩
  have HR1 := Lib.hid (HR.out.kept hb)
  have HB1 := Lib.hid (HB.out.trans (hb.mono HB.out.size))
  have HN1 := Lib.hid (hn.lower HB.out.size)
  have HS := Lib.hid hs
  clear hn hs hb HZ HB
  obtain ⟨av, cv, hv, -⟩ := HN1.out.own.view
  subst hv
  go_wp2_with (first | (refine wpList_store_row rfl 26 _ _ rfl _ _ rfl rfl 26 _ (HR1.out) (by kernel_rfl) rfl (by kernel_rfl) ?_) | fail)
  exact bodyPost_ret (results_cell_row rfl _ _ w.heap.size 26 _ (0, 0) _ rfl (HR1.out.row _) Try.underlying26 rfl (by kernel_rfl)) rfl ⟨s, n, _, L, rfl, hsz, hn2, hn9, HN1.out.setRowOther _ _ (HN1.out.apartRow HR1.out (by decide)), hL, HS.out, below_setRow HB1.out (Nat.le_refl _) _⟩

set_option maxRecDepth 100000 in
set_option maxHeartbeats 1000000 in
theorem DrawTurnMethod_any (a : Option Addr) (len cap : Nat) (zs : List Int) (w : World) (hz : IsBytes w a len cap zs) (hl : len ≤ 1048576) :
    Calls Try.prog 27 #[.slice a len cap] w (DrawnM w) := by
  have hb0 := (Below.refl _ w).alloc (Nat.le_refl _) (.cells #[.string ⟨#[]⟩, .int .i64 0, .slice none 0 0] 26)
  have HZ := Lib.hid (hz.belowW hb0)
  have HR := Lib.hid (RowAt.new w 26 #[.string ⟨#[]⟩, .int .i64 0, .slice none 0 0])
  have HB := Lib.hid hb0
  clear hz hb0
  go_enter Try.func27, Try.ntmps27
  go_wp2_with fail
  refine (drawGood_any a len cap zs _ HZ.out hl).mono ?_
  rintro e w1 ⟨s, n, v, L, rfl, hsz, hn2, hn9, hn, hL, hs, hb⟩
  have HR1 := Lib.hid (HR.out.kept hb)
  have HB1 := Lib.hid (HB.out.trans (hb.mono HB.out.size))
  have HN1 := Lib.hid (hn.lower HB.out.size)
  have HS := Lib.hid hs
  clear hn hs hb HZ HB
  obtain ⟨av, cv, hv, -⟩ := HN1.out.own.view
  subst hv
  go_wp2_with (first | (refine wpList_store_row rfl 26 _ _ rfl _ _ rfl rfl 26 _ (HR1.out) (by kernel_rfl) rfl (by kernel_rfl) ?_) | fail)
  exact bodyPost_ret (results_cell_row rfl _ _ w.heap.size 26 _ (0, 0) _ rfl (HR1.out.row _) Try.underlying26 rfl (by kernel_rfl)) rfl ⟨s, n, _, L, rfl, hsz, hn2, hn9, HN1.out.setRowOther _ _ (HN1.out.apartRow HR1.out (by decide)), hL, HS.out, below_setRow HB1.out (Nat.le_refl _) _⟩
end Go.Proofs.Ytfocnflnpabmkaa
