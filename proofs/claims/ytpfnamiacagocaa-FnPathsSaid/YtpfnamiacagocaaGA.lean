/- Draws: the arguments of the laws on methods. Draws: a method and where to start. Draws: a method and a bell. -/
import Derived.Test.YtpfnamiacagocaaG1
import Derived.Test.YtpfnamiacagocaaD1
namespace Go.Proofs.Ytpfnamiacagocaa
open Go.RowKit
set_option linter.unusedSimpArgs false
set_option linter.unusedVariables false

/-- a method is drawn, its changes a new list -/
def DrawnM (w : World) (e : Ending) (w' : World) : Prop :=
  ∃ (s : ByteArray) (n : Int) (v : Value) (L : List (List Nat)), e = .returned (.agg #[.string s, .int .i64 n, v]) ∧ s.size ≤ 11 ∧ 2 ≤ n ∧ n ≤ 9 ∧ New w.heap.size w' 9 v (strs L) ∧ L.length ≤ 41 ∧ (∀ l ∈ L, l.length ≤ 10) ∧ Below w.heap.size w w'

set_option maxRecDepth 100000 in
set_option maxHeartbeats 1000000 in
theorem drawGood_any (a : Option Addr) (len cap : Nat) (zs : List Int) (w : World) (hz : IsBytes w a len cap zs) (hl : len ≤ 1048576) :
    Calls Try.prog 59 #[.slice a len cap] w (DrawnM w) := by
  have hb0 := (Below.refl _ w).alloc (Nat.le_refl _) (.cells #[.string ⟨#[]⟩, .int .i64 0, .slice none 0 0] 26)
  have hcode := codeAt_of (hz.belowW hb0)
  have HCUR := Lib.hid (cur_new a len cap _ hcode hl)
  have HR := Lib.hid ((RowAt.new w 26 #[.string ⟨#[]⟩, .int .i64 0, .slice none 0 0]).push (.cells #[.slice a len cap, .int .i64 0, .int .u64 0] 90))
  have HB := Lib.hid (hb0.alloc hb0.size (.cells #[.slice a len cap, .int .i64 0, .int .u64 0] 90))
  clear hz hcode hb0
  simp only [World.size_alloc] at HCUR
  go_enter Try.func59, Try.ntmps59
  go_wp2_with fail
  refine (anyMethod_draw (w.heap.size + 1) a len cap 0 (by omega) _ HCUR.out).mono ?_
  rintro e w1 ⟨s, n, v, L, rfl, hsz, hn2, hn9, hn, hL, hs, hd⟩
  have HR1 := Lib.hid (HR.out.only hd.only (by omega))
  have HB1 : Hid (Below w.heap.size w w1) := Lib.hid (by
    have h1 := hd.only.below (by simp)
    exact HB.out.trans ⟨h1.os, h1.tape, h1.output, h1.size, fun k hk => h1.block k (by omega)⟩)
  have HN1 := Lib.hid (hn.lower (B' := w.heap.size) (by simp; omega))
  have HS := Lib.hid hs
  clear hn hs hd HCUR HB
  obtain ⟨av, cv, hv, -⟩ := HN1.out.own.view
  subst hv
  go_wp2_with (first | (refine wpList_store_row rfl 26 _ _ rfl _ _ rfl rfl 26 _ (HR1.out) (by kernel_rfl) rfl (by kernel_rfl) ?_) | fail)
  exact bodyPost_ret (results_cell_row rfl _ _ w.heap.size 26 _ (0, 0) _ rfl (HR1.out.row _) Try.underlying26 rfl (by kernel_rfl)) rfl ⟨s, n, _, L, rfl, hsz, hn2, hn9, HN1.out.setRowOther _ _ (HN1.out.apartRow HR1.out (by decide)), hL, HS.out, below_setRow HB1.out (Nat.le_refl _) _⟩

end Go.Proofs.Ytpfnamiacagocaa
namespace Go.Proofs.Ytpfnamiacagocaa
open Go.RowKit
set_option linter.unusedSimpArgs false
set_option linter.unusedVariables false

def DrawnMI (w : World) (e : Ending) (w' : World) : Prop :=
  ∃ (s : ByteArray) (n : Int) (v : Value) (L : List (List Nat)) (k : Int), e = .returned (.tuple #[.agg #[.string s, .int .i64 n, v], .int .i64 k]) ∧ s.size ≤ 11 ∧ 2 ≤ n ∧ n ≤ 9 ∧ New w.heap.size w' 9 v (strs L) ∧ L.length ≤ 41 ∧ (∀ l ∈ L, l.length ≤ 10) ∧ Below w.heap.size w w'

end Go.Proofs.Ytpfnamiacagocaa
namespace Go.Proofs.Ytpfnamiacagocaa
open Go.RowKit
set_option linter.unusedSimpArgs false
set_option linter.unusedVariables false

set_option maxRecDepth 100000 in
set_option maxHeartbeats 1000000 in
theorem DrawPathOf_any (a : Option Addr) (len cap : Nat) (zs : List Int) (w : World) (hz : IsBytes w a len cap zs) (hl : len ≤ 1048576) :
    Calls Try.prog 28 #[.slice a len cap] w (DrawnMI w) := by
  have hb0 := (Below.refl _ w).alloc (Nat.le_refl _) (.cells #[.string ⟨#[]⟩, .int .i64 0, .slice none 0 0] 26)
  have hcode := codeAt_of (hz.belowW hb0)
  have HCUR := Lib.hid (cur_new a len cap _ hcode hl)
  have HR := Lib.hid ((RowAt.new w 26 #[.string ⟨#[]⟩, .int .i64 0, .slice none 0 0]).push (.cells #[.slice a len cap, .int .i64 0, .int .u64 0] 90))
  have HB := Lib.hid (hb0.alloc hb0.size (.cells #[.slice a len cap, .int .i64 0, .int .u64 0] 90))
  clear hz hcode hb0
  simp only [World.size_alloc] at HCUR
  go_enter Try.func28, Try.ntmps28
  go_wp2_with fail
  refine (anyMethod_draw (w.heap.size + 1) a len cap 0 (by omega) _ HCUR.out).mono ?_
  rintro e w1 ⟨s, n, v, L, rfl, hsz, hn2, hn9, hn, hL, hs, hd⟩
  have HO1 := Lib.hid hd.only
  have HN1 := Lib.hid (hn.lower (B' := w.heap.size + 2) (by simp))
  have HC1 := Lib.hid hd.cur
  have HS := Lib.hid hs
  clear hn hs hd HCUR
  go_wp2_with fail
  refine (pick_any (w.heap.size + 1) a len cap _ 6 (by omega) (by omega) (by omega) _ HC1.out).mono ?_
  rintro e w2 ⟨x, hx, rfl, hc2, ho2⟩
  go_wp2_with fail
  refine (pick_any (w.heap.size + 1) a len cap _ 20 (by omega) (by omega) (by omega) _ hc2).mono ?_
  rintro e w3 ⟨y, hy, rfl, hc3, ho3⟩
  have hO3 := HO1.out.trans (ho2.trans ho3)
  have HR3 := Lib.hid (HR.out.only hO3 (by omega))
  have HN3 := Lib.hid ((HN1.out.only (ho2.trans ho3) (by omega)).lower (B' := w.heap.size) (by omega))
  have HB3 : Hid (Below w.heap.size w w3) := Lib.hid (by
    have h1 := hO3.below (by simp)
    exact HB.out.trans ⟨h1.os, h1.tape, h1.output, h1.size, fun k hk => h1.block k (by omega)⟩)
  obtain ⟨av, cv, hv, -⟩ := HN3.out.own.view
  subst hv
  clear hO3 ho2 ho3 hc2 hc3 HO1 HN1 HC1 HB HR
  go_wp2_with (first | (refine wpList_store_row rfl 26 _ _ rfl _ _ rfl rfl 26 _ (HR3.out) (by kernel_rfl) rfl (by kernel_rfl) ?_) | fail)
  exact bodyPost_ret (results_row_tmp rfl _ _ w.heap.size 26 _ (0, 0) _ rfl (HR3.out.row _) Try.underlying26 rfl (by kernel_rfl)) rfl ⟨s, n, _, L, _, rfl, hsz, hn2, hn9, HN3.out.setRowOther _ _ (HN3.out.apartRow HR3.out (by decide)), hL, HS.out, below_setRow HB3.out (Nat.le_refl _) _⟩

set_option maxRecDepth 100000 in
set_option maxHeartbeats 1000000 in
theorem DrawPlaceBells_any (a : Option Addr) (len cap : Nat) (zs : List Int) (w : World) (hz : IsBytes w a len cap zs) (hl : len ≤ 1048576) :
    Calls Try.prog 31 #[.slice a len cap] w (DrawnMI w) := by
  have hb0 := (Below.refl _ w).alloc (Nat.le_refl _) (.cells #[.string ⟨#[]⟩, .int .i64 0, .slice none 0 0] 26)
  have HZ := Lib.hid (hz.belowW hb0)
  have HR := Lib.hid (RowAt.new w 26 #[.string ⟨#[]⟩, .int .i64 0, .slice none 0 0])
  have HB := Lib.hid hb0
  clear hz hb0
  go_enter Try.func31, Try.ntmps31
  go_wp2_with fail
  refine (DrawPathOf_any a len cap zs _ HZ.out hl).mono ?_
  rintro e w1 ⟨s, n, v, L, k, rfl, hsz, hn2, hn9, hn, hL, hs, hb⟩
  have HR1 := Lib.hid (HR.out.kept hb)
  have HB1 := Lib.hid (HB.out.trans (hb.mono HB.out.size))
  have HN1 := Lib.hid (hn.lower HB.out.size)
  have HS := Lib.hid hs
  clear hn hs hb HZ HB
  obtain ⟨av, cv, hv, -⟩ := HN1.out.own.view
  subst hv
  go_wp2_with (first | (refine wpList_store_row rfl 26 _ _ rfl _ _ rfl rfl 26 _ (HR1.out) (by kernel_rfl) rfl (by kernel_rfl) ?_) | fail)
  exact bodyPost_ret (results_row_tmp rfl _ _ w.heap.size 26 _ (0, 0) _ rfl (HR1.out.row _) Try.underlying26 rfl (by kernel_rfl)) rfl ⟨s, n, _, L, k, rfl, hsz, hn2, hn9, HN1.out.setRowOther _ _ (HN1.out.apartRow HR1.out (by decide)), hL, HS.out, below_setRow HB1.out (Nat.le_refl _) _⟩

set_option maxRecDepth 100000 in
set_option maxHeartbeats 1000000 in
theorem DrawPathsOf_any (a : Option Addr) (len cap : Nat) (zs : List Int) (w : World) (hz : IsBytes w a len cap zs) (hl : len ≤ 1048576) :
    Calls Try.prog 14 #[.slice a len cap] w (DrawnM w) := by
  have hb0 := (Below.refl _ w).alloc (Nat.le_refl _) (.cells #[.string ⟨#[]⟩, .int .i64 0, .slice none 0 0] 26)
  have HZ := Lib.hid (hz.belowW hb0)
  have HR := Lib.hid (RowAt.new w 26 #[.string ⟨#[]⟩, .int .i64 0, .slice none 0 0])
  have HB := Lib.hid hb0
  clear hz hb0
  go_enter Try.func14, Try.ntmps14
  go_wp2_with fail
  refine (drawGood_any a len cap zs _ HZ.out hl).mono ?_
  rintro e w1 ⟨s, n, v, L, rfl, hsz, hn2, hn9, hn, hL, hs, hb⟩
  have HR1 := Lib.hid (HR.out.kept hb)
  have HB1 := Lib.hid (HB.out.trans (hb.mono HB.out.size))
  have HN1 := Lib.hid (hn.lower HB.out.size)
  have HS := Lib.hid hs
  clear hn hs hb HZ HB
  obtain ⟨av, cv, hv, -⟩ := HN1.out.own.view
  subst hv
  go_wp2_with (first | (refine wpList_store_row rfl 26 _ _ rfl _ _ rfl rfl 26 _ (HR1.out) (by kernel_rfl) rfl (by kernel_rfl) ?_) | fail)
  exact bodyPost_ret (results_cell_row rfl _ _ w.heap.size 26 _ (0, 0) _ rfl (HR1.out.row _) Try.underlying26 rfl (by kernel_rfl)) rfl ⟨s, n, _, L, rfl, hsz, hn2, hn9, HN1.out.setRowOther _ _ (HN1.out.apartRow HR1.out (by decide)), hL, HS.out, below_setRow HB1.out (Nat.le_refl _) _⟩
end Go.Proofs.Ytpfnamiacagocaa
