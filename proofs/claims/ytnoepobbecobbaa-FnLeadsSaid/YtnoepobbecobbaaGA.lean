/- Draws: the arguments of the laws on methods. Draws: a method and where to start. Draws: a method and a bell. -/
import Derived.Test.YtnoepobbecobbaaG1
import Derived.Test.YtnoepobbecobbaaD1
namespace Go.Proofs.Ytnoepobbecobbaa
open Go.RowKit
set_option linter.unusedSimpArgs false
set_option linter.unusedVariables false

/-- a method is drawn, its changes a new list -/
def DrawnM (w : World) (e : Ending) (w' : World) : Prop :=
  ∃ (s : ByteArray) (n : Int) (v : Value) (L : List (List Nat)), e = .returned (.agg #[.string s, .int .i64 n, v]) ∧ s.size ≤ 11 ∧ 2 ≤ n ∧ n ≤ 9 ∧ New w.heap.size w' 9 v (strs L) ∧ L.length ≤ 41 ∧ (∀ l ∈ L, l.length ≤ 10) ∧ Below w.heap.size w w'

set_option maxRecDepth 100000 in
set_option maxHeartbeats 1000000 in
theorem drawGood_any (a : Option Addr) (len cap : Nat) (zs : List Int) (w : World) (hz : IsBytes w a len cap zs) (hl : len ≤ 1048576) :
    Calls Try.prog 103 #[.slice a len cap] w (DrawnM w) := by
  have hb0 := (Below.refl _ w).alloc (Nat.le_refl _) (.cells #[.string ⟨#[]⟩, .int .i64 0, .slice none 0 0] 47)
  have hcode := codeAt_of (hz.belowW hb0)
  have HCUR := Lib.hid (cur_new a len cap _ hcode hl)
  have HR := Lib.hid ((RowAt.new w 47 #[.string ⟨#[]⟩, .int .i64 0, .slice none 0 0]).push (.cells #[.slice a len cap, .int .i64 0, .int .u64 0] 93))
  have HB := Lib.hid (hb0.alloc hb0.size (.cells #[.slice a len cap, .int .i64 0, .int .u64 0] 93))
  clear hz hcode hb0
  simp only [World.size_alloc] at HCUR
  go_enter Try.func103, Try.ntmps103
  go_wp2_with fail
  refine (anyMethod_draw (w.heap.size + 1) a len cap 0 (by omega) _ HCUR.out).mono ?_
  rintro e w1 ⟨s, n, v, L, rfl, hsz, hn2, hn9, hn, hL, hs, hd⟩
  have HR1 := Lib.hid (HR.out.only hd.only (by omega))
  have HB1 : Hid (Below w.heap.size w w1) := Lib.hid (by
    have h1 := hd.only.below (by simp)
    exact HB.out.trans ⟨h1.os, h1.tape, h1.output, h1.size, fun k hk => h1.block k (by omega)⟩)
  have HN1 := Lib.hid (hn.lower (B' := w.heap.size) (by simp; omega))
  have HS := Lib.hid hs
  clear hn hs hd HCUR HB
  obtain ⟨av, cv, hv, -⟩ := HN1.out.own.view
  subst hv
  go_wp2_with (first | (refine wpList_store_row rfl 47 _ _ rfl _ _ rfl rfl 47 _ (HR1.out) (by kernel_rfl) rfl (by kernel_rfl) ?_) | fail)
  exact bodyPost_ret (results_cell_row rfl _ _ w.heap.size 47 _ (0, 0) _ rfl (HR1.out.row _) Try.underlying47 rfl (by kernel_rfl)) rfl ⟨s, n, _, L, rfl, hsz, hn2, hn9, HN1.out.setRowOther _ _ (HN1.out.apartRow HR1.out (by decide)), hL, HS.out, below_setRow HB1.out (Nat.le_refl _) _⟩

end Go.Proofs.Ytnoepobbecobbaa
namespace Go.Proofs.Ytnoepobbecobbaa
open Go.RowKit
set_option linter.unusedSimpArgs false
set_option linter.unusedVariables false

def DrawnMI (w : World) (e : Ending) (w' : World) : Prop :=
  ∃ (s : ByteArray) (n : Int) (v : Value) (L : List (List Nat)) (k : Int), e = .returned (.tuple #[.agg #[.string s, .int .i64 n, v], .int .i64 k]) ∧ s.size ≤ 11 ∧ 2 ≤ n ∧ n ≤ 9 ∧ New w.heap.size w' 9 v (strs L) ∧ L.length ≤ 41 ∧ (∀ l ∈ L, l.length ≤ 10) ∧ Below w.heap.size w w'

end Go.Proofs.Ytnoepobbecobbaa
namespace Go.Proofs.Ytnoepobbecobbaa
open Go.RowKit
set_option linter.unusedSimpArgs false
set_option linter.unusedVariables false

end Go.Proofs.Ytnoepobbecobbaa
