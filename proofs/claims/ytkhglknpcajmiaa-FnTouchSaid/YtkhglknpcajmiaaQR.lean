/- Calls drawn. -/
import Derived.Test.YtkhglknpcajmiaaG1
import Derived.Test.YtkhglknpcajmiaaNA
import Derived.Deep.DeepCutAuto
namespace Go.Proofs.Ytkhglknpcajmiaa
open Go.RowKit
set_option linter.unusedSimpArgs false
set_option linter.unusedVariables false

theorem chs_few {n : Nat} (h3 : 3 ≤ n) (h8 : n ≤ 8) {l : List Nat} (h : l ∈ chs n) : (txt l).size ≤ 10 := by
  rw [txt_size]
  have hk : ∀ n, n < 9 → 3 ≤ n → ∀ l ∈ chs n, l.length ≤ 10 := by decide +kernel
  exact hk n (by omega) h3 l h
/-- calls of short texts -/
def SomeCalls (b : Nat) (a : Option Addr) (len cap m : Nat) (w : World) (e : Ending) (w' : World) : Prop :=
  ∃ (x y : ByteArray), e = .returned (.agg #[.string x, .string y]) ∧ x.size ≤ 10 ∧ y.size ≤ 10 ∧ Dr b a len cap m w w'

set_option maxRecDepth 100000 in
set_option maxHeartbeats 1000000 in
set_option maxHeartbeats 8000000 in
theorem calls_draw (b : Nat) (a : Option Addr) (len cap m : Nat) (hm : m ≤ 800000) (k : Nat) (h3 : 3 ≤ k) (h8 : k ≤ 8) (s : ByteArray) (a1 : Option Addr) (m1 k1 : Nat) (w : World) (hc : Cur w b a len cap m) :
    Calls Try.prog 160 #[.pointer (some ⟨b, 0, none⟩), .agg #[.string s, .int .i64 k, .slice a1 m1 k1]] w (SomeCalls b a len cap (m + 8) w) := by
  have HC := Lib.hid hc
  have hlt := hc.lt
  have hb0 := ((Below.refl _ w).alloc (Nat.le_refl _) (.cells #[.string s, .int .i64 k, .slice a1 m1 k1] 25)).alloc (by simp) (.cells #[.string ⟨#[]⟩, .string ⟨#[]⟩] 27)
  have HD0 := Lib.hid ((Dr.start hc).below hc hb0)
  have HR0 := Lib.hid ((RowAt.new w 25 #[.string s, .int .i64 k, .slice a1 m1 k1]).push (.cells #[.string ⟨#[]⟩, .string ⟨#[]⟩] 27))
  have HZ0 : Hid (RowAt ((w.alloc (.cells #[.string s, .int .i64 k, .slice a1 m1 k1] 25)).alloc (.cells #[.string ⟨#[]⟩, .string ⟨#[]⟩] 27)) (w.heap.size + 1) 27 #[.string ⟨#[]⟩, .string ⟨#[]⟩]) := Lib.hid (by
    have := RowAt.new (w.alloc (.cells #[.string s, .int .i64 k, .slice a1 m1 k1] 25)) 27 #[.string ⟨#[]⟩, .string ⟨#[]⟩]
    simpa using this)
  have c1 := HR0.out.cell 1 rfl
  have HSZ0 := Lib.hid hb0.size
  clear hc hb0
  go_enter Try.func160, Try.ntmps160
  go_wp2_with fail
  refine (change_draw b a len cap m k (by omega) h3 h8 _ HD0.out.cur).mono ?_
  rintro e w1 ⟨lx, hlx, rfl, hcu1, ho1⟩
  have HD1 := Lib.hid (HD0.out.call hcu1 ho1)
  have HR1 := Lib.hid (HR0.out.only ho1 (by omega))
  have HZ1 := Lib.hid (HZ0.out.only ho1 (by omega))
  have HS1 := Lib.hid (Nat.le_trans HSZ0.out ho1.size)
  have HX := Lib.hid (chs_few h3 h8 hlx)
  clear hcu1 ho1 HD0 HR0 HZ0 hlx c1
  go_wp2_with fail
  refine (change_draw b a len cap (m + 2) k (by omega) h3 h8 _ HD1.out.cur).mono ?_
  rintro e w2 ⟨ly, hly, rfl, hcu2, ho2⟩
  have HD2 := Lib.hid (HD1.out.call hcu2 ho2)
  have HZ2 := Lib.hid (HZ1.out.only ho2 (by omega))
  have HS2 := Lib.hid (Nat.le_trans HS1.out ho2.size)
  have HY := Lib.hid (chs_few h3 h8 hly)
  clear hcu2 ho2 HD1 HR1 HZ1 hly HS1
  generalize txt lx = x at *
  generalize txt ly = y at *
  have hal := (Below.refl w2.heap.size w2).alloc (Nat.le_refl _) (.cells #[.string x, .string y] 27)
  have HK3 := Lib.hid (RowAt.new w2 27 #[.string x, .string y])
  have HZ3 := Lib.hid (HZ2.out.kept hal)
  have HD3 := Lib.hid (HD2.out.below HC.out (hal.mono HS2.out))
  have HS3 := Lib.hid (Nat.le_trans HS2.out hal.size)
  have hkb : w.heap.size ≤ w2.heap.size := HS2.out
  have hkz : w.heap.size + 1 ≠ w2.heap.size := by have := HZ2.out.lt; omega
  have hkbb : w2.heap.size ≠ b := by omega
  have hzb : w.heap.size + 1 ≠ b := by omega
  clear hal HZ2 HD2 HS2
  have HO4 := Lib.hid (one_any b a len cap (m + 4) 4 (by omega) (by omega) (by omega) _ HD3.out.cur)
  unfold SomeBool at HO4
  generalize hki : ((k : Nat) : Int) = ki at *
  have hk9 : k = 3 ∨ k = 4 ∨ k = 5 ∨ k = 6 ∨ k = 7 ∨ k = 8 := by omega
  rcases hk9 with rfl | rfl | rfl | rfl | rfl | rfl
  · obtain rfl : ki = 3 := by omega
    clear hki
    go_wp2_with (first | (refine wpList_store_row rfl 27 _ _ rfl _ _ rfl rfl 27 _ (heap_at _ _ _ (by simp)) (by kernel_rfl) rfl (by kernel_rfl) ?_; rw [setRow_at _ _ _ _ _ (by simp)]) | (refine wpList_load_row rfl 27 _ rfl _ rfl 27 _ _ _ (HK3.out) Try.underlying27 rfl (by kernel_rfl) ?_) | (refine wpList_store_row rfl 27 _ _ rfl _ _ rfl rfl 27 _ (HZ3.out) (by kernel_rfl) rfl (by kernel_rfl) ?_) | fail)
    exact bodyPost_ret (results_cell_row rfl _ _ (w.heap.size + 1) 27 _ (0, 0) _ rfl (HZ3.out.row _) Try.underlying27 rfl (by kernel_rfl)) rfl ⟨_, _, rfl, HX.out, HY.out, (HD3.out.below HC.out (below_setRow (Below.refl _ _) (by omega) _)).more (by omega)⟩
  · obtain rfl : ki = 4 := by omega
    clear hki
    go_wp2_with (first | (refine wpList_store_row rfl 27 _ _ rfl _ _ rfl rfl 27 _ (heap_at _ _ _ (by simp)) (by kernel_rfl) rfl (by kernel_rfl) ?_; rw [setRow_at _ _ _ _ _ (by simp)]) | fail)
    generalize w2.alloc (.cells #[.string x, .string y] 27) = w3 at *
    refine HO4.out.mono ?_
    rintro e w5 ⟨t5, rfl, hcu5, ho5⟩
    have HD5 := Lib.hid (HD3.out.call hcu5 ho5)
    have HK5 := Lib.hid (HK3.out.only ho5 hkbb)
    have HZ5 := Lib.hid (HZ3.out.only ho5 hzb)
    clear hcu5 ho5 HD3 HK3 HZ3 HO4
    cases t5
    · have k0 := HK5.out.cell 0 rfl
      have k1 := HK5.out.cell 1 rfl
      have f0 := HK5.out.free 0
      have f1 := HK5.out.free 1
      have HK90 : Hid (RowAt (w5.setCell ⟨w2.heap.size, 0, none⟩ (.string ⟨#[49, 52]⟩)) w2.heap.size 27 #[.string ⟨#[49, 52]⟩, .string y]) := Lib.hid (HK5.out.set 0 (.string ⟨#[49, 52]⟩))
      have HZ90 := Lib.hid (HZ5.out.other ⟨w2.heap.size, 0, none⟩ (.string ⟨#[49, 52]⟩) hkz)
      have HE90 := Lib.hid (HD5.out.below HC.out ((Below.refl _ _).setCell (p := ⟨w2.heap.size, 0, none⟩) hkb (.string ⟨#[49, 52]⟩)))
      have HK91 : Hid (RowAt ((w5.setCell ⟨w2.heap.size, 0, none⟩ (.string ⟨#[49, 52]⟩)).setCell ⟨w2.heap.size, 1, none⟩ (.string ⟨#[49, 50, 51, 52]⟩)) w2.heap.size 27 #[.string ⟨#[49, 52]⟩, .string ⟨#[49, 50, 51, 52]⟩]) := Lib.hid (HK90.out.set 1 (.string ⟨#[49, 50, 51, 52]⟩))
      have HZ91 := Lib.hid (HZ90.out.other ⟨w2.heap.size, 1, none⟩ (.string ⟨#[49, 50, 51, 52]⟩) hkz)
      have HE91 := Lib.hid (HE90.out.below HC.out ((Below.refl _ _).setCell (p := ⟨w2.heap.size, 1, none⟩) hkb (.string ⟨#[49, 50, 51, 52]⟩)))
      have HK9 := HK91
      have HZ9 := HZ91
      have HD9 := HE91
      clear HK90 HZ90 HE90
      clear HK91 HZ91 HE91
      go_upto_region 7 with fail
      generalize (w5.setCell ⟨w2.heap.size, 0, none⟩ (.string ⟨#[49, 52]⟩)).setCell ⟨w2.heap.size, 1, none⟩ (.string ⟨#[49, 50, 51, 52]⟩) = w6 at *
      clear k0 k1 f0 f1 HK5 HZ5 HD5
      have k0 := HK9.out.cell 0 rfl
      have k1 := HK9.out.cell 1 rfl
      have f0 := HK9.out.free 0
      have f1 := HK9.out.free 1
      have HK90 : Hid (RowAt (w6.setCell ⟨w2.heap.size, 1, none⟩ (.string ⟨#[49, 50]⟩)) w2.heap.size 27 #[.string ⟨#[49, 52]⟩, .string ⟨#[49, 50]⟩]) := Lib.hid (HK9.out.set 1 (.string ⟨#[49, 50]⟩))
      have HZ90 := Lib.hid (HZ9.out.other ⟨w2.heap.size, 1, none⟩ (.string ⟨#[49, 50]⟩) hkz)
      have HE90 := Lib.hid (HD9.out.below HC.out ((Below.refl _ _).setCell (p := ⟨w2.heap.size, 1, none⟩) hkb (.string ⟨#[49, 50]⟩)))
      have HK91 : Hid (RowAt ((w6.setCell ⟨w2.heap.size, 1, none⟩ (.string ⟨#[49, 50]⟩)).setCell ⟨w2.heap.size, 0, none⟩ (.string ⟨#[49, 52]⟩)) w2.heap.size 27 #[.string ⟨#[49, 52]⟩, .string ⟨#[49, 50]⟩]) := Lib.hid (HK90.out.set 0 (.string ⟨#[49, 52]⟩))
      have HZ91 := Lib.hid (HZ90.out.other ⟨w2.heap.size, 0, none⟩ (.string ⟨#[49, 52]⟩) hkz)
      have HE91 := Lib.hid (HE90.out.below HC.out ((Below.refl _ _).setCell (p := ⟨w2.heap.size, 0, none⟩) hkb (.string ⟨#[49, 52]⟩)))
      have HKx := HK91
      have HZx := HZ91
      have HDx := HE91
      clear HK90 HZ90 HE90
      clear HK91 HZ91 HE91
      go_wp2_with (first | (refine wpList_load_row rfl 27 _ rfl _ rfl 27 _ _ _ (HKx.out) Try.underlying27 rfl (by kernel_rfl) ?_) | (refine wpList_store_row rfl 27 _ _ rfl _ _ rfl rfl 27 _ (HZx.out) (by kernel_rfl) rfl (by kernel_rfl) ?_) | fail)
      exact bodyPost_ret (results_cell_row rfl _ _ (w.heap.size + 1) 27 _ (0, 0) _ rfl (HZx.out.row _) Try.underlying27 rfl (by kernel_rfl)) rfl ⟨_, _, rfl, by decide, by decide, (HDx.out.below HC.out (below_setRow (Below.refl _ _) (by omega) _)).more (by omega)⟩
    · go_wp2_with (first | (refine wpList_load_row rfl 27 _ rfl _ rfl 27 _ _ _ (HK5.out) Try.underlying27 rfl (by kernel_rfl) ?_) | (refine wpList_store_row rfl 27 _ _ rfl _ _ rfl rfl 27 _ (HZ5.out) (by kernel_rfl) rfl (by kernel_rfl) ?_) | fail)
      exact bodyPost_ret (results_cell_row rfl _ _ (w.heap.size + 1) 27 _ (0, 0) _ rfl (HZ5.out.row _) Try.underlying27 rfl (by kernel_rfl)) rfl ⟨_, _, rfl, HX.out, HY.out, (HD5.out.below HC.out (below_setRow (Below.refl _ _) (by omega) _)).more (by omega)⟩
  · obtain rfl : ki = 5 := by omega
    clear hki
    go_wp2_with (first | (refine wpList_store_row rfl 27 _ _ rfl _ _ rfl rfl 27 _ (heap_at _ _ _ (by simp)) (by kernel_rfl) rfl (by kernel_rfl) ?_; rw [setRow_at _ _ _ _ _ (by simp)]) | fail)
    generalize w2.alloc (.cells #[.string x, .string y] 27) = w3 at *
    refine HO4.out.mono ?_
    rintro e w5 ⟨t5, rfl, hcu5, ho5⟩
    have HD5 := Lib.hid (HD3.out.call hcu5 ho5)
    have HK5 := Lib.hid (HK3.out.only ho5 hkbb)
    have HZ5 := Lib.hid (HZ3.out.only ho5 hzb)
    clear hcu5 ho5 HD3 HK3 HZ3 HO4
    cases t5
    · have k0 := HK5.out.cell 0 rfl
      have k1 := HK5.out.cell 1 rfl
      have f0 := HK5.out.free 0
      have f1 := HK5.out.free 1
      have HK90 : Hid (RowAt (w5.setCell ⟨w2.heap.size, 0, none⟩ (.string ⟨#[49, 52, 53]⟩)) w2.heap.size 27 #[.string ⟨#[49, 52, 53]⟩, .string y]) := Lib.hid (HK5.out.set 0 (.string ⟨#[49, 52, 53]⟩))
      have HZ90 := Lib.hid (HZ5.out.other ⟨w2.heap.size, 0, none⟩ (.string ⟨#[49, 52, 53]⟩) hkz)
      have HE90 := Lib.hid (HD5.out.below HC.out ((Below.refl _ _).setCell (p := ⟨w2.heap.size, 0, none⟩) hkb (.string ⟨#[49, 52, 53]⟩)))
      have HK91 : Hid (RowAt ((w5.setCell ⟨w2.heap.size, 0, none⟩ (.string ⟨#[49, 52, 53]⟩)).setCell ⟨w2.heap.size, 1, none⟩ (.string ⟨#[49, 50, 51]⟩)) w2.heap.size 27 #[.string ⟨#[49, 52, 53]⟩, .string ⟨#[49, 50, 51]⟩]) := Lib.hid (HK90.out.set 1 (.string ⟨#[49, 50, 51]⟩))
      have HZ91 := Lib.hid (HZ90.out.other ⟨w2.heap.size, 1, none⟩ (.string ⟨#[49, 50, 51]⟩) hkz)
      have HE91 := Lib.hid (HE90.out.below HC.out ((Below.refl _ _).setCell (p := ⟨w2.heap.size, 1, none⟩) hkb (.string ⟨#[49, 50, 51]⟩)))
      have HK9 := HK91
      have HZ9 := HZ91
      have HD9 := HE91
      clear HK90 HZ90 HE90
      clear HK91 HZ91 HE91
      go_wp2_with (first | (refine wpList_load_row rfl 27 _ rfl _ rfl 27 _ _ _ (HK9.out) Try.underlying27 rfl (by kernel_rfl) ?_) | (refine wpList_store_row rfl 27 _ _ rfl _ _ rfl rfl 27 _ (HZ9.out) (by kernel_rfl) rfl (by kernel_rfl) ?_) | fail)
      exact bodyPost_ret (results_cell_row rfl _ _ (w.heap.size + 1) 27 _ (0, 0) _ rfl (HZ9.out.row _) Try.underlying27 rfl (by kernel_rfl)) rfl ⟨_, _, rfl, by decide, by decide, (HD9.out.below HC.out (below_setRow (Below.refl _ _) (by omega) _)).more (by omega)⟩
    · go_wp2_with (first | (refine wpList_load_row rfl 27 _ rfl _ rfl 27 _ _ _ (HK5.out) Try.underlying27 rfl (by kernel_rfl) ?_) | (refine wpList_store_row rfl 27 _ _ rfl _ _ rfl rfl 27 _ (HZ5.out) (by kernel_rfl) rfl (by kernel_rfl) ?_) | fail)
      exact bodyPost_ret (results_cell_row rfl _ _ (w.heap.size + 1) 27 _ (0, 0) _ rfl (HZ5.out.row _) Try.underlying27 rfl (by kernel_rfl)) rfl ⟨_, _, rfl, HX.out, HY.out, (HD5.out.below HC.out (below_setRow (Below.refl _ _) (by omega) _)).more (by omega)⟩
  · obtain rfl : ki = 6 := by omega
    clear hki
    go_wp2_with (first | (refine wpList_store_row rfl 27 _ _ rfl _ _ rfl rfl 27 _ (heap_at _ _ _ (by simp)) (by kernel_rfl) rfl (by kernel_rfl) ?_; rw [setRow_at _ _ _ _ _ (by simp)]) | fail)
    generalize w2.alloc (.cells #[.string x, .string y] 27) = w3 at *
    refine HO4.out.mono ?_
    rintro e w5 ⟨t5, rfl, hcu5, ho5⟩
    have HD5 := Lib.hid (HD3.out.call hcu5 ho5)
    have HK5 := Lib.hid (HK3.out.only ho5 hkbb)
    have HZ5 := Lib.hid (HZ3.out.only ho5 hzb)
    clear hcu5 ho5 HD3 HK3 HZ3 HO4
    cases t5
    · have k0 := HK5.out.cell 0 rfl
      have k1 := HK5.out.cell 1 rfl
      have f0 := HK5.out.free 0
      have f1 := HK5.out.free 1
      have HK90 : Hid (RowAt (w5.setCell ⟨w2.heap.size, 0, none⟩ (.string ⟨#[49, 52]⟩)) w2.heap.size 27 #[.string ⟨#[49, 52]⟩, .string y]) := Lib.hid (HK5.out.set 0 (.string ⟨#[49, 52]⟩))
      have HZ90 := Lib.hid (HZ5.out.other ⟨w2.heap.size, 0, none⟩ (.string ⟨#[49, 52]⟩) hkz)
      have HE90 := Lib.hid (HD5.out.below HC.out ((Below.refl _ _).setCell (p := ⟨w2.heap.size, 0, none⟩) hkb (.string ⟨#[49, 52]⟩)))
      have HK91 : Hid (RowAt ((w5.setCell ⟨w2.heap.size, 0, none⟩ (.string ⟨#[49, 52]⟩)).setCell ⟨w2.heap.size, 1, none⟩ (.string ⟨#[49, 50, 51, 52]⟩)) w2.heap.size 27 #[.string ⟨#[49, 52]⟩, .string ⟨#[49, 50, 51, 52]⟩]) := Lib.hid (HK90.out.set 1 (.string ⟨#[49, 50, 51, 52]⟩))
      have HZ91 := Lib.hid (HZ90.out.other ⟨w2.heap.size, 1, none⟩ (.string ⟨#[49, 50, 51, 52]⟩) hkz)
      have HE91 := Lib.hid (HE90.out.below HC.out ((Below.refl _ _).setCell (p := ⟨w2.heap.size, 1, none⟩) hkb (.string ⟨#[49, 50, 51, 52]⟩)))
      have HK9 := HK91
      have HZ9 := HZ91
      have HD9 := HE91
      clear HK90 HZ90 HE90
      clear HK91 HZ91 HE91
      go_wp2_with (first | (refine wpList_load_row rfl 27 _ rfl _ rfl 27 _ _ _ (HK9.out) Try.underlying27 rfl (by kernel_rfl) ?_) | (refine wpList_store_row rfl 27 _ _ rfl _ _ rfl rfl 27 _ (HZ9.out) (by kernel_rfl) rfl (by kernel_rfl) ?_) | fail)
      exact bodyPost_ret (results_cell_row rfl _ _ (w.heap.size + 1) 27 _ (0, 0) _ rfl (HZ9.out.row _) Try.underlying27 rfl (by kernel_rfl)) rfl ⟨_, _, rfl, by decide, by decide, (HD9.out.below HC.out (below_setRow (Below.refl _ _) (by omega) _)).more (by omega)⟩
    · go_wp2_with (first | (refine wpList_load_row rfl 27 _ rfl _ rfl 27 _ _ _ (HK5.out) Try.underlying27 rfl (by kernel_rfl) ?_) | (refine wpList_store_row rfl 27 _ _ rfl _ _ rfl rfl 27 _ (HZ5.out) (by kernel_rfl) rfl (by kernel_rfl) ?_) | fail)
      exact bodyPost_ret (results_cell_row rfl _ _ (w.heap.size + 1) 27 _ (0, 0) _ rfl (HZ5.out.row _) Try.underlying27 rfl (by kernel_rfl)) rfl ⟨_, _, rfl, HX.out, HY.out, (HD5.out.below HC.out (below_setRow (Below.refl _ _) (by omega) _)).more (by omega)⟩
  · obtain rfl : ki = 7 := by omega
    clear hki
    go_wp2_with (first | (refine wpList_store_row rfl 27 _ _ rfl _ _ rfl rfl 27 _ (heap_at _ _ _ (by simp)) (by kernel_rfl) rfl (by kernel_rfl) ?_; rw [setRow_at _ _ _ _ _ (by simp)]) | (refine wpList_load_row rfl 27 _ rfl _ rfl 27 _ _ _ (HK3.out) Try.underlying27 rfl (by kernel_rfl) ?_) | (refine wpList_store_row rfl 27 _ _ rfl _ _ rfl rfl 27 _ (HZ3.out) (by kernel_rfl) rfl (by kernel_rfl) ?_) | fail)
    exact bodyPost_ret (results_cell_row rfl _ _ (w.heap.size + 1) 27 _ (0, 0) _ rfl (HZ3.out.row _) Try.underlying27 rfl (by kernel_rfl)) rfl ⟨_, _, rfl, HX.out, HY.out, (HD3.out.below HC.out (below_setRow (Below.refl _ _) (by omega) _)).more (by omega)⟩
  · obtain rfl : ki = 8 := by omega
    clear hki
    go_wp2_with (first | (refine wpList_store_row rfl 27 _ _ rfl _ _ rfl rfl 27 _ (heap_at _ _ _ (by simp)) (by kernel_rfl) rfl (by kernel_rfl) ?_; rw [setRow_at _ _ _ _ _ (by simp)]) | fail)
    generalize w2.alloc (.cells #[.string x, .string y] 27) = w3 at *
    refine HO4.out.mono ?_
    rintro e w5 ⟨t5, rfl, hcu5, ho5⟩
    have HD5 := Lib.hid (HD3.out.call hcu5 ho5)
    have HK5 := Lib.hid (HK3.out.only ho5 hkbb)
    have HZ5 := Lib.hid (HZ3.out.only ho5 hzb)
    clear hcu5 ho5 HD3 HK3 HZ3 HO4
    cases t5
    · have k0 := HK5.out.cell 0 rfl
      have k1 := HK5.out.cell 1 rfl
      have f0 := HK5.out.free 0
      have f1 := HK5.out.free 1
      have HK90 : Hid (RowAt (w5.setCell ⟨w2.heap.size, 0, none⟩ (.string ⟨#[49, 52]⟩)) w2.heap.size 27 #[.string ⟨#[49, 52]⟩, .string y]) := Lib.hid (HK5.out.set 0 (.string ⟨#[49, 52]⟩))
      have HZ90 := Lib.hid (HZ5.out.other ⟨w2.heap.size, 0, none⟩ (.string ⟨#[49, 52]⟩) hkz)
      have HE90 := Lib.hid (HD5.out.below HC.out ((Below.refl _ _).setCell (p := ⟨w2.heap.size, 0, none⟩) hkb (.string ⟨#[49, 52]⟩)))
      have HK91 : Hid (RowAt ((w5.setCell ⟨w2.heap.size, 0, none⟩ (.string ⟨#[49, 52]⟩)).setCell ⟨w2.heap.size, 1, none⟩ (.string ⟨#[49, 50, 51, 52]⟩)) w2.heap.size 27 #[.string ⟨#[49, 52]⟩, .string ⟨#[49, 50, 51, 52]⟩]) := Lib.hid (HK90.out.set 1 (.string ⟨#[49, 50, 51, 52]⟩))
      have HZ91 := Lib.hid (HZ90.out.other ⟨w2.heap.size, 1, none⟩ (.string ⟨#[49, 50, 51, 52]⟩) hkz)
      have HE91 := Lib.hid (HE90.out.below HC.out ((Below.refl _ _).setCell (p := ⟨w2.heap.size, 1, none⟩) hkb (.string ⟨#[49, 50, 51, 52]⟩)))
      have HK9 := HK91
      have HZ9 := HZ91
      have HD9 := HE91
      clear HK90 HZ90 HE90
      clear HK91 HZ91 HE91
      go_wp2_with (first | (refine wpList_load_row rfl 27 _ rfl _ rfl 27 _ _ _ (HK9.out) Try.underlying27 rfl (by kernel_rfl) ?_) | (refine wpList_store_row rfl 27 _ _ rfl _ _ rfl rfl 27 _ (HZ9.out) (by kernel_rfl) rfl (by kernel_rfl) ?_) | fail)
      exact bodyPost_ret (results_cell_row rfl _ _ (w.heap.size + 1) 27 _ (0, 0) _ rfl (HZ9.out.row _) Try.underlying27 rfl (by kernel_rfl)) rfl ⟨_, _, rfl, by decide, by decide, (HD9.out.below HC.out (below_setRow (Below.refl _ _) (by omega) _)).more (by omega)⟩
    · go_wp2_with (first | (refine wpList_load_row rfl 27 _ rfl _ rfl 27 _ _ _ (HK5.out) Try.underlying27 rfl (by kernel_rfl) ?_) | (refine wpList_store_row rfl 27 _ _ rfl _ _ rfl rfl 27 _ (HZ5.out) (by kernel_rfl) rfl (by kernel_rfl) ?_) | fail)
      exact bodyPost_ret (results_cell_row rfl _ _ (w.heap.size + 1) 27 _ (0, 0) _ rfl (HZ5.out.row _) Try.underlying27 rfl (by kernel_rfl)) rfl ⟨_, _, rfl, HX.out, HY.out, (HD5.out.below HC.out (below_setRow (Below.refl _ _) (by omega) _)).more (by omega)⟩

def fives : List ByteArray := [⟨#[]⟩, ⟨#[120]⟩, ⟨#[49]⟩, ⟨#[49, 51]⟩, ⟨#[57, 57]⟩]
theorem fives_small : ∀ s ∈ fives, s.size ≤ 10 := by
  intro s hs
  simp [fives] at hs
  rcases hs with rfl | rfl | rfl | rfl | rfl <;> decide

set_option maxRecDepth 100000 in
set_option maxHeartbeats 1000000 in
theorem anyCalls_draw (b : Nat) (a : Option Addr) (len cap m : Nat) (hm : m ≤ 700000) (s : ByteArray) (hs : s.size ≤ maxLen) (n : Int) (v : Value) (L : List (List Nat)) (hl : L.length ≤ 2000000) (hsm : Small L) (w : World) (hc : Cur w b a len cap m) (h : Txts w v L) :
    Calls Try.prog 146 #[.pointer (some ⟨b, 0, none⟩), .agg #[.string s, .int .i64 n, v]] w (SomeCalls b a len cap (m + 20) w) := by
  obtain ⟨a1, k1, rfl, -, -⟩ := id h
  have HC := Lib.hid hc
  have hlt := hc.lt
  have HT := Lib.hid h
  have hb0 := ((Below.refl _ w).alloc (Nat.le_refl _) (.cells #[.string s, .int .i64 n, .slice a1 L.length k1] 25)).alloc (by simp) (.cells #[.string ⟨#[]⟩, .string ⟨#[]⟩] 27)
  have HD0 := Lib.hid ((Dr.start hc).below hc hb0)
  have HR0 := Lib.hid ((RowAt.new w 25 #[.string s, .int .i64 n, .slice a1 L.length k1]).push (.cells #[.string ⟨#[]⟩, .string ⟨#[]⟩] 27))
  have HZ0 : Hid (RowAt ((w.alloc (.cells #[.string s, .int .i64 n, .slice a1 L.length k1] 25)).alloc (.cells #[.string ⟨#[]⟩, .string ⟨#[]⟩] 27)) (w.heap.size + 1) 27 #[.string ⟨#[]⟩, .string ⟨#[]⟩]) := Lib.hid (by
    have := RowAt.new (w.alloc (.cells #[.string s, .int .i64 n, .slice a1 L.length k1] 25)) 27 #[.string ⟨#[]⟩, .string ⟨#[]⟩]
    simpa using this)
  have HB0 := Lib.hid hb0
  have HG := Lib.hid (fun w h => l4Good_any s hs n (.slice a1 L.length k1) L w h hl hsm)
  have hkk : goodM s n L = true → ∃ k : Nat, n = k ∧ 3 ≤ k ∧ k ≤ 8 := fun hg => by
    have := goodAll_range (goodM_parts hg).1
    exact ⟨n.toNat, by omega, by omega, by omega⟩
  have HKK := Lib.hid hkk
  have hzb : w.heap.size + 1 ≠ b := by omega
  have hrb : w.heap.size ≠ b := by omega
  clear hc hb0 hl hsm hs h hkk
  generalize L.length = ml at *
  go_enter Try.func146, Try.ntmps146
  go_wp2_with (first | (refine wpList_load_row rfl 25 _ rfl _ rfl 25 _ _ _ (HR0.out) Try.underlying25 rfl (by kernel_rfl) ?_) | fail)
  refine (HG.out _ (HT.out.kept HB0.out)).mono ?_
  rintro e w1 ⟨rfl, hb1⟩
  have HR1 := Lib.hid (HR0.out.kept hb1)
  have HZ1 := Lib.hid (HZ0.out.kept hb1)
  have HS1 := Lib.hid (HB0.out.trans (hb1.mono HB0.out.size)).size
  have HD1 := Lib.hid (HD0.out.below HC.out (hb1.mono HB0.out.size))
  clear hb1 HR0 HZ0 HD0 HG HT HB0
  cases hg : goodM s n L
  · clear hg HKK
    go_wp2_with (first | (refine wpList_store_row rfl 27 _ _ rfl _ _ rfl rfl 27 _ (HZ1.out) (by kernel_rfl) rfl (by kernel_rfl) ?_) | fail)
    exact bodyPost_ret (results_cell_row rfl _ _ (w.heap.size + 1) 27 _ (0, 0) _ rfl (HZ1.out.row _) Try.underlying27 rfl (by kernel_rfl)) rfl ⟨_, _, rfl, by decide, by decide, (HD1.out.below HC.out (below_setRow (Below.refl _ _) (by omega) _)).more (by omega)⟩
  · obtain ⟨k, rfl, h3, h8⟩ := HKK.out hg
    clear hg HKK
    go_wp2_with (first | (refine wpList_load_row rfl 25 _ rfl _ rfl 25 _ _ _ (HR1.out) Try.underlying25 rfl (by kernel_rfl) ?_) | fail)
    refine (calls_draw b a len cap m (by omega) k h3 h8 s a1 ml k1 _ HD1.out.cur).mono ?_
    rintro e w2 ⟨x, y, rfl, hx, hy, hd2⟩
    have HD2 := Lib.hid (HD1.out.call hd2.cur hd2.only)
    have HZ2 := Lib.hid (HZ1.out.only hd2.only hzb)
    have HS2 := Lib.hid (Nat.le_trans HS1.out hd2.only.size)
    have HX := Lib.hid hx
    have HY := Lib.hid hy
    clear hd2 hx hy HD1 HZ1 HR1 HS1
    have hal := (Below.refl w2.heap.size w2).alloc (Nat.le_refl _) (.cells #[.string x, .string y] 27)
    have HK3 := Lib.hid (RowAt.new w2 27 #[.string x, .string y])
    have HZ3 := Lib.hid (HZ2.out.kept hal)
    have HD3 := Lib.hid (HD2.out.below HC.out (hal.mono HS2.out))
    have hkb : w.heap.size ≤ w2.heap.size := HS2.out
    have hkz : w.heap.size + 1 ≠ w2.heap.size := by have := HZ2.out.lt; omega
    have hkbb : w2.heap.size ≠ b := by omega
    clear hal HZ2 HD2 HS2
    go_wp2_with (first | (refine wpList_store_row rfl 27 _ _ rfl _ _ rfl rfl 27 _ (heap_at _ _ _ (by simp)) (by kernel_rfl) rfl (by kernel_rfl) ?_; rw [setRow_at _ _ _ _ _ (by simp)]) | fail)
    generalize w2.alloc (.cells #[.string x, .string y] 27) = w3 at *
    refine (one_any b a len cap (m + 8) 16 (by omega) (by omega) (by omega) w3 HD3.out.cur).mono ?_
    rintro e w5 ⟨t5, rfl, hcu5, ho5⟩
    have HD5 := Lib.hid (HD3.out.call hcu5 ho5)
    have HK5 := Lib.hid (HK3.out.only ho5 hkbb)
    have HZ5 := Lib.hid (HZ3.out.only ho5 hzb)
    have HS5 := Lib.hid (Nat.le_trans HK3.out.lt ho5.size)
    clear hcu5 ho5 HD3 HK3 HZ3
    cases t5
    · go_wp2_with (first | (refine wpList_load_row rfl 27 _ rfl _ rfl 27 _ _ _ (HK5.out) Try.underlying27 rfl (by kernel_rfl) ?_) | (refine wpList_store_row rfl 27 _ _ rfl _ _ rfl rfl 27 _ (HZ5.out) (by kernel_rfl) rfl (by kernel_rfl) ?_) | fail)
      exact bodyPost_ret (results_cell_row rfl _ _ (w.heap.size + 1) 27 _ (0, 0) _ rfl (HZ5.out.row _) Try.underlying27 rfl (by kernel_rfl)) rfl ⟨_, _, rfl, HX.out, HY.out, (HD5.out.below HC.out (below_setRow (Below.refl _ _) (by omega) _)).more (by omega)⟩
    · go_wp2_with fail
      refine (ofK_any 10 b a len cap _ fives fives_small (by omega) (by decide) (by decide) _ HD5.out.cur 9).mono ?_
      rintro e w6 ⟨t, ht, rfl, hcu6, ho6⟩
      have HD6 := Lib.hid (HD5.out.call hcu6 ho6)
      have HK6 := Lib.hid (HK5.out.only ho6 hkbb)
      have HZ6 := Lib.hid (HZ5.out.only ho6 hzb)
      clear hcu6 ho6 HD5 HK5 HZ5
      have k0 := HK6.out.cell 0 rfl
      have f0 := HK6.out.free 0
      have HK9 : Hid (RowAt (w6.setCell ⟨w2.heap.size, 0, none⟩ (.string t)) w2.heap.size 27 #[.string t, .string y]) := Lib.hid (HK6.out.set 0 (.string t))
      have HZ9 := Lib.hid (HZ6.out.other ⟨w2.heap.size, 0, none⟩ (.string t) hkz)
      have HD9 := Lib.hid (HD6.out.below HC.out ((Below.refl _ _).setCell (p := ⟨w2.heap.size, 0, none⟩) hkb (.string t)))
      clear HK6 HZ6 HD6
      go_wp2_with (first | (refine wpList_load_row rfl 27 _ rfl _ rfl 27 _ _ _ (HK9.out) Try.underlying27 rfl (by kernel_rfl) ?_) | (refine wpList_store_row rfl 27 _ _ rfl _ _ rfl rfl 27 _ (HZ9.out) (by kernel_rfl) rfl (by kernel_rfl) ?_) | fail)
      exact bodyPost_ret (results_cell_row rfl _ _ (w.heap.size + 1) 27 _ (0, 0) _ rfl (HZ9.out.row _) Try.underlying27 rfl (by kernel_rfl)) rfl ⟨_, _, rfl, ht, HY.out, (HD9.out.below HC.out (below_setRow (Below.refl _ _) (by omega) _)).more (by omega)⟩
end Go.Proofs.Ytkhglknpcajmiaa
