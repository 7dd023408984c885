/- The closure that goes from head to head. -/
import Derived.Test.YtkhglknpcajmiaaXI
import Derived.Test.YtkhglknpcajmiaaSO
namespace Go.Proofs.Ytkhglknpcajmiaa
open Go.RowKit
set_option linter.unusedSimpArgs false
set_option linter.unusedVariables false

theorem call_rangeF {W : World} {c : Nat} {u : Value} {f h0 h1 h2 : Nat → Nat} (h : RowAt W c 92 (callV u f h0 h1 h2)) : W.rangeAt c 1 (cells8 f) :=
  h.range8 1 f fun j hj => by
    have : j = 0 ∨ j = 1 ∨ j = 2 ∨ j = 3 ∨ j = 4 ∨ j = 5 ∨ j = 6 ∨ j = 7 := by omega
    rcases this with rfl | rfl | rfl | rfl | rfl | rfl | rfl | rfl <;> rfl
theorem tou_rangeF {W : World} {c : Nat} {u kv : Value} {f h0 h1 h2 : Nat → Nat} (h : RowAt W c 116 (touV u f h0 h1 h2 kv)) : W.rangeAt c 1 (cells8 f) :=
  h.range8 1 f fun j hj => by
    have : j = 0 ∨ j = 1 ∨ j = 2 ∨ j = 3 ∨ j = 4 ∨ j = 5 ∨ j = 6 ∨ j = 7 := by omega
    rcases this with rfl | rfl | rfl | rfl | rfl | rfl | rfl | rfl <;> rfl
theorem tou_take (u kv : Value) (f h0 h1 h2 : Nat → Nat) : (touV u f h0 h1 h2 kv).toList.take 33 = (callV u f h0 h1 h2).toList := rfl
theorem tou_range {W : World} {c : Nat} {u kv : Value} {f h0 h1 h2 : Nat → Nat} (h : RowAt W c 116 (touV u f h0 h1 h2 kv)) : W.rangeAt c 0 (callV u f h0 h1 h2).toList := by
  intro j v hv
  have hj : j < 33 := (List.getElem?_eq_some_iff.1 hv).1
  rw [← tou_take u kv f h0 h1 h2, List.getElem?_take_of_lt hj] at hv
  rw [Nat.zero_add]
  exact h.cell j (by rw [← Array.getElem?_toList]; exact hv)
theorem sizeCalling (u : Value) (f h0 h1 h2 : Nat → Nat) : (Try.prog.info? 92).map (·.size) = some (callV u f h0 h1 h2).toList.length := by
  have : (Try.prog.info? 92).map (·.size) = some 33 := by kernel_rfl
  exact this
/-- the head that a call of this number leads to -/
def pk3 (h0 h1 h2 : Nat → Nat) (k : Nat) : Nat → Nat := if k = 0 then h0 else if k = 1 then h1 else h2
theorem pk3_row {n : Nat} {h0 h1 h2 : Nat → Nat} (r0 : IsRow n h0) (r1 : IsRow n h1) (r2 : IsRow n h2) (k : Nat) : IsRow n (pk3 h0 h1 h2 k) := by
  unfold pk3
  split
  · exact r0
  · split
    · exact r1
    · exact r2

set_option maxRecDepth 100000 in
set_option maxHeartbeats 1000000 in
theorem advance_any (a : Option Addr) (m cap : Nat) (f h0 h1 h2 : Nat → Nat) (w : World) :
    Calls Try.prog 147 #[.agg (callV (.slice a m cap) f h0 h1 h2)] w fun e w' => e = .returned (.func (.func 161) #[] #[.pointer (some ⟨w.heap.size + 1, 0, none⟩), .pointer (some ⟨w.heap.size, 0, none⟩)]) ∧ RowAt w' w.heap.size 92 (callV (.slice a m cap) f h0 h1 h2) ∧ RowAt w' (w.heap.size + 1) 87 (dig8 f) ∧ w'.heap.size = w.heap.size + 2 ∧ Below w.heap.size w w' := by
  have hmf : ∀ (fn : Fn) (first cap : Array Value) (w : World), (Instr.makeFunc fn first cap).run Try.prog w = .ok (.func fn first cap) w := fun _ _ _ _ => rfl
  have HX := Lib.hid (RowAt.new w 92 (callV (.slice a m cap) f h0 h1 h2))
  have HB := Lib.hid ((Below.refl _ w).alloc (Nat.le_refl _) (.cells (callV (.slice a m cap) f h0 h1 h2) 92))
  have HF := Lib.hid (call_rangeF HX.out)
  have hsz : (w.alloc (.cells (callV (.slice a m cap) f h0 h1 h2) 92)).heap.size = w.heap.size + 1 := by simp
  have HD : Hid (RowAt ((w.alloc (.cells (callV (.slice a m cap) f h0 h1 h2) 92)).alloc (.cells (dig8 f) 87)) (w.heap.size + 1) 87 (dig8 f)) := Lib.hid (by
    have := RowAt.new (w.alloc (.cells (callV (.slice a m cap) f h0 h1 h2) 92)) 87 (dig8 f)
    rwa [hsz] at this)
  have HX2 := Lib.hid (HX.out.push (.cells (dig8 f) 87))
  have HB2 := Lib.hid (HB.out.alloc HB.out.size (.cells (dig8 f) 87))
  have HSZ2 : Hid (((w.alloc (.cells (callV (.slice a m cap) f h0 h1 h2) 92)).alloc (.cells (dig8 f) 87)).heap.size = w.heap.size + 2) := Lib.hid (by simp)
  clear hsz
  simp only [callV] at HF HX HB HD HX2 HB2 HSZ2 ⊢
  go_enter Try.func147, Try.ntmps147
  go_wp2_with (first | (refine wpList_store_row rfl 87 _ _ rfl _ _ rfl rfl 87 _ (heap_at _ _ _ (by simp)) (by kernel_rfl) rfl (by kernel_rfl) ?_; rw [setRow_at _ _ _ _ _ (by simp)]) | (refine wpList_load8 rfl _ rfl w.heap.size 1 rfl f HF.out ?_) | fail)
  go_ret
  exact ⟨by simp, HX2.out, HD.out, HSZ2.out, HB2.out⟩

set_option maxRecDepth 100000 in
set_option maxHeartbeats 1000000 in
theorem advance_0 (n : Nat) (f g h0 h1 h2 : Nat → Nat) (hg : IsRow n g) (hr : IsRow n h0) (bh bc m cap : Nat) (a : Option Addr) (hne : bh ≠ bc) (w : World) (H1 : RowAt w bh 87 (dig8 g)) (H2 : RowAt w bc 92 (callV (.slice a m cap) f h0 h1 h2)) :
    Calls Try.prog 161 #[.int .i64 0, .pointer (some ⟨bh, 0, none⟩), .pointer (some ⟨bc, 0, none⟩)] w fun e w' => e = .returned (.agg (dig8 (mulR n g h0))) ∧ RowAt w' bh 87 (dig8 (mulR n g h0)) ∧ Only bh w w' := by
  have HTM := Lib.hid (times_row n g h0 hg hr)
  have HLT := Lib.hid H1.lt
  have HLC := Lib.hid H2.lt
  generalize mulR n g h0 = r at *
  have H1a := Lib.hid (H1.push (.cells zero8 87))
  have H2a := Lib.hid (H2.push (.cells zero8 87))
  have HZ := Lib.hid (RowAt.new w 87 zero8)
  have HB := Lib.hid ((Below.refl _ w).alloc (Nat.le_refl _) (.cells zero8 87))
  clear H1 H2 hg hr
  go_enter Try.func161, Try.ntmps161
  go_wp2_with fail
  obtain ⟨w1, hw1⟩ : ∃ w1, w.alloc (.cells #[.int .u8 0, .int .u8 0, .int .u8 0, .int .u8 0, .int .u8 0, .int .u8 0, .int .u8 0, .int .u8 0] 87) = w1 := ⟨_, rfl⟩
  simp only [zero8] at H1a H2a HZ HB
  rw [hw1] at H1a H2a HZ HB ⊢
  have HSZ : Hid (w1.heap.size = w.heap.size + 1) := Lib.hid (by rw [← hw1]; simp)
  clear hw1
  obtain ⟨x0, x1, x2, x3, x4, x5, x6, x7⟩ : (w1.cell? ⟨bh, 0, none⟩ = some (.int .u8 (g 0)) ∧ w1.cell? ⟨bh, 1, none⟩ = some (.int .u8 (g 1)) ∧ w1.cell? ⟨bh, 2, none⟩ = some (.int .u8 (g 2)) ∧ w1.cell? ⟨bh, 3, none⟩ = some (.int .u8 (g 3)) ∧ w1.cell? ⟨bh, 4, none⟩ = some (.int .u8 (g 4)) ∧ w1.cell? ⟨bh, 5, none⟩ = some (.int .u8 (g 5)) ∧ w1.cell? ⟨bh, 6, none⟩ = some (.int .u8 (g 6)) ∧ w1.cell? ⟨bh, 7, none⟩ = some (.int .u8 (g 7))) := by
    have h1 := H1a.out
    exact ⟨h1.cell 0 rfl, h1.cell 1 rfl, h1.cell 2 rfl, h1.cell 3 rfl, h1.cell 4 rfl, h1.cell 5 rfl, h1.cell 6 rfl, h1.cell 7 rfl⟩
  obtain ⟨y0, y1, y2, y3, y4, y5, y6, y7⟩ : (w1.cell? ⟨bc, 9, none⟩ = some (.int .u8 (h0 0)) ∧ w1.cell? ⟨bc, 10, none⟩ = some (.int .u8 (h0 1)) ∧ w1.cell? ⟨bc, 11, none⟩ = some (.int .u8 (h0 2)) ∧ w1.cell? ⟨bc, 12, none⟩ = some (.int .u8 (h0 3)) ∧ w1.cell? ⟨bc, 13, none⟩ = some (.int .u8 (h0 4)) ∧ w1.cell? ⟨bc, 14, none⟩ = some (.int .u8 (h0 5)) ∧ w1.cell? ⟨bc, 15, none⟩ = some (.int .u8 (h0 6)) ∧ w1.cell? ⟨bc, 16, none⟩ = some (.int .u8 (h0 7))) := by
    have h2 := H2a.out
    exact ⟨h2.cell 9 rfl, h2.cell 10 rfl, h2.cell 11 rfl, h2.cell 12 rfl, h2.cell 13 rfl, h2.cell 14 rfl, h2.cell 15 rfl, h2.cell 16 rfl⟩
  go_still_tail 5, (by kernel_rfl)
  change wpList _ _ _ _ _ w1.drew
  have H1b : Hid (RowAt w1.drew bh 87 (dig8 g)) := Lib.hid H1a.out
  have HZb : Hid (RowAt w1.drew w.heap.size 87 #[.int .u8 0, .int .u8 0, .int .u8 0, .int .u8 0, .int .u8 0, .int .u8 0, .int .u8 0, .int .u8 0]) := Lib.hid HZ.out
  have HBb := Lib.hid HB.out.drew
  clear x0 x1 x2 x3 x4 x5 x6 x7 y0 y1 y2 y3 y4 y5 y6 y7 H1a H2a HZ HB HSZ
  generalize w1.drew = w2 at *
  go_wp2_with fail
  refine (HTM.out _).mono ?_
  rintro e w3 ⟨rfl, hb3⟩
  have H1c := Lib.hid (H1b.out.kept hb3)
  have HZc := Lib.hid (HZb.out.kept hb3)
  have HBc := Lib.hid (HBb.out.trans (hb3.mono HBb.out.size))
  have hne2 : bh ≠ w.heap.size := by have := HLT.out; omega
  clear hb3 H1b HZb HBb
  have H1d := Lib.hid (H1c.out.row (dig8 r))
  have HZd := Lib.hid (HZc.out.rowOther (dig8 r) (show w.heap.size ≠ bh from fun e => hne2 e.symm))
  go_wp2_with (first | (refine wpList_store_row rfl 87 _ _ rfl _ _ rfl rfl 87 _ (H1c.out) (by kernel_rfl) rfl (by kernel_rfl) ?_) | (refine wpList_load_row rfl 87 _ rfl _ rfl 87 _ _ _ (H1d.out) Try.underlying87 rfl (by kernel_rfl) ?_) | (refine wpList_store_row rfl 87 _ _ rfl _ _ rfl rfl 87 _ (HZd.out) (by kernel_rfl) rfl (by kernel_rfl) ?_) | fail)
  exact bodyPost_ret (results_cell_row rfl _ _ w.heap.size 87 _ (0, 0) _ rfl (HZd.out.row _) Try.underlying87 rfl (by kernel_rfl)) rfl ⟨rfl, H1d.out.rowOther _ hne2, by
    have h := HBc.out
    refine ⟨h.os, h.tape, h.output, by simpa [World.setRow] using h.size, fun k hk hkb => ?_⟩
    exact (setRow_other _ _ _ _ (show k ≠ w.heap.size by omega)).trans ((setRow_other _ _ _ _ hkb).trans (h.block k hk))⟩

set_option maxRecDepth 100000 in
set_option maxHeartbeats 1000000 in
theorem advance_1 (n : Nat) (f g h0 h1 h2 : Nat → Nat) (hg : IsRow n g) (hr : IsRow n h1) (bh bc m cap : Nat) (a : Option Addr) (hne : bh ≠ bc) (w : World) (H1 : RowAt w bh 87 (dig8 g)) (H2 : RowAt w bc 92 (callV (.slice a m cap) f h0 h1 h2)) :
    Calls Try.prog 161 #[.int .i64 1, .pointer (some ⟨bh, 0, none⟩), .pointer (some ⟨bc, 0, none⟩)] w fun e w' => e = .returned (.agg (dig8 (mulR n g h1))) ∧ RowAt w' bh 87 (dig8 (mulR n g h1)) ∧ Only bh w w' := by
  have HTM := Lib.hid (times_row n g h1 hg hr)
  have HLT := Lib.hid H1.lt
  have HLC := Lib.hid H2.lt
  generalize mulR n g h1 = r at *
  have H1a := Lib.hid (H1.push (.cells zero8 87))
  have H2a := Lib.hid (H2.push (.cells zero8 87))
  have HZ := Lib.hid (RowAt.new w 87 zero8)
  have HB := Lib.hid ((Below.refl _ w).alloc (Nat.le_refl _) (.cells zero8 87))
  clear H1 H2 hg hr
  go_enter Try.func161, Try.ntmps161
  go_wp2_with fail
  obtain ⟨w1, hw1⟩ : ∃ w1, w.alloc (.cells #[.int .u8 0, .int .u8 0, .int .u8 0, .int .u8 0, .int .u8 0, .int .u8 0, .int .u8 0, .int .u8 0] 87) = w1 := ⟨_, rfl⟩
  simp only [zero8] at H1a H2a HZ HB
  rw [hw1] at H1a H2a HZ HB ⊢
  have HSZ : Hid (w1.heap.size = w.heap.size + 1) := Lib.hid (by rw [← hw1]; simp)
  clear hw1
  obtain ⟨x0, x1, x2, x3, x4, x5, x6, x7⟩ : (w1.cell? ⟨bh, 0, none⟩ = some (.int .u8 (g 0)) ∧ w1.cell? ⟨bh, 1, none⟩ = some (.int .u8 (g 1)) ∧ w1.cell? ⟨bh, 2, none⟩ = some (.int .u8 (g 2)) ∧ w1.cell? ⟨bh, 3, none⟩ = some (.int .u8 (g 3)) ∧ w1.cell? ⟨bh, 4, none⟩ = some (.int .u8 (g 4)) ∧ w1.cell? ⟨bh, 5, none⟩ = some (.int .u8 (g 5)) ∧ w1.cell? ⟨bh, 6, none⟩ = some (.int .u8 (g 6)) ∧ w1.cell? ⟨bh, 7, none⟩ = some (.int .u8 (g 7))) := by
    have h1 := H1a.out
    exact ⟨h1.cell 0 rfl, h1.cell 1 rfl, h1.cell 2 rfl, h1.cell 3 rfl, h1.cell 4 rfl, h1.cell 5 rfl, h1.cell 6 rfl, h1.cell 7 rfl⟩
  obtain ⟨y0, y1, y2, y3, y4, y5, y6, y7⟩ : (w1.cell? ⟨bc, 17, none⟩ = some (.int .u8 (h1 0)) ∧ w1.cell? ⟨bc, 18, none⟩ = some (.int .u8 (h1 1)) ∧ w1.cell? ⟨bc, 19, none⟩ = some (.int .u8 (h1 2)) ∧ w1.cell? ⟨bc, 20, none⟩ = some (.int .u8 (h1 3)) ∧ w1.cell? ⟨bc, 21, none⟩ = some (.int .u8 (h1 4)) ∧ w1.cell? ⟨bc, 22, none⟩ = some (.int .u8 (h1 5)) ∧ w1.cell? ⟨bc, 23, none⟩ = some (.int .u8 (h1 6)) ∧ w1.cell? ⟨bc, 24, none⟩ = some (.int .u8 (h1 7))) := by
    have h2 := H2a.out
    exact ⟨h2.cell 17 rfl, h2.cell 18 rfl, h2.cell 19 rfl, h2.cell 20 rfl, h2.cell 21 rfl, h2.cell 22 rfl, h2.cell 23 rfl, h2.cell 24 rfl⟩
  go_still_tail 5, (by kernel_rfl)
  change wpList _ _ _ _ _ w1.drew
  have H1b : Hid (RowAt w1.drew bh 87 (dig8 g)) := Lib.hid H1a.out
  have HZb : Hid (RowAt w1.drew w.heap.size 87 #[.int .u8 0, .int .u8 0, .int .u8 0, .int .u8 0, .int .u8 0, .int .u8 0, .int .u8 0, .int .u8 0]) := Lib.hid HZ.out
  have HBb := Lib.hid HB.out.drew
  clear x0 x1 x2 x3 x4 x5 x6 x7 y0 y1 y2 y3 y4 y5 y6 y7 H1a H2a HZ HB HSZ
  generalize w1.drew = w2 at *
  go_wp2_with fail
  refine (HTM.out _).mono ?_
  rintro e w3 ⟨rfl, hb3⟩
  have H1c := Lib.hid (H1b.out.kept hb3)
  have HZc := Lib.hid (HZb.out.kept hb3)
  have HBc := Lib.hid (HBb.out.trans (hb3.mono HBb.out.size))
  have hne2 : bh ≠ w.heap.size := by have := HLT.out; omega
  clear hb3 H1b HZb HBb
  have H1d := Lib.hid (H1c.out.row (dig8 r))
  have HZd := Lib.hid (HZc.out.rowOther (dig8 r) (show w.heap.size ≠ bh from fun e => hne2 e.symm))
  go_wp2_with (first | (refine wpList_store_row rfl 87 _ _ rfl _ _ rfl rfl 87 _ (H1c.out) (by kernel_rfl) rfl (by kernel_rfl) ?_) | (refine wpList_load_row rfl 87 _ rfl _ rfl 87 _ _ _ (H1d.out) Try.underlying87 rfl (by kernel_rfl) ?_) | (refine wpList_store_row rfl 87 _ _ rfl _ _ rfl rfl 87 _ (HZd.out) (by kernel_rfl) rfl (by kernel_rfl) ?_) | fail)
  exact bodyPost_ret (results_cell_row rfl _ _ w.heap.size 87 _ (0, 0) _ rfl (HZd.out.row _) Try.underlying87 rfl (by kernel_rfl)) rfl ⟨rfl, H1d.out.rowOther _ hne2, by
    have h := HBc.out
    refine ⟨h.os, h.tape, h.output, by simpa [World.setRow] using h.size, fun k hk hkb => ?_⟩
    exact (setRow_other _ _ _ _ (show k ≠ w.heap.size by omega)).trans ((setRow_other _ _ _ _ hkb).trans (h.block k hk))⟩

set_option maxRecDepth 100000 in
set_option maxHeartbeats 1000000 in
theorem advance_2 (n : Nat) (f g h0 h1 h2 : Nat → Nat) (hg : IsRow n g) (hr : IsRow n h2) (bh bc m cap : Nat) (a : Option Addr) (hne : bh ≠ bc) (w : World) (H1 : RowAt w bh 87 (dig8 g)) (H2 : RowAt w bc 92 (callV (.slice a m cap) f h0 h1 h2)) :
    Calls Try.prog 161 #[.int .i64 2, .pointer (some ⟨bh, 0, none⟩), .pointer (some ⟨bc, 0, none⟩)] w fun e w' => e = .returned (.agg (dig8 (mulR n g h2))) ∧ RowAt w' bh 87 (dig8 (mulR n g h2)) ∧ Only bh w w' := by
  have HTM := Lib.hid (times_row n g h2 hg hr)
  have HLT := Lib.hid H1.lt
  have HLC := Lib.hid H2.lt
  generalize mulR n g h2 = r at *
  have H1a := Lib.hid (H1.push (.cells zero8 87))
  have H2a := Lib.hid (H2.push (.cells zero8 87))
  have HZ := Lib.hid (RowAt.new w 87 zero8)
  have HB := Lib.hid ((Below.refl _ w).alloc (Nat.le_refl _) (.cells zero8 87))
  clear H1 H2 hg hr
  go_enter Try.func161, Try.ntmps161
  go_wp2_with fail
  obtain ⟨w1, hw1⟩ : ∃ w1, w.alloc (.cells #[.int .u8 0, .int .u8 0, .int .u8 0, .int .u8 0, .int .u8 0, .int .u8 0, .int .u8 0, .int .u8 0] 87) = w1 := ⟨_, rfl⟩
  simp only [zero8] at H1a H2a HZ HB
  rw [hw1] at H1a H2a HZ HB ⊢
  have HSZ : Hid (w1.heap.size = w.heap.size + 1) := Lib.hid (by rw [← hw1]; simp)
  clear hw1
  obtain ⟨x0, x1, x2, x3, x4, x5, x6, x7⟩ : (w1.cell? ⟨bh, 0, none⟩ = some (.int .u8 (g 0)) ∧ w1.cell? ⟨bh, 1, none⟩ = some (.int .u8 (g 1)) ∧ w1.cell? ⟨bh, 2, none⟩ = some (.int .u8 (g 2)) ∧ w1.cell? ⟨bh, 3, none⟩ = some (.int .u8 (g 3)) ∧ w1.cell? ⟨bh, 4, none⟩ = some (.int .u8 (g 4)) ∧ w1.cell? ⟨bh, 5, none⟩ = some (.int .u8 (g 5)) ∧ w1.cell? ⟨bh, 6, none⟩ = some (.int .u8 (g 6)) ∧ w1.cell? ⟨bh, 7, none⟩ = some (.int .u8 (g 7))) := by
    have h1 := H1a.out
    exact ⟨h1.cell 0 rfl, h1.cell 1 rfl, h1.cell 2 rfl, h1.cell 3 rfl, h1.cell 4 rfl, h1.cell 5 rfl, h1.cell 6 rfl, h1.cell 7 rfl⟩
  obtain ⟨y0, y1, y2, y3, y4, y5, y6, y7⟩ : (w1.cell? ⟨bc, 25, none⟩ = some (.int .u8 (h2 0)) ∧ w1.cell? ⟨bc, 26, none⟩ = some (.int .u8 (h2 1)) ∧ w1.cell? ⟨bc, 27, none⟩ = some (.int .u8 (h2 2)) ∧ w1.cell? ⟨bc, 28, none⟩ = some (.int .u8 (h2 3)) ∧ w1.cell? ⟨bc, 29, none⟩ = some (.int .u8 (h2 4)) ∧ w1.cell? ⟨bc, 30, none⟩ = some (.int .u8 (h2 5)) ∧ w1.cell? ⟨bc, 31, none⟩ = some (.int .u8 (h2 6)) ∧ w1.cell? ⟨bc, 32, none⟩ = some (.int .u8 (h2 7))) := by
    have h2 := H2a.out
    exact ⟨h2.cell 25 rfl, h2.cell 26 rfl, h2.cell 27 rfl, h2.cell 28 rfl, h2.cell 29 rfl, h2.cell 30 rfl, h2.cell 31 rfl, h2.cell 32 rfl⟩
  go_still_tail 5, (by kernel_rfl)
  change wpList _ _ _ _ _ w1.drew
  have H1b : Hid (RowAt w1.drew bh 87 (dig8 g)) := Lib.hid H1a.out
  have HZb : Hid (RowAt w1.drew w.heap.size 87 #[.int .u8 0, .int .u8 0, .int .u8 0, .int .u8 0, .int .u8 0, .int .u8 0, .int .u8 0, .int .u8 0]) := Lib.hid HZ.out
  have HBb := Lib.hid HB.out.drew
  clear x0 x1 x2 x3 x4 x5 x6 x7 y0 y1 y2 y3 y4 y5 y6 y7 H1a H2a HZ HB HSZ
  generalize w1.drew = w2 at *
  go_wp2_with fail
  refine (HTM.out _).mono ?_
  rintro e w3 ⟨rfl, hb3⟩
  have H1c := Lib.hid (H1b.out.kept hb3)
  have HZc := Lib.hid (HZb.out.kept hb3)
  have HBc := Lib.hid (HBb.out.trans (hb3.mono HBb.out.size))
  have hne2 : bh ≠ w.heap.size := by have := HLT.out; omega
  clear hb3 H1b HZb HBb
  have H1d := Lib.hid (H1c.out.row (dig8 r))
  have HZd := Lib.hid (HZc.out.rowOther (dig8 r) (show w.heap.size ≠ bh from fun e => hne2 e.symm))
  go_wp2_with (first | (refine wpList_store_row rfl 87 _ _ rfl _ _ rfl rfl 87 _ (H1c.out) (by kernel_rfl) rfl (by kernel_rfl) ?_) | (refine wpList_load_row rfl 87 _ rfl _ rfl 87 _ _ _ (H1d.out) Try.underlying87 rfl (by kernel_rfl) ?_) | (refine wpList_store_row rfl 87 _ _ rfl _ _ rfl rfl 87 _ (HZd.out) (by kernel_rfl) rfl (by kernel_rfl) ?_) | fail)
  exact bodyPost_ret (results_cell_row rfl _ _ w.heap.size 87 _ (0, 0) _ rfl (HZd.out.row _) Try.underlying87 rfl (by kernel_rfl)) rfl ⟨rfl, H1d.out.rowOther _ hne2, by
    have h := HBc.out
    refine ⟨h.os, h.tape, h.output, by simpa [World.setRow] using h.size, fun k hk hkb => ?_⟩
    exact (setRow_other _ _ _ _ (show k ≠ w.heap.size by omega)).trans ((setRow_other _ _ _ _ hkb).trans (h.block k hk))⟩

theorem advance_call (n : Nat) (f g h0 h1 h2 : Nat → Nat) (hg : IsRow n g) (r0 : IsRow n h0) (r1 : IsRow n h1) (r2 : IsRow n h2) (x : Nat) (hx : x < 3) (bh bc m cap : Nat) (a : Option Addr) (hne : bh ≠ bc) (w : World) (H1 : RowAt w bh 87 (dig8 g)) (H2 : RowAt w bc 92 (callV (.slice a m cap) f h0 h1 h2)) :
    Calls Try.prog 161 #[.int .i64 x, .pointer (some ⟨bh, 0, none⟩), .pointer (some ⟨bc, 0, none⟩)] w fun e w' => e = .returned (.agg (dig8 (mulR n g (pk3 h0 h1 h2 x)))) ∧ RowAt w' bh 87 (dig8 (mulR n g (pk3 h0 h1 h2 x))) ∧ Only bh w w' := by
  have : x = 0 ∨ x = 1 ∨ x = 2 := by omega
  rcases this with rfl | rfl | rfl
  · exact advance_0 n f g h0 h1 h2 hg r0 bh bc m cap a hne w H1 H2
  · exact advance_1 n f g h0 h1 h2 hg r1 bh bc m cap a hne w H1 H2
  · exact advance_2 n f g h0 h1 h2 hg r2 bh bc m cap a hne w H1 H2

theorem dig_one {w : World} {b : Nat} {f : Nat → Nat} (h : RowAt w b 87 (dig8 f)) : Digs w (.slice (some ⟨b, 0, none⟩) 1 1) [f] :=
  ⟨_, 1, rfl, Nat.le_refl _, fun _ => ⟨b, 0, rfl, h.lt, fun i hi => by
    have : i = 0 := by simp at hi; omega
    subst this
    rw [Nat.zero_mul, Nat.add_zero]
    exact h.range8 0 f fun j hj => by rw [Nat.zero_add]; exact (Array.getElem?_toList).symm⟩⟩
theorem newd_one (B : Nat) (w : World) (f : Nat → Nat) (hB : B ≤ w.heap.size) : NewD B (w.alloc (.cells (dig8 f) 87)) (.slice (some ⟨w.heap.size, 0, none⟩) 1 1) [f] :=
  ⟨rfl, .inr ⟨w.heap.size, 1, dig8 f, rfl, hB, heap_alloc_new _ _, Nat.le_refl _, by unfold maxLen; omega, rfl, by rw [show [f].length = 1 from rfl]; simp [flat, cells8]; rfl⟩⟩

end Go.Proofs.Ytkhglknpcajmiaa
