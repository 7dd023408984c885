/- Digits out of a text, and products, in the program. -/
import Derived.Test.YtnildepdpkbekaaA8
import Derived.Lib.BufferWrite
namespace Go.Proofs.Ytnildepdpkbekaa
open Go.RowKit

theorem below_setRow {B g : Nat} {w0 w : World} (hb : Below B w0 w) (hBg : B ≤ g) (cs : Array Value) : Below B w0 (w.setRow g cs) :=
  hb.trans ⟨rfl, rfl, rfl, by simp [World.setRow], fun k hk => setRow_other w g k cs (by omega)⟩

theorem results_row_tmp {P : Program} {fn : Func} {p u : Tmp} {ty : TypeId} (h : fn.results = #[.cell p ty, .tmp u]) (tmps : Array Value) (w : World) (g : Nat) (t : TypeId) (cs : Array Value) (fr : Nat × Nat) (d : TypeDesc)
    (hp : tmps.getD p undef = .pointer (some ⟨g, 0, none⟩)) (hg : w.heap[g]? = some (.cells cs t fr))
    (hu : P.underlying ty = some d) (hd : (match d with | .struct _ | .array _ _ => true | _ => false) = true) (hi : (P.info? ty).map (·.size) = some cs.size) :
    (results fn tmps).run P w = .ok (.tuple #[.agg cs, tmps.getD u undef]) w := by
  rw [results_cell_tmp h, hp]
  simp [asAddr, run_loadVar_row w g t ty cs fr d hg hu hd hi, Result.andThen]

theorem byteCells_dg (s : ByteArray) : Lib.byteCells s.data.toList = (List.range s.size).map fun i => Value.int .u8 (dg s i) := by
  apply List.ext_getElem
  · simp [Lib.byteCells]
  · intro i h1 h2
    have hi : i < s.size := by simpa using h2
    have e : s.data.toList[i]'(by simpa [Lib.byteCells] using h1) = s[i] := rfl
    simp [Lib.byteCells, dg, hi, e]
theorem dig8_bytes (s : ByteArray) (h8 : s.size ≤ 8) :
    ((zero8.toList.take 0 ++ Lib.byteCells s.data.toList ++ zero8.toList.drop (0 + s.size)).toArray) = dig8 (dg s) := by
  rw [byteCells_dg]
  have hz : ∀ i, s.size ≤ i → dg s i = 0 := fun i hi => by simp [dg]; omega
  generalize dg s = f at hz
  generalize s.size = n at *
  have hn : n = 0 ∨ n = 1 ∨ n = 2 ∨ n = 3 ∨ n = 4 ∨ n = 5 ∨ n = 6 ∨ n = 7 ∨ n = 8 := by omega
  have z0 := hz 0
  have z1 := hz 1
  have z2 := hz 2
  have z3 := hz 3
  have z4 := hz 4
  have z5 := hz 5
  have z6 := hz 6
  have z7 := hz 7
  rcases hn with rfl | rfl | rfl | rfl | rfl | rfl | rfl | rfl | rfl <;> simp at z0 z1 z2 z3 z4 z5 z6 z7 <;> simp [zero8, dig8, List.range_succ, *]

set_option maxRecDepth 100000 in
set_option maxHeartbeats 1000000 in
theorem digitsOf_yes (s : ByteArray) (hs : s.size ≤ maxLen) (h : IsRow s.size (dg s)) (w : World) :
    Calls Try.prog 41 #[.string s] w fun e w' => e = .returned (.tuple #[.agg (dig8 (dg s)), .bool true]) ∧ Below w.heap.size w w' := by
  have H := Lib.hid (goodB_yes h)
  have h8 := h.eight
  clear h
  go_enter Try.func41, Try.ntmps41
  go_wp2_with fail
  refine (iGoodRow_any s hs _).mono ?_
  rintro e w1 ⟨rfl, hb1⟩
  rw [H.out]
  have hB0 : w1.heap[w.heap.size]? = some (.cells zero8 56) := by
    rw [hb1.block _ (by simp <;> omega), heap_alloc2_old]; rfl
  have hB1 : w1.heap[w.heap.size + 1]? = some (.cells zero8 56) := by
    rw [hb1.block _ (by simp), heap_alloc2_new]; rfl
  have hbel : Below w.heap.size w w1 := (((Below.refl _ _).alloc (Nat.le_refl _) _).alloc (by simp) _).trans (hb1.mono (by simp; omega))
  have hcopy := Lib.run_copy_row_string (P := Try.prog) w1 28 9 3 5 (w.heap.size + 1) 0 8 8 s zero8 56 Try.underlying28 (by kernel_rfl) hB1 h8 (by simpa [zero8] using h8)
  rw [dig8_bytes s h8] at hcopy
  have hB0' : (w1.setRow (w.heap.size + 1) (dig8 (dg s))).heap[w.heap.size]? = some (.cells zero8 56) := by rw [setRow_other _ _ _ _ (by omega)]; exact hB0
  have hB1' := setRow_heap w1 (w.heap.size + 1) zero8 (dig8 (dg s)) 56 (0, 0) hB1
  have hbel' := below_setRow hbel (show w.heap.size ≤ w.heap.size + 1 by omega) (dig8 (dg s))
  generalize w1.setRow (w.heap.size + 1) (dig8 (dg s)) = w2 at hcopy hB0' hB1' hbel'
  clear hB0 hB1 hb1 hbel
  have HB0 := Lib.hid hB0'
  have HB1 := Lib.hid hB1'
  clear hB0' hB1'
  go_wp2_with (first | (refine wpList_load_row rfl 56 _ rfl _ rfl 56 _ _ _ HB1.out Try.underlying56 rfl (by kernel_rfl) ?_) | (refine wpList_store_row rfl 56 _ _ rfl _ _ rfl rfl 56 _ HB0.out (by kernel_rfl) rfl (by kernel_rfl) ?_))
  refine bodyPost_ret (results_row_tmp rfl _ _ w.heap.size 56 (dig8 (dg s)) (0, 0) _ rfl (setRow_heap w2 _ _ _ _ _ HB0.out) Try.underlying56 rfl (by kernel_rfl)) rfl ⟨rfl, below_setRow hbel' (Nat.le_refl _) _⟩

set_option maxRecDepth 100000 in
set_option maxHeartbeats 1000000 in
theorem digitsOf_no (s : ByteArray) (hs : s.size ≤ maxLen) (h : goodB s = false) (w : World) :
    Calls Try.prog 41 #[.string s] w fun e w' => e = .returned (.tuple #[.agg zero8, .bool false]) ∧ Below w.heap.size w w' := by
  have H := Lib.hid h
  clear h
  go_enter Try.func41, Try.ntmps41
  go_wp2_with fail
  refine (iGoodRow_any s hs _).mono ?_
  rintro e w1 ⟨rfl, hb1⟩
  rw [H.out]
  have hB0 : w1.heap[w.heap.size]? = some (.cells zero8 56) := by
    rw [hb1.block _ (by simp <;> omega), heap_alloc2_old]; rfl
  have hB1 : w1.heap[w.heap.size + 1]? = some (.cells zero8 56) := by
    rw [hb1.block _ (by simp), heap_alloc2_new]; rfl
  have hbel : Below w.heap.size w w1 := (((Below.refl _ _).alloc (Nat.le_refl _) _).alloc (by simp) _).trans (hb1.mono (by simp; omega))
  clear hb1
  have HB0 := Lib.hid hB0
  have HB1 := Lib.hid hB1
  clear hB0 hB1
  go_wp2_with (first | (refine wpList_load_row rfl 56 _ rfl _ rfl 56 _ _ _ HB1.out Try.underlying56 rfl (by kernel_rfl) ?_) | (refine wpList_store_row rfl 56 _ _ rfl _ _ rfl rfl 56 _ HB0.out (by kernel_rfl) rfl (by kernel_rfl) ?_))
  refine bodyPost_ret (results_row_tmp rfl _ _ w.heap.size 56 zero8 (0, 0) _ rfl (setRow_heap w1 _ _ _ _ _ HB0.out) Try.underlying56 rfl (by kernel_rfl)) rfl ⟨rfl, below_setRow hbel (Nat.le_refl _) _⟩

/-- the digits that are read out of a text -/
noncomputable def dgF (s : ByteArray) : Nat → Nat := if goodB s = true then dg s else fun _ => 0
theorem dgF_yes {s : ByteArray} (h : goodB s = true) : dgF s = dg s := by simp [dgF, h]
theorem dgF_no {s : ByteArray} (h : goodB s = false) : dgF s = fun _ => 0 := by simp [dgF, h]
theorem goodB_row {s : ByteArray} (h : goodB s = true) : IsRow s.size (dg s) := by simpa [goodB] using h

theorem digitsOf_any (s : ByteArray) (hs : s.size ≤ maxLen) (w : World) :
    Calls Try.prog 41 #[.string s] w fun e w' => e = .returned (.tuple #[.agg (dig8 (dgF s)), .bool (goodB s)]) ∧ Below w.heap.size w w' := by
  cases h : goodB s
  · rw [dgF_no h]; exact digitsOf_no s hs h w
  · rw [dgF_yes h]; exact digitsOf_yes s hs (goodB_row h) w
end Go.Proofs.Ytnildepdpkbekaa
