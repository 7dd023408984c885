/- A slice of rows that is cut at the front and appended to: wherever in its block it begins. -/
import Derived.Test.YtkhglknpcajmiaaMA
import Derived.ArgAppend
import Derived.Great.BuildSlice
namespace Go.Proofs.Ytkhglknpcajmiaa
open Go.RowKit
set_option linter.unusedSimpArgs false
set_option linter.unusedVariables false

/-- a slice of rows in a block from B on, with an address, not always from the block's beginning -/
def QueD (B : Nat) (W : World) (v : Value) (fs : List (Nat → Nat)) : Prop :=
  ∃ g off cap cur, v = .slice (some ⟨g, off, none⟩) fs.length cap ∧ B ≤ g ∧ W.heap[g]? = some (.cells cur 87 (0, 0)) ∧ fs.length ≤ cap ∧ cap ≤ maxLen ∧ off + cap * 8 ≤ cur.size ∧ ∀ j u, (flat fs)[j]? = some u → cur[off + j]? = some u
theorem QueD.lt {B : Nat} {W : World} {v : Value} {fs : List (Nat → Nat)} (h : QueD B W v fs) (g : Nat) (hg : v.ownBlock = some g) : B ≤ g ∧ g < W.heap.size := by
  obtain ⟨g', off, cap, cur, rfl, hB, hb, _⟩ := h
  have e : g' = g := by simpa [Value.ownBlock] using hg
  rw [← e]
  exact ⟨hB, (Array.getElem?_eq_some_iff.1 hb).1⟩
theorem QueD.block {B : Nat} {W W' : World} {v : Value} {fs : List (Nat → Nat)} (h : QueD B W v fs) (hb : ∀ g, v.ownBlock = some g → W'.heap[g]? = W.heap[g]?) : QueD B W' v fs := by
  obtain ⟨g, off, cap, cur, rfl, hB, h1, h2⟩ := h
  exact ⟨g, off, cap, cur, rfl, hB, (hb g rfl).trans h1, h2⟩
theorem QueD.kept {B : Nat} {W W' : World} {v : Value} {fs : List (Nat → Nat)} (h : QueD B W v fs) (hb : Below W.heap.size W W') : QueD B W' v fs := h.block fun g hg => hb.block g (h.lt g hg).2
theorem QueD.besides {B : Nat} {W W' : World} {v : Value} {fs : List (Nat → Nat)} {row : Option Nat} (h : QueD B W v fs) (hg : W.grownBy W' row) (hne : v.ownBlock ≠ row ∨ row = none) : QueD B W' v fs := h.block fun g hg' => by
  refine hg.block g (h.lt g hg').2 ?_
  rcases hne with hne | hne
  · rw [← hg']; exact hne
  · rw [hne]; simp
theorem QueD.lower {B B' : Nat} {W : World} {v : Value} {fs : List (Nat → Nat)} (h : QueD B W v fs) (hB : B' ≤ B) : QueD B' W v fs := by
  obtain ⟨g, off, cap, cur, e, h1, h2⟩ := h
  exact ⟨g, off, cap, cur, e, Nat.le_trans hB h1, h2⟩
/-- one row, written out -/
theorem QueD.one (w : World) (f : Nat → Nat) : QueD w.heap.size (w.alloc (.cells (dig8 f) 87)) (.slice (some ⟨w.heap.size, 0, none⟩) 1 1) [f] := by
  refine ⟨w.heap.size, 0, 1, dig8 f, rfl, Nat.le_refl _, heap_alloc_new w _, Nat.le_refl _, by unfold maxLen; omega, by simp [dig8], fun j u hu => ?_⟩
  rw [Nat.zero_add]
  have : flat [f] = cells8 f := by simp [flat]
  rw [this] at hu
  rw [← Array.getElem?_toList]
  exact hu
theorem QueD.digs {B : Nat} {W : World} {v : Value} {fs : List (Nat → Nat)} (h : QueD B W v fs) : Digs W v fs := by
  obtain ⟨g, off, cap, cur, rfl, hB, hb, hle, hm, hs, hc⟩ := h
  refine ⟨_, cap, rfl, hle, fun _ => ⟨g, off, rfl, (Array.getElem?_eq_some_iff.1 hb).1, fun i hi j u hu => ?_⟩⟩
  have := hc _ u (flat_at fs i hi j u hu)
  rw [show off + i * 8 + j = off + (i * 8 + j) by omega]
  exact (cell_of_row W g _ _ _ _ hb).trans this
theorem flat_drop (f : Nat → Nat) (fs : List (Nat → Nat)) (j : Nat) : (flat (f :: fs))[j + 8]? = (flat fs)[j]? := by
  show (cells8 f ++ flat fs)[j + 8]? = _
  rw [List.getElem?_append_right (by rw [cells8_len]; omega), cells8_len]
  congr 1
set_option maxRecDepth 100000 in
/-- its first row is cut off -/
theorem QueD.tail {B : Nat} {W : World} {v : Value} {f : Nat → Nat} {fs : List (Nat → Nat)} (h : QueD B W v (f :: fs)) :
    ∃ u, (∀ W', (Instr.sliceAt 84 v (some (.int .i64 1)) none none).run Try.prog W' = .ok u W') ∧ QueD B W u fs ∧ u.ownBlock = v.ownBlock := by
  obtain ⟨g, off, cap, cur, rfl, hB, hb, hle, hm, hs, hc⟩ := h
  rw [List.length_cons] at hle
  refine ⟨.slice (some (if cap = 1 then ⟨g, off, none⟩ else ⟨g, off + 8, none⟩)) fs.length (cap - 1), fun W' => ?_, ?_, ?_⟩
  · obtain ⟨k, hk⟩ : ∃ k : Nat, k = 1 := ⟨1, rfl⟩
    rw [show (Value.int .i64 1) = .int .i64 ((k : Nat) : Int) by rw [hk]; rfl, run_sliceAt_slice W' _ _ _ _ _ Try.underlying84, run_slice_l W' _ _ _ _ Try.underlying84 .i64 _ (by omega) (by rw [List.length_cons]; omega), show (sizeOf (Try.prog.elem 84)).run Try.prog W' = .ok 8 W' by kernel_rfl]
    subst hk
    by_cases h1 : cap = 1
    · simp [Result.andThen, sliced, h1]
    · simp [Result.andThen, sliced, h1, add_at]
  · by_cases h1 : cap = 1
    · rw [if_pos h1]
      have : fs = [] := List.eq_nil_of_length_eq_zero (by omega)
      subst this
      exact ⟨g, off, cap - 1, cur, rfl, hB, hb, by simp, by omega, by omega, fun j u hu => by simp [flat] at hu⟩
    · rw [if_neg h1]
      refine ⟨g, off + 8, cap - 1, cur, rfl, hB, hb, by omega, by omega, by omega, fun j u hu => ?_⟩
      rw [show off + 8 + j = off + (j + 8) by omega]
      exact hc _ u (by rw [flat_drop]; exact hu)
  · split <;> rfl

theorem run_append_roomO (w : World) (ty g off sLen sCap : Nat) (cur : Array Value) (hg : w.heap[g]? = some (.cells cur 87 (0, 0))) (a : Addr) (c : Nat) (f : Nat → Nat) (hnews : ∀ j u, (cells8 f)[j]? = some u → w.cell? (a.add j) = some u)
    (hroom : sLen + 1 ≤ sCap) (hfit : off + sLen * 8 + 8 ≤ cur.size) :
    (Builtin.append_ #[84, 84] ty #[.slice (some ⟨g, off, none⟩) sLen sCap, .slice (some a) 1 c]).run Try.prog w =
      .ok (.slice (some ⟨g, off, none⟩) (sLen + 1) sCap) (w.setRow g (cur.toList.take (off + sLen * 8) ++ cells8 f ++ cur.toList.drop (off + sLen * 8 + 8)).toArray) := by
  obtain ⟨i, hi, hz, hsz, hby⟩ := info_parts8
  have hf := run_firstCells_some (P := Try.prog) w i.size 1 a 1 c (cells8 f) (by rw [hsz]; rfl) hnews
  rw [hsz] at hf
  have hst := run_storeCells_at Try.prog g (off + sLen * 8) 87 (cells8 f) 0 cur w hg (by rw [cells8_len]; omega) (cells8_one f)
  simp only [Nat.add_zero, cells8_len] at hst
  simp [Builtin.append_, run_underlying Try.underlying84, sizeOf, typeInfo, hi, Builtin.lenOf, hroom, hf, hsz, Addr.add_lit, hst]
/-- a row is appended -/
theorem QueD.app {B : Nat} {w : World} {v : Value} {fs : List (Nat → Nat)} (h : QueD B w v fs) (hB : B ≤ w.heap.size) (f : Nat → Nat) (a : Addr) (c : Nat) (hnews : ∀ j u, (cells8 f)[j]? = some u → w.cell? (a.add j) = some u) (hl : fs.length ≤ 100000) (ty : TypeId) :
    ∃ v' w', (Builtin.append_ #[84, 84] ty #[v, .slice (some a) 1 c]).run Try.prog w = .ok v' w' ∧ QueD B w' v' (fs ++ [f]) ∧ w.grownBy w' v.ownBlock ∧ (∀ g, v'.ownBlock = some g → v.ownBlock = some g ∨ w.heap.size ≤ g) := by
  obtain ⟨g, off, cap, cur, rfl, hBg, hb, hle, hm, hs, hc⟩ := h
  have hg : g < w.heap.size := (Array.getElem?_eq_some_iff.1 hb).1
  have hfl : flat (fs ++ [f]) = flat fs ++ cells8 f := by rw [flat_app]; simp [flat]
  by_cases hroom : fs.length + 1 ≤ cap
  · have hr := run_append_roomO w ty g off fs.length cap cur hb a c f hnews hroom (by omega)
    refine ⟨_, _, hr, ?_, ?_, fun g' hg' => .inl hg'⟩
    · refine ⟨g, off, cap, _, by rw [List.length_append]; rfl, hBg, setRow_heap w g _ _ _ _ hb, by rw [List.length_append]; exact hroom, hm, ?_, fun j u hu => ?_⟩
      · simp only [List.size_toArray, List.length_append, List.length_take, List.length_drop, cells8_len, Array.length_toList]
        omega
      · rw [hfl] at hu
        have hfs := flat_len fs
        have htk : (cur.toList.take (off + fs.length * 8)).length = off + fs.length * 8 := by simp; omega
        rw [← Array.getElem?_toList]
        show (cur.toList.take (off + fs.length * 8) ++ cells8 f ++ cur.toList.drop (off + fs.length * 8 + 8))[off + j]? = _
        by_cases hj : j < fs.length * 8
        · rw [List.getElem?_append_left (by omega)] at hu
          rw [List.append_assoc, List.getElem?_append_left (by omega), List.getElem?_take_of_lt (by omega), Array.getElem?_toList]
          exact hc j u hu
        · rw [List.getElem?_append_right (by omega), hfs] at hu
          have hj8 : j - fs.length * 8 < 8 := (List.getElem?_eq_some_iff.1 hu).1
          rw [List.append_assoc, List.getElem?_append_right (by omega), htk, List.getElem?_append_left (by rw [cells8_len]; omega)]
          rw [show off + j - (off + fs.length * 8) = j - fs.length * 8 by omega]
          exact hu
    · refine ⟨rfl, rfl, rfl, by simp [World.setRow], fun k hk hne => ?_⟩
      exact setRow_other w g k _ (by rintro rfl; exact hne rfl)
  · obtain ⟨i, hi, hz, hsz, hby⟩ := info_parts8
    obtain ⟨v', w', hr, ho, hgr⟩ := run_append_arg_grows (P := Try.prog) w 84 ty 87 i (.agg zero8) 8 8 Try.underlying84 hi hz hsz hby rfl (by omega) ⟨g, off, none⟩ fs.length cap (flat fs) (flat_len fs) (fun j u hu => by
      rw [add_at]
      exact (cell_of_row w g _ _ _ _ hb).trans (hc j u hu)) a 1 c (cells8 f) rfl hnews (by omega) (by unfold maxLen; omega) (by omega)
    refine ⟨v', w', hr, ?_, ⟨hgr.os, hgr.tape, hgr.output, hgr.size, fun k hk _ => hgr.block k hk (by simp)⟩, fun g' hg' => ?_⟩
    · rw [← hfl] at ho
      obtain ⟨_, ⟨_, q0⟩ | ⟨g', cap', cur', rfl, q1, q2, q3, q4, q5, q6⟩⟩ := ho
      · omega
      · refine ⟨g', 0, cap', cur', by rw [List.length_append]; rfl, Nat.le_trans hB q1, q2, by rw [List.length_append]; exact q3, q4, by omega, fun j u hu => ?_⟩
        rw [Nat.zero_add]
        have hj : j < (fs.length + 1) * 8 := by
          have := (List.getElem?_eq_some_iff.1 hu).1
          rw [flat_len, List.length_append] at this
          exact this
        rw [← q6, List.getElem?_take_of_lt hj, Array.getElem?_toList] at hu
        exact hu
    · obtain ⟨_, ⟨rfl, q0⟩ | ⟨g2, cap', cur', rfl, q1, _⟩⟩ := ho
      · omega
      · have e : g2 = g' := by simpa [Value.ownBlock] using hg'
        rw [← e]; exact .inr q1
theorem wpList_appQ {w w0 : World} {ops : Array Oper} {rest : List Oper} {o : Oper} {a : Act} {Q : Exit → Act → World → Prop} (hgd : o.guard = none) (s x : Operand)
    (ho : o.op = .call { callee := .builtin .append, args := #[s, x], argTypes := #[84, 84] }) (B B0 : Nat) (hB0 : B0 ≤ B) (v : Value) (fs : List (Nat → Nat)) (f : Nat → Nat) (hs : a.eval s = v) (hq : QueD B w v fs)
    (hx : a.eval x = .slice (some ⟨w.heap.size, 0, none⟩) 1 1) (hB : B ≤ w.heap.size) (hbel : Below B0 w0 w) (hlen : fs.length ≤ 100000)
    (h : ∀ v' w', QueD B w' v' (fs ++ [f]) → KeptBut w w' v → Below B0 w0 w' → w.heap.size ≤ w'.heap.size → (∀ g, v'.ownBlock = some g → v.ownBlock = some g ∨ w.heap.size ≤ g) → wpList Try.prog ops Q rest (a.put o.dst v') w') : wpList Try.prog ops Q (o :: rest) a (w.alloc (.cells (dig8 f) 87)) := by
  have hq2 := hq.kept ((Below.refl _ _).alloc (Nat.le_refl _) (.cells (dig8 f) 87))
  have hr := RowAt.new w 87 (dig8 f)
  refine wpList_plain hgd fun _ hK => ?_
  obtain ⟨v', w', hrun, hO, hG, hf⟩ := hq2.app (by simp; omega) f ⟨w.heap.size, 0, none⟩ 1 (fun j u hu => by
    rw [add_at, Nat.zero_add]
    refine hr.cell j ?_
    rw [← Array.getElem?_toList]
    exact hu) hlen o.type
  unfold Oper.wp execOp
  simp only [ho, resolve, invoke, builtin, Sem.run_bind, Sem.run_pure, Result.andThen_ok, List.map_toArray, List.map_cons, List.map_nil, hs, hx, hrun]
  have hsz : (w.alloc (.cells (dig8 f) 87)).heap.size = w.heap.size + 1 := by simp
  refine hK _ _ (h v' w' hO (fun k hk hne => ?_) ?_ (by have := hG.size; omega) (fun g hg => (hf g hg).imp id (fun h => by omega)))
  · exact (hG.block k (by omega) (fun e => hne e.symm)).trans (heap_alloc_old w _ hk)
  · exact (hbel.alloc (Nat.le_trans hB0 hB) _).grown hG (by omega) (fun k hk => Nat.le_trans hB0 (hq.lt k hk).1)

set_option maxRecDepth 100000 in
/-- a slice of one row, written out -/
theorem wpList_build8 {w : World} {ops : Array Oper} {rest : List Oper} {o : Oper} {a : Act} {Q : Exit → Act → World → Prop} (hg : o.guard = none) (x : Operand) (ho : o.op = .buildSlice 84 1 #[(0, x)]) (f : Nat → Nat) (hx : a.eval x = .agg (dig8 f))
    (h : wpList Try.prog ops Q rest (a.put o.dst (.slice (some ⟨w.heap.size, 0, none⟩) 1 1)) (w.alloc (.cells (dig8 f) 87))) : wpList Try.prog ops Q (o :: rest) a w := by
  obtain ⟨i, hi, hz, hsz, hby⟩ := info_parts8
  refine wpList_buildSlice hg _ 87 1 _ ho (dig8 f) i (.agg zero8) Try.underlying84 hi hz (by rw [hsz]; omega) (by rw [hsz]; omega) ?_ h
  rw [hsz]
  simp only [List.map_toArray, List.map_cons, List.map_nil, hx]
  have hz8 : ((Array.range (1 * 8)).map fun x => (Value.agg zero8).cells[x % (Value.agg zero8).cells.size]!) = zero8 := by
    simp [Array.range, Value.cells, zero8]
    rfl
  rw [hz8]
  simp [Instr.fill, Value.cells, dig8, zero8]
/-- a row is laid into a new block -/
theorem store_new8 (w : World) (y : Nat → Nat) : (storeCells ⟨w.heap.size, 0, none⟩ (dig8 y).toList).run Try.prog (w.alloc (.cells #[.int .u8 0, .int .u8 0, .int .u8 0, .int .u8 0, .int .u8 0, .int .u8 0, .int .u8 0, .int .u8 0] 87)) = .ok () (w.alloc (.cells (dig8 y) 87)) := by
  have hst := run_storeCells_at Try.prog w.heap.size 0 87 (cells8 y) 0 zero8 (w.alloc (.cells zero8 87)) (heap_alloc_new w _) (by rw [cells8_len]; simp [zero8]) (cells8_one y)
  rw [World.setRow_alloc_new] at hst
  have e : ((zero8.toList.take 0 ++ cells8 y ++ zero8.toList.drop (0 + (cells8 y).length)).toArray) = dig8 y := by
    rw [cells8_len, ← cells8_arr]
    simp [zero8]
  simp only [Nat.add_zero] at hst
  rw [e] at hst
  exact hst
/-- a row is laid into a block of rows' kind -/
theorem store_row8 (w : World) (b : Nat) (cs : Array Value) (hr : RowAt w b 87 cs) (hs : cs.size = 8) (y : Nat → Nat) : (storeCells ⟨b, 0, none⟩ (dig8 y).toList).run Try.prog w = .ok () (w.setRow b (dig8 y)) := by
  have hst := run_storeCells_at Try.prog b 0 87 (cells8 y) 0 cs w hr (by rw [cells8_len]; omega) (cells8_one y)
  have e : ((cs.toList.take 0 ++ cells8 y ++ cs.toList.drop (0 + (cells8 y).length)).toArray) = dig8 y := by
    rw [cells8_len, ← cells8_arr, List.take_zero, List.nil_append, List.drop_of_length_le (by simp; omega), List.append_nil]
  simp only [Nat.add_zero] at hst
  rw [e] at hst
  exact hst
end Go.Proofs.Ytkhglknpcajmiaa
