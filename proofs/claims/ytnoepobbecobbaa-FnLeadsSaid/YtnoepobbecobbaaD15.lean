/- slices.Grow and slices.Concat. -/
import Derived.Test.YtnoepobbecobbaaD12
import Derived.Test.YtnoepobbecobbaaH1
namespace Go.Proofs.Ytnoepobbecobbaa
open Go.RowKit
set_option linter.unusedSimpArgs false
set_option linter.unusedVariables false

section
variable {P : Program} (w : World)
/-- zeros appended to nil -/
theorem run_append_made (t u ty e : TypeId) (i : TypeInfo) (z : Value) (ht : P.underlying t = some (.slice e)) (hu : P.underlying u = some (.int .i64)) (hi : P.info? e = some i) (hz : i.zero = some z)
    (n : Nat) (h0 : 0 < n) (h63 : n ≤ 100000) (hsz : i.size = 1) (hb : i.bytes = 16) :
    (Builtin.append_ #[t, u] ty #[.slice none 0 0, .int .i64 n]).run P w =
      .ok (.slice (some ⟨w.heap.size, 0, none⟩) n (grownCap w n 0 e)) (w.drew.alloc (.cells (Builtin.zeroCells z.cells n ++ Builtin.zeroCells z.cells (grownCap w n 0 e - n)) e)) := by
  have hn : n ≠ 0 := by omega
  have hw : IntKind.i64.wrap (n : Int) = n := IntWalk.i64_in _ ⟨by omega, by omega⟩
  have h1 : ¬ ((n : Int) < 0) := by omega
  have h2 : ¬ (281474976710656 < (n : Int) * 16) := by omega
  have h63' : ¬ (9223372036854775807 < (n : Int)) := by omega
  have h48' : ¬ (281474976710656 < Builtin.nextslicecap n 0 * 16) := by rw [nextslicecap_zero h0]; omega
  simp [Builtin.append_, run_underlying ht, run_underlying hu, sizeOf, typeInfo, zeroValue, hi, hz, hb, hsz, asInt, asIntOf, hw, h1, h2, Builtin.lenOf, hn, h63', h48', Question.forced, run_firstCells_none, newRow, grownCap]
end

theorem wpList_appMade {P : Program} {w : World} {ops : Array Oper} {rest : List Oper} {o : Oper} {a : Act} {Q : Exit → Act → World → Prop} (hgd : o.guard = none) (s x : Operand) (t u : TypeId)
    (ho : o.op = .call { callee := .builtin .append, args := #[s, x], argTypes := #[t, u] })
    (e : TypeId) (i : TypeInfo) (z : Value) (ht : P.underlying t = some (.slice e)) (hu : P.underlying u = some (.int .i64)) (hi : P.info? e = some i) (hz : i.zero = some z) (hsize : i.size = 1) (hby : i.bytes = 16) (hzs : z.cells.size = 1)
    (hs : a.eval s = .slice none 0 0) (n : Nat) (hx : a.eval x = .int .i64 n) (h0 : 0 < n) (h63 : n ≤ 100000)
    (h : ∀ c w', n ≤ c → New w.heap.size w' e (.slice (some ⟨w.heap.size, 0, none⟩) 0 c) [] → Below w.heap.size w w' → wpList P ops Q rest (a.put o.dst (.slice (some ⟨w.heap.size, 0, none⟩) n c)) w') : wpList P ops Q (o :: rest) a w :=
  wpList_plain hgd fun _ hK => by
    have hr := run_append_made (P := P) w t u o.type e i z ht hu hi hz n h0 h63 hsize hby
    have hge := grownCap_ge w n 0 e
    have hle := grownCap_le_maxLen w n 0 e (by unfold maxLen; omega)
    unfold Oper.wp execOp
    simp only [ho, resolve, invoke, builtin, Sem.run_bind, Sem.run_pure, Result.andThen_ok, List.map_toArray, List.map_cons, List.map_nil, hs, hx, hr]
    refine hK _ _ (h _ _ hge ⟨⟨rfl, .inr ⟨w.heap.size, grownCap w n 0 e, Builtin.zeroCells z.cells n ++ Builtin.zeroCells z.cells (grownCap w n 0 e - n), rfl, Nat.zero_le _, ?_, Nat.zero_le _, hle, ?_, by simp⟩⟩, fun g hg => by simp [Value.ownBlock] at hg; omega⟩ ((below_drewN (Below.refl w.heap.size w) 1).alloc (Nat.le_refl _) _))
    · exact heap_alloc_new w.drew _
    · have hz1 : ∀ k, (Builtin.zeroCells z.cells k).size = k := fun k => by simp [Builtin.zeroCells, hzs]
      rw [Array.size_append, hz1, hz1]
      omega

set_option maxRecDepth 100000 in
theorem slice_h1 (g off m cap k : Nat) (hk : k ≤ m) (hm : m ≤ cap) (h1 : 1 ≤ cap) (W' : World) :
    (Instr.sliceAt 22 (.slice (some ⟨g, off, none⟩) m cap) none (some (.int .i64 k)) none).run Try.prog W' = .ok (.slice (some ⟨g, off, none⟩) k cap) W' := by
  rw [run_sliceAt_slice W' _ _ _ _ _ Try.underlying22, run_slice_h W' _ _ _ _ Try.underlying22 .i64 _ (by omega) (by omega), show (sizeOf (Try.prog.elem 22)).run Try.prog W' = .ok 1 W' by kernel_rfl]
  simp only [Result.andThen, sliced]
  have h0 : cap ≠ 0 := by omega
  simp [h0, Addr.add]
set_option maxRecDepth 100000 in
theorem slice_l1 (g off m cap k : Nat) (hk : k < m) (hm : m ≤ cap) (W' : World) :
    (Instr.sliceAt 22 (.slice (some ⟨g, off, none⟩) m cap) (some (.int .i64 k)) none none).run Try.prog W' = .ok (.slice (some ⟨g, off + k, none⟩) (m - k) (cap - k)) W' := by
  rw [run_sliceAt_slice W' _ _ _ _ _ Try.underlying22, run_slice_l W' _ _ _ _ Try.underlying22 .i64 _ (by omega) (by omega), show (sizeOf (Try.prog.elem 22)).run Try.prog W' = .ok 1 W' by kernel_rfl]
  have h0 : cap ≠ k := by omega
  simp [Result.andThen, sliced, h0, add_at]

end Go.Proofs.Ytnoepobbecobbaa
