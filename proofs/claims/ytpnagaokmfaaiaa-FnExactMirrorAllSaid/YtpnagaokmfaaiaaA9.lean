/- Digits out of a text, and products, in the program. -/
import Derived.Test.YtpnagaokmfaaiaaA8
import Derived.Lib.BufferWrite
namespace Go.Proofs.Ytpnagaokmfaaiaa
open Go.RowKit

theorem below_setRow {B g : Nat} {w0 w : World} (hb : Below B w0 w) (hBg : B ≤ g) (cs : Array Value) : Below B w0 (w.setRow g cs) :=
  hb.trans ⟨rfl, rfl, rfl, by simp [World.setRow], fun k hk => setRow_other w g k cs (by omega)⟩

theorem results_row_tmp {P : Program} {fn : Func} {p u : Tmp} {ty : TypeId} (h : fn.results = #[.cell p ty, .tmp u]) (tmps : Array Value) (w : World) (g : Nat) (t : TypeId) (cs : Array Value) (fr : Nat × Nat) (d : TypeDesc)
    (hp : tmps.getD p undef = .pointer (some ⟨g, 0, none⟩)) (hg : w.heap[g]? = some (.cells cs t fr))
    (hu : P.underlying ty = some d) (hd : (match d with | .struct _ | .array _ _ => true | _ => false) = true) (hi : (P.info? ty).map (·.size) = some cs.size) :
    (results fn tmps).run P w = .ok (.tuple #[.agg cs, tmps.getD u undef]) w := by
  rw [results_cell_tmp h, hp]
  simp [asAddr, run_loadVar_row w g t ty cs fr d hg hu hd hi, Result.andThen]

theorem byteCells_dg (s : ByteArray) : Lib.byteCells s.data.toList = (List.range s.size).map fun i => Value.int .u8 (dg s i) := by
  apply List.ext_getElem
  · simp [Lib.byteCells]
  · intro i h1 h2
    have hi : i < s.size := by simpa using h2
    have e : s.data.toList[i]'(by simpa [Lib.byteCells] using h1) = s[i] := rfl
    simp [Lib.byteCells, dg, hi, e]
theorem dig8_bytes (s : ByteArray) (h8 : s.size ≤ 8) :
    ((zero8.toList.take 0 ++ Lib.byteCells s.data.toList ++ zero8.toList.drop (0 + s.size)).toArray) = dig8 (dg s) := by
  rw [byteCells_dg]
  have hz : ∀ i, s.size ≤ i → dg s i = 0 := fun i hi => by simp [dg]; omega
  generalize dg s = f at hz
  generalize s.size = n at *
  have hn : n = 0 ∨ n = 1 ∨ n = 2 ∨ n = 3 ∨ n = 4 ∨ n = 5 ∨ n = 6 ∨ n = 7 ∨ n = 8 := by omega
  have z0 := hz 0
  have z1 := hz 1
  have z2 := hz 2
  have z3 := hz 3
  have z4 := hz 4
  have z5 := hz 5
  have z6 := hz 6
  have z7 := hz 7
  rcases hn with rfl | rfl | rfl | rfl | rfl | rfl | rfl | rfl | rfl <;> simp at z0 z1 z2 z3 z4 z5 z6 z7 <;> simp [zero8, dig8, List.range_succ, *]

/-- the digits that are read out of a text -/
noncomputable def dgF (s : ByteArray) : Nat → Nat := if goodB s = true then dg s else fun _ => 0
theorem dgF_yes {s : ByteArray} (h : goodB s = true) : dgF s = dg s := by simp [dgF, h]
theorem dgF_no {s : ByteArray} (h : goodB s = false) : dgF s = fun _ => 0 := by simp [dgF, h]
theorem goodB_row {s : ByteArray} (h : goodB s = true) : IsRow s.size (dg s) := by simpa [goodB] using h

end Go.Proofs.Ytpnagaokmfaaiaa
