/- Draws: a method and another. -/
import Derived.Test.YtnoepobbecobbaaGA
namespace Go.Proofs.Ytnoepobbecobbaa
open Go.RowKit
set_option linter.unusedSimpArgs false
set_option linter.unusedVariables false

theorem results_rows2 {P : Program} {fn : Func} {p u : Tmp} {ty : TypeId} (h : fn.results = #[.cell p ty, .cell u ty]) (tmps : Array Value) (w : World) (g g' : Nat) (t : TypeId) (cs ds : Array Value) (fr fr' : Nat × Nat) (d : TypeDesc)
    (hp : tmps.getD p undef = .pointer (some ⟨g, 0, none⟩)) (hg : w.heap[g]? = some (.cells cs t fr))
    (hp' : tmps.getD u undef = .pointer (some ⟨g', 0, none⟩)) (hg' : w.heap[g']? = some (.cells ds t fr'))
    (hu : P.underlying ty = some d) (hd : (match d with | .struct _ | .array _ _ => true | _ => false) = true) (hi : (P.info? ty).map (·.size) = some cs.size) (hi' : (P.info? ty).map (·.size) = some ds.size) :
    (results fn tmps).run P w = .ok (.tuple #[.agg cs, .agg ds]) w := by
  have hp1 : tmps[p]?.getD undef = .pointer (some ⟨g, 0, none⟩) := by simpa using hp
  have hp2 : tmps[u]?.getD undef = .pointer (some ⟨g', 0, none⟩) := by simpa using hp'
  simp only [results, h]
  simp [Sem.run_bind, Result.andThen, asAddr, hp1, hp2, run_loadVar_row w g t ty cs fr d hg hu hd hi, run_loadVar_row w g' t ty ds fr' d hg' hu hd hi']

def DrawnMM (w : World) (e : Ending) (w' : World) : Prop :=
  ∃ (s s' : ByteArray) (n : Int) (v v' : Value) (L L' : List (List Nat)), e = .returned (.tuple #[.agg #[.string s, .int .i64 n, v], .agg #[.string s', .int .i64 n, v']]) ∧ New w.heap.size w' 9 v (strs L) ∧ New w.heap.size w' 9 v' (strs L') ∧ L.length ≤ 42 ∧ L'.length ≤ 42 ∧ Below w.heap.size w w'

end Go.Proofs.Ytnoepobbecobbaa
