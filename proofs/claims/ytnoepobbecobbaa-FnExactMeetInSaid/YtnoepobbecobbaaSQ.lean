/- The group that rows generate, in the program; a set's rows in order. -/
import Derived.Test.YtnoepobbecobbaaSP
import Derived.Test.YtnoepobbecobbaaSM
import Derived.Test.YtnoepobbecobbaaSL
namespace Go.Proofs.Ytnoepobbecobbaa
open Go.RowKit
set_option linter.unusedSimpArgs false
set_option linter.unusedVariables false

theorem wpList_entry_rows {ops : Array Oper} {rest : List Oper} {o : Oper} {a : Act} {w : World} {Q : Exit → Act → World → Prop} (hg : o.guard = none) (it : Operand) (hop : o.op = Op.entry it) (r : Nat) (f : Nat → Nat) (hit : a.eval it = .pointer (some ⟨r, 0, none⟩))
    (hen : (Instr.entry (.pointer (some ⟨r, 0, none⟩))).run Try.prog w = .ok (.tuple #[.agg (dig8 f), .bool true]) w)
    (hK : wpList Try.prog ops Q rest (a.put o.dst (.tuple #[.agg (dig8 f), .bool true])) w) : wpList Try.prog ops Q (o :: rest) a w := by
  refine wpList_plain hg fun K' hK' => ?_
  unfold Oper.wp
  simp [execOp, hop, hit, hen, Result.andThen]
  exact hK' _ _ hK

theorem Coming.block {W W' : World} {n b r : Nat} {S C : List (Nat → Nat)} {cnt : Nat} (h : Coming W n b r S C cnt) (hb : W'.heap[b]? = W.heap[b]?) (hr : W'.heap[r]? = W.heap[r]?) : Coming W' n b r S C cnt := by
  obtain ⟨q1, q2, q3, es, left, q4, q5⟩ := h
  refine ⟨q1.block hb, q2, q3, es, left, ?_, q5⟩
  unfold World.ranges at q4 ⊢
  rw [hb, hr]
  exact q4
theorem Coming.keptBut {W W' : World} {n b r : Nat} {S C : List (Nat → Nat)} {cnt : Nat} {v : Value} (h : Coming W n b r S C cnt) (hk : KeptBut W W' v) (h1 : v.ownBlock ≠ some b) (h2 : v.ownBlock ≠ some r) : Coming W' n b r S C cnt :=
  h.block (hk b h.1.lt h1) (hk r h.lt.1 h2)
theorem Coming.kept {W W' : World} {n b r : Nat} {S C : List (Nat → Nat)} {cnt : Nat} (h : Coming W n b r S C cnt) (hb : Below W.heap.size W W') : Coming W' n b r S C cnt :=
  h.block (hb.block b h.1.lt) (hb.block r h.lt.1)
theorem NewD.apartIter {W : World} {n b r B : Nat} {S C fs : List (Nat → Nat)} {cnt : Nat} {v : Value} (h : NewD B W v fs) (hc : Coming W n b r S C cnt) : v.ownBlock ≠ some b ∧ v.ownBlock ≠ some r := by
  obtain ⟨h1, h2⟩ := h
  rcases h2 with ⟨rfl, h0⟩ | ⟨g, cap, cur, rfl, hBg, hb, _⟩
  · exact ⟨by simp [Value.ownBlock], by simp [Value.ownBlock]⟩
  · obtain ⟨q1, q2, q3, es, left, q4, q5⟩ := hc
    obtain ⟨es', clock, since, seen, c0, e1, _, _, _, e2, _⟩ := q4
    constructor
    · intro e
      have e : g = b := by simpa [Value.ownBlock] using e
      subst e
      rw [hb] at e1
      cases e1
    · intro e
      have e : g = r := by simpa [Value.ownBlock] using e
      subst e
      rw [hb] at e2
      cases e2
theorem NewD.blockK {B : Nat} {W W' : World} {v : Value} {fs : List (Nat → Nat)} (h : NewD B W v fs) (hk : ∀ g, v.ownBlock = some g → W'.heap[g]? = W.heap[g]?) : NewD B W' v fs := by
  obtain ⟨h1, h2⟩ := h
  refine ⟨h1, ?_⟩
  rcases h2 with h2 | ⟨g, cap, cur, rfl, hBg, hb, h3⟩
  · exact .inl h2
  · exact .inr ⟨g, cap, cur, rfl, hBg, by rw [hk g rfl]; exact hb, h3⟩
theorem NewD.besides {B : Nat} {W W' : World} {v : Value} {fs : List (Nat → Nat)} {r : Nat} (h : NewD B W v fs) (hg : W.grownBy W' (some r)) (hne : v.ownBlock ≠ some r) : NewD B W' v fs := h.blockK fun g hg' =>
  hg.block g (h.lt g hg').2 (by rw [← hg']; exact hne)
def SortedOut (B : Nat) (fs : List (Nat → Nat)) (w : World) (e : Ending) (w' : World) : Prop := ∃ v, e = .returned v ∧ NewD B w' v fs ∧ Below B w w'
end Go.Proofs.Ytnoepobbecobbaa
