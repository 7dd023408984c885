/- Slices of the call's own in new blocks: one element more. -/
import Derived.Test.YtkeighlcdnfjcaaO4
import Derived.Test.YtkeighlcdnfjcaaA10
namespace Go.Proofs.Ytkeighlcdnfjcaa
open Go.RowKit

theorem infoInt : (Try.prog.info? 3).map (fun i => (i.zero, i.size, i.bytes)) = some (some (.int .i64 0), 1, 8) := by kernel_rfl
theorem infoInts : (Try.prog.info? 28).map (fun i => (i.zero, i.size, i.bytes)) = some (some (.slice none 0 0), 1, 24) := by kernel_rfl
theorem infoText : (Try.prog.info? 9).map (fun i => (i.zero, i.size, i.bytes)) = some (some (.string ⟨#[]⟩), 1, 16) := by kernel_rfl
theorem infoByte : (Try.prog.info? 5).map (fun i => (i.zero, i.size, i.bytes)) = some (some (.int .u8 0), 1, 1) := by kernel_rfl

/-- a slice of the call's own: its block lies from B on -/
structure New (B : Nat) (W : World) (e : TypeId) (v : Value) (xs : List Value) : Prop where
  own : Own W e v xs
  base : ∀ g, v.ownBlock = some g → B ≤ g
theorem New.nil (B : Nat) (W : World) (e : TypeId) : New B W e (.slice none 0 0) [] := ⟨Own.nil _ _, fun g hg => by simp [Value.ownBlock] at hg⟩
theorem New.kept {B : Nat} {W W' : World} {e : TypeId} {v : Value} {xs : List Value} (h : New B W e v xs) (hb : Below W.heap.size W W') : New B W' e v xs := ⟨h.own.kept hb, h.base⟩
theorem New.drewN {B : Nat} {W : World} {e : TypeId} {v : Value} {xs : List Value} (h : New B W e v xs) (n : Nat) : New B (W.drewN n) e v xs := ⟨h.own, h.base⟩
theorem New.lower {B B' : Nat} {W : World} {e : TypeId} {v : Value} {xs : List Value} (h : New B W e v xs) (hB : B' ≤ B) : New B' W e v xs := ⟨h.own, fun g hg => Nat.le_trans hB (h.base g hg)⟩

/-- what an append of one element leaves: every block but the slice's own stands -/
def KeptBut (W W' : World) (v : Value) : Prop := ∀ k, k < W.heap.size → v.ownBlock ≠ some k → W'.heap[k]? = W.heap[k]?
theorem KeptBut.row {W W' : World} {v : Value} {b : Nat} {T : TypeId} {cs : Array Value} (h : KeptBut W W' v) (H : RowAt W b T cs) (hne : v.ownBlock ≠ some b) : RowAt W' b T cs := (h b H.lt hne).trans H

theorem wpList_app1 {P : Program} {wr : World} {ops : Array Oper} {rest : List Oper} {o : Oper} {a : Act} {Q : Exit → Act → World → Prop} {u : Value} (hgd : o.guard = none) (s x : Operand) (t : TypeId)
    (ho : o.op = .call { callee := .builtin .append, args := #[s, x], argTypes := #[t, t] })
    (e : TypeId) (i : TypeInfo) (z : Value) (bytes : Nat) (ht : P.underlying t = some (.slice e)) (hi : P.info? e = some i) (hz : i.zero = some z)
    (hsize : i.size = 1) (hby : i.bytes = bytes) (hzs : z.cells.size = 1) (B : Nat) (w0 : World) (v : Value) (xs : List Value) (hs : a.eval s = v) (hnew : New B wr e v xs)
    (hx : a.eval x = .slice (some ⟨wr.heap.size, 0, none⟩) 1 1) (h1 : u.oneCell' = true) (hB : B ≤ wr.heap.size) (hbel : Below B w0 wr)
    (hlen : xs.length ≤ 100000) (hbytes : bytes ≤ 1000)
    (h : ∀ v' w', New B w' e v' (xs ++ [u]) → KeptBut wr w' v → Below B w0 w' → wr.heap.size ≤ w'.heap.size → wpList P ops Q rest (a.put o.dst v') w') : wpList P ops Q (o :: rest) a (wr.alloc (.cells #[u] e)) := by
  refine wpList_app hgd s x t ho e i z bytes ht hi hz hsize hby hzs v xs hs (hnew.own.alloc _) ⟨wr.heap.size, 0, none⟩ 1 1 [u] hx rfl ?_ ?_ ?_ ?_ ?_
  · intro j y hj
    have : j = 0 := by
      have := (List.getElem?_eq_some_iff.1 hj).1
      simpa using this
    subst this
    simp at hj
    subst hj
    rw [show (⟨wr.heap.size, 0, none⟩ : Addr).add 0 = ⟨wr.heap.size, 0, none⟩ from rfl]
    exact (RowAt.new wr e #[u]).cell 0 rfl
  · intro y hy; simp at hy; subst hy; exact h1
  · have : (xs.length + 1) * bytes ≤ 100001 * 1000 := Nat.mul_le_mul (by omega) hbytes
    omega
  · unfold maxLen; omega
  · intro v' w' hown hgrow hfresh _
    have hbase : ∀ g, v'.ownBlock = some g → B ≤ g := fun g hg => by
      rcases hfresh g hg with h | h
      · exact hnew.base g h
      · simp at h; omega
    refine h v' w' ⟨hown, hbase⟩ (fun k hk hne => ?_) ?_ ?_
    · exact (hgrow.block k (by simp; omega) (fun e => hne e.symm)).trans (heap_alloc_old wr _ hk)
    · exact (hbel.alloc hB _).grown hgrow (by simp; omega) (fun g hg => hnew.base g hg)
    · have := hgrow.size
      simp at this
      omega
end Go.Proofs.Ytkeighlcdnfjcaa
