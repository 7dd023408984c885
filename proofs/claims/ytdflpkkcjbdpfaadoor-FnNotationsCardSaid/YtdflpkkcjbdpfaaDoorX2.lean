/- What the law of halves leans on. -/
import Derived.Test.YtdflpkkcjbdpfaaDoorX1
import Derived.Test.YtdflpkkcjbdpfaaDoorW4
import Derived.Test.YtdflpkkcjbdpfaaDoorW8
import Derived.Test.YtdflpkkcjbdpfaaDoorV5
import Derived.Test.YtdflpkkcjbdpfaaDoorR3
namespace Go.Proofs.YtdflpkkcjbdpfaaDoor
open Go.RowKit
set_option linter.unusedSimpArgs false
set_option linter.unusedVariables false

theorem sameTexts_any (v v' : Value) (xs : List (List Nat)) (w : World) (h : Own w 9 v (strs xs)) (h' : Own w 9 v' (strs xs)) (hb : xs.length ≤ 2000000) :
    Calls Tryd.prog 9 #[v, v'] w fun e w' => e = .returned (.bool true) ∧ Below w.heap.size w w' := by
  refine (sameTexts_same v v' xs w h h' hb).mono ?_
  rintro e w1 ⟨rfl, d, hd⟩
  exact ⟨rfl, by rw [hd]; exact below_drewN (Below.refl _ _) _⟩

/-- an append to a row of the call's own, of a row, in an operation that a guard wants -/
theorem wpList_appG {P : Program} {w : World} {ops : Array Oper} {rest : List Oper} {o : Oper} {a : Act} {Q : Exit → Act → World → Prop} (hgw : Region.wanted o (yielded ops a.tmps) = true) (s x : Operand) (t : TypeId)
    (ho : o.op = .call { callee := .builtin .append, args := #[s, x], argTypes := #[t, t] })
    (e : TypeId) (i : TypeInfo) (z : Value) (bytes : Nat) (ht : P.underlying t = some (.slice e)) (hi : P.info? e = some i) (hz : i.zero = some z)
    (hsize : i.size = 1) (hby : i.bytes = bytes) (hzs : z.cells.size = 1) (v : Value) (xs : List Value) (hs : a.eval s = v) (hown : Own w e v xs)
    (g m c : Nat) (news : List Value) (hx : a.eval x = .slice (some ⟨g, 0, none⟩) m c) (hnews : Own w e (.slice (some ⟨g, 0, none⟩) m c) news) (hm : news.length = m) (h1 : ∀ u ∈ news, u.oneCell' = true)
    (hlen : xs.length + m ≤ 100000) (hbytes : bytes ≤ 1000)
    (h : ∀ v' w', Own w' e v' (xs ++ news) → KeptBut w w' v → w.grownBy w' v.ownBlock → (∀ g, v'.ownBlock = some g → v.ownBlock = some g ∨ w.heap.size ≤ g) → wpList P ops Q rest (a.put o.dst v') w') : wpList P ops Q (o :: rest) a w := by
  have hbd : (xs.length + m) * bytes ≤ 140737488355328 := by
    have : (xs.length + m) * bytes ≤ 100000 * 1000 := Nat.mul_le_mul hlen hbytes
    omega
  obtain ⟨v', w', hr, h2, h3, h4, h5⟩ := run_append_block (P := P) w t o.type e i z bytes ht hi hz hsize hby hzs v xs hown ⟨g, 0, none⟩ m c news hm
    (fun j u hj => by rw [add_at, Nat.zero_add]; exact hnews.cell j u hj) h1 hbd (by unfold maxLen; omega)
  unfold wpList
  rw [if_pos hgw]
  refine .inl ?_
  unfold Oper.wp execOp
  simp only [ho, resolve, invoke, builtin, Sem.run_bind, Sem.run_pure, Result.andThen_ok, List.map_toArray, List.map_cons, List.map_nil, hs, hx, hr]
  exact h v' w' h2 (fun k hk hne => h3.block k hk (fun e => hne e.symm)) h3 h4

theorem palOut_yes {α : Type} {xs : List α} (h : palOk xs = true) : palOut xs = pal xs := by unfold palOut; rw [if_pos h]
theorem palOut_mirror {α : Type} (xs : List α) (i : Nat) (hi : i < (palOut xs).length) : (palOut xs)[(palOut xs).length - 1 - i]? = (palOut xs)[i]? := by
  unfold palOut at hi ⊢
  split
  · rename_i h
    rw [if_pos h] at hi
    exact pal_mirror xs i hi
  · rename_i h
    rw [if_neg h] at hi
    simp at hi
theorem tidyC_good (n : Int) (s : ByteArray) (h : tidyC n s ≠ []) : goodC n (txt (tidyC n s)) = true := by
  unfold tidyC at h ⊢
  split
  · rename_i hn
    rw [if_pos hn] at h
    obtain ⟨m, rfl⟩ : ∃ m : Nat, n = m := ⟨n.toNat, by omega⟩
    have hg := tidyL_good _ _ h
    rw [goodC_in, lets_txt _ (fun b hb => by have := goodL_small hg b hb; omega)]
    exact hg
  · rename_i hn
    rw [if_neg hn] at h
    exact absurd rfl h
end Go.Proofs.YtdflpkkcjbdpfaaDoor
