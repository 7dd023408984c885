/- StartAt in the model. -/
import Derived.Test.YtnoepobbecobbaaD17
import Derived.Deep.RegionHeld3
namespace Go.Proofs.Ytnoepobbecobbaa
open Go.RowKit
set_option linter.unusedSimpArgs false
set_option linter.unusedVariables false

/-- several elements appended, at a step of a region -/
theorem step_appN {P : Program} {W : World} {ops : Array Oper} {o : Oper} {a : Act} {K : Act → World → Prop} {Q : Exit → Act → World → Prop} {E : Prop} (hgd : o.guard = none) (s x : Operand) (t : TypeId)
    (ho : o.op = .call { callee := .builtin .append, args := #[s, x], argTypes := #[t, t] })
    (e : TypeId) (i : TypeInfo) (z : Value) (bytes : Nat) (ht : P.underlying t = some (.slice e)) (hi : P.info? e = some i) (hz : i.zero = some z)
    (hsize : i.size = 1) (hby : i.bytes = bytes) (hzs : z.cells.size = 1) (B : Nat) (v : Value) (xs : List Value) (hs : a.eval s = v) (hnew : New B W e v xs)
    (ad : Addr) (m c : Nat) (news : List Value) (hx : a.eval x = .slice (some ad) m c) (hl : news.length = m) (hnews : ∀ j u, news[j]? = some u → W.cell? (ad.add j) = some u) (h1 : ∀ u ∈ news, u.oneCell' = true) (hB : B ≤ W.heap.size)
    (hlen : xs.length + m ≤ 100000) (hbytes : bytes ≤ 1000)
    (h : ∀ v' w', New B w' e v' (xs ++ news) → KeptBut W w' v → Below B W w' → K (a.put o.dst v') w') :
    if Region.wanted o (yielded ops a.tmps) = true then Oper.wp P o a W K Q else E := by
  have hw : Region.wanted o (yielded ops a.tmps) = true := by simp [Region.wanted, hgd]
  rw [if_pos hw]
  have hbd : (xs.length + m) * bytes ≤ 140737488355328 := by
    have : (xs.length + m) * bytes ≤ 100000 * 1000 := Nat.mul_le_mul hlen hbytes
    omega
  obtain ⟨v', w', hr, hown, hgrow, hfresh, -⟩ := run_append_block (P := P) W t o.type e i z bytes ht hi hz hsize hby hzs v xs hnew.own ad m c news hl hnews h1 hbd (by unfold maxLen; omega)
  unfold Oper.wp execOp
  simp only [ho, resolve, invoke, builtin, Sem.run_bind, Sem.run_pure, Result.andThen_ok, List.map_toArray, List.map_cons, List.map_nil, hs, hx, hr]
  have hbase : ∀ g, v'.ownBlock = some g → B ≤ g := fun g hg => by
    rcases hfresh g hg with h | h
    · exact hnew.base g h
    · omega
  exact h v' w' ⟨hown, hbase⟩ (fun k hk hne => hgrow.block k hk (fun e => hne e.symm)) ((Below.refl B W).grown hgrow hB (fun g hg => hnew.base g hg))

end Go.Proofs.Ytnoepobbecobbaa
