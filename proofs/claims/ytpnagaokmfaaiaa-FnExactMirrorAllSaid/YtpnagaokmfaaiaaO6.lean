/- Slices of the call's own in new blocks: many elements more, or none. -/
import Derived.Test.YtpnagaokmfaaiaaO5
import Derived.Laws.AppendOwnNone
namespace Go.Proofs.Ytpnagaokmfaaiaa
open Go.RowKit

theorem wpList_appN {P : Program} {w : World} {ops : Array Oper} {rest : List Oper} {o : Oper} {a : Act} {Q : Exit → Act → World → Prop} (hgd : o.guard = none) (s x : Operand) (t : TypeId)
    (ho : o.op = .call { callee := .builtin .append, args := #[s, x], argTypes := #[t, t] })
    (e : TypeId) (i : TypeInfo) (z : Value) (bytes : Nat) (ht : P.underlying t = some (.slice e)) (hi : P.info? e = some i) (hz : i.zero = some z)
    (hsize : i.size = 1) (hby : i.bytes = bytes) (hzs : z.cells.size = 1) (B : Nat) (w0 : World) (v : Value) (xs : List Value) (hs : a.eval s = v) (hnew : New B w e v xs)
    (ad : Addr) (m c : Nat) (news : List Value) (hx : a.eval x = .slice (some ad) m c) (hl : news.length = m) (hnews : ∀ j u, news[j]? = some u → w.cell? (ad.add j) = some u) (h1 : ∀ u ∈ news, u.oneCell' = true) (hB : B ≤ w.heap.size) (hbel : Below B w0 w)
    (hlen : xs.length + m ≤ 100000) (hbytes : bytes ≤ 1000)
    (h : ∀ v' w', New B w' e v' (xs ++ news) → KeptBut w w' v → Below B w0 w' → w.heap.size ≤ w'.heap.size → (∀ g, v'.ownBlock = some g → v.ownBlock = some g ∨ w.heap.size ≤ g) → wpList P ops Q rest (a.put o.dst v') w') : wpList P ops Q (o :: rest) a w := by
  refine wpList_app hgd s x t ho e i z bytes ht hi hz hsize hby hzs v xs hs hnew.own ad m c news hx hl hnews h1 ?_ ?_ ?_
  · have : (xs.length + m) * bytes ≤ 100000 * 1000 := Nat.mul_le_mul hlen hbytes
    omega
  · unfold maxLen; omega
  · intro v' w' hown hgrow hfresh _
    have hbase : ∀ g, v'.ownBlock = some g → B ≤ g := fun g hg => by
      rcases hfresh g hg with h | h
      · exact hnew.base g h
      · omega
    exact h v' w' ⟨hown, hbase⟩ (fun k hk hne => hgrow.block k hk (fun e => hne e.symm)) (hbel.grown hgrow hB (fun g hg => hnew.base g hg)) hgrow.size hfresh
/-- an append of nil -/
theorem wpList_app0 {P : Program} {w : World} {ops : Array Oper} {rest : List Oper} {o : Oper} {a : Act} {Q : Exit → Act → World → Prop} (hgd : o.guard = none) (s x : Operand) (t : TypeId)
    (ho : o.op = .call { callee := .builtin .append, args := #[s, x], argTypes := #[t, t] })
    (e : TypeId) (i : TypeInfo) (ht : P.underlying t = some (.slice e)) (hi : P.info? e = some i) (B : Nat) (v : Value) (xs : List Value) (hs : a.eval s = v) (hnew : New B w e v xs) (hx : a.eval x = .slice none 0 0)
    (h : wpList P ops Q rest (a.put o.dst v) w) : wpList P ops Q (o :: rest) a w :=
  wpList_append_own_none hgd s x t ho 0 e i 1 ht hi v xs.length xs hs hnew.own hx h
end Go.Proofs.Ytpnagaokmfaaiaa
