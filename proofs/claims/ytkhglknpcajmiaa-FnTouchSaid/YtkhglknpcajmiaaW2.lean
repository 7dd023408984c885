/- Draws of lists of changes: the cursor and a row of texts together. -/
import Derived.Test.YtkhglknpcajmiaaW1
namespace Go.Proofs.Ytkhglknpcajmiaa
open Go.RowKit
set_option linter.unusedSimpArgs false
set_option linter.unusedVariables false

theorem Only.then {b : Nat} {w W W' : World} (h : Only b w W) (k : Below w.heap.size W W') : Only b w W' :=
  ⟨k.os.trans h.os, k.tape.trans h.tape, k.output.trans h.output, Nat.le_trans h.size k.size, fun i hi hne => (k.block i hi).trans (h.block i hi hne)⟩
theorem Only.drew {b : Nat} {w W : World} (h : Only b w W) : Only b w W.drew := h.drewN 1
/-- a call's own work: the cursor stands at no more than m, and nothing older has turned but the cursor -/
structure Dr (b : Nat) (a : Option Addr) (len cap m : Nat) (w W : World) : Prop where
  cur : Cur W b a len cap m
  only : Only b w W
theorem Dr.start {b : Nat} {a : Option Addr} {len cap m : Nat} {w : World} (h : Cur w b a len cap m) : Dr b a len cap m w w := ⟨h, Only.refl _ _⟩
theorem Dr.more {b : Nat} {a : Option Addr} {len cap m m' : Nat} {w W : World} (h : Dr b a len cap m w W) (hm : m ≤ m') : Dr b a len cap m' w W := ⟨h.cur.more hm, h.only⟩
theorem Dr.drew {b : Nat} {a : Option Addr} {len cap m : Nat} {w W : World} (h : Dr b a len cap m w W) : Dr b a len cap m w W.drew := by
  obtain ⟨⟨h1, h2, p, s, h3, h4⟩, h5⟩ := h
  exact ⟨⟨h1.only (Only.refl b W).drew, h2, p, s, h3, h4⟩, h5.drew⟩
theorem Dr.call {b : Nat} {a : Option Addr} {len cap m m' : Nat} {w W W' : World} (h : Dr b a len cap m w W) (hc : Cur W' b a len cap m') (ho : Only b W W') : Dr b a len cap m' w W' := ⟨hc, h.only.trans ho⟩
theorem Dr.below {b : Nat} {a : Option Addr} {len cap m m0 : Nat} {w W W' : World} (h : Dr b a len cap m w W) (h0 : Cur w b a len cap m0) (k : Below w.heap.size W W') : Dr b a len cap m w W' := by
  have hlt := h0.lt
  have hO := h.only.then k
  obtain ⟨⟨h1, h2, p, s, h3, h4⟩, h5⟩ := h
  exact ⟨⟨h0.1.only hO, h2, p, s, h3, (k.block b hlt).trans h4⟩, hO⟩
theorem New.only {B b : Nat} {W W' : World} {e : TypeId} {v : Value} {xs : List Value} (h : New B W e v xs) (ho : Only b W W') (hb : b < B) : New B W' e v xs :=
  ⟨h.own.block fun g hg => ho.block g (h.own.lt g hg) (by have := h.base g hg; omega), h.base⟩
theorem New.setOther {B : Nat} {W : World} {e : TypeId} {v : Value} {xs : List Value} (h : New B W e v xs) (c o : Nat) (u : Value) (hne : v.ownBlock ≠ some c) : New B (W.setCell ⟨c, o, none⟩ u) e v xs :=
  ⟨h.own.block fun g hg => Below.heap_setCell W _ u g (by rintro rfl; exact hne hg), h.base⟩
/-- a block of another kind is no row's own -/
theorem New.apartRow {B : Nat} {W : World} {e T : TypeId} {v : Value} {xs : List Value} {c : Nat} {cs : Array Value} (h : New B W e v xs) (hr : RowAt W c T cs) (hne : e ≠ T) : v.ownBlock ≠ some c := by
  intro hg
  obtain ⟨hv, -⟩ | ⟨g, cp, hv, -⟩ := h.own.shape
  · rw [hv] at hg; simp [Value.ownBlock] at hg
  · subst hv
    have hgc : g = c := by simpa [Value.ownBlock] using hg
    subst hgc
    obtain ⟨cur, hcur, -⟩ := h.own.row
    have := hcur.symm.trans hr
    simp at this
    exact hne this.2

theorem step_app1 {P : Program} {wr : World} {ops : Array Oper} {o : Oper} {a : Act} {K : Act → World → Prop} {Q : Exit → Act → World → Prop} {E : Prop} {u : Value} (hgd : o.guard = none) (s x : Operand) (t : TypeId)
    (ho : o.op = .call { callee := .builtin .append, args := #[s, x], argTypes := #[t, t] })
    (e : TypeId) (i : TypeInfo) (z : Value) (bytes : Nat) (ht : P.underlying t = some (.slice e)) (hi : P.info? e = some i) (hz : i.zero = some z)
    (hsize : i.size = 1) (hby : i.bytes = bytes) (hzs : z.cells.size = 1) (B : Nat) (v : Value) (xs : List Value) (hs : a.eval s = v) (hnew : New B wr e v xs)
    (hx : a.eval x = .slice (some ⟨wr.heap.size, 0, none⟩) 1 1) (h1 : u.oneCell' = true) (hB : B ≤ wr.heap.size)
    (hlen : xs.length ≤ 100000) (hbytes : bytes ≤ 1000)
    (h : ∀ v' w', New B w' e v' (xs ++ [u]) → KeptBut wr w' v → Below B wr w' → K (a.put o.dst v') w') :
    if Region.wanted o (yielded ops a.tmps) = true then Oper.wp P o a (wr.alloc (.cells #[u] e)) K Q else E := by
  have hw : Region.wanted o (yielded ops a.tmps) = true := by simp [Region.wanted, hgd]
  rw [if_pos hw]
  have hnews : ∀ j y, [u][j]? = some y → (wr.alloc (.cells #[u] e)).cell? ((⟨wr.heap.size, 0, none⟩ : Addr).add j) = some y := fun j y hj => by
    have : j = 0 := by
      have := (List.getElem?_eq_some_iff.1 hj).1
      simpa using this
    subst this
    simp at hj
    subst hj
    rw [show (⟨wr.heap.size, 0, none⟩ : Addr).add 0 = ⟨wr.heap.size, 0, none⟩ from rfl]
    exact (RowAt.new wr e #[u]).cell 0 rfl
  have hbd : (xs.length + 1) * bytes ≤ 140737488355328 := by
    have : (xs.length + 1) * bytes ≤ 100001 * 1000 := Nat.mul_le_mul (by omega) hbytes
    omega
  obtain ⟨v', w', hr, hown, hgrow, hfresh, -⟩ := run_append_block (P := P) (wr.alloc (.cells #[u] e)) t o.type e i z bytes ht hi hz hsize hby hzs v xs (hnew.own.alloc _) ⟨wr.heap.size, 0, none⟩ 1 1 [u] rfl hnews (by intro y hy; simp at hy; subst hy; exact h1) hbd (by unfold maxLen; omega)
  unfold Oper.wp execOp
  simp only [ho, resolve, invoke, builtin, Sem.run_bind, Sem.run_pure, Result.andThen_ok, List.map_toArray, List.map_cons, List.map_nil, hs, hx, hr]
  have hbase : ∀ g, v'.ownBlock = some g → B ≤ g := fun g hg => by
    rcases hfresh g hg with h | h
    · exact hnew.base g h
    · simp at h; omega
  refine h v' w' ⟨hown, hbase⟩ (fun k hk hne => ?_) ?_
  · exact (hgrow.block k (by simp; omega) (fun e => hne e.symm)).trans (heap_alloc_old wr _ hk)
  · exact ((Below.refl B wr).alloc hB _).grown hgrow (by simp; omega) (fun g hg => hnew.base g hg)

/-- the same, in whatever world -/
theorem step_appW {P : Program} {W : World} {ops : Array Oper} {o : Oper} {a : Act} {K : Act → World → Prop} {Q : Exit → Act → World → Prop} {E : Prop} {u : Value} (hgd : o.guard = none) (s x : Operand) (t : TypeId)
    (ho : o.op = .call { callee := .builtin .append, args := #[s, x], argTypes := #[t, t] })
    (e : TypeId) (i : TypeInfo) (z : Value) (bytes : Nat) (ht : P.underlying t = some (.slice e)) (hi : P.info? e = some i) (hz : i.zero = some z)
    (hsize : i.size = 1) (hby : i.bytes = bytes) (hzs : z.cells.size = 1) (B : Nat) (v : Value) (xs : List Value) (hs : a.eval s = v) (hnew : New B W e v xs) (g : Nat)
    (hx : a.eval x = .slice (some ⟨g, 0, none⟩) 1 1) (hc : W.cell? ⟨g, 0, none⟩ = some u) (h1 : u.oneCell' = true) (hB : B ≤ W.heap.size)
    (hlen : xs.length ≤ 100000) (hbytes : bytes ≤ 1000)
    (h : ∀ v' w', New B w' e v' (xs ++ [u]) → KeptBut W w' v → Below B W w' → K (a.put o.dst v') w') :
    if Region.wanted o (yielded ops a.tmps) = true then Oper.wp P o a W K Q else E := by
  have hw : Region.wanted o (yielded ops a.tmps) = true := by simp [Region.wanted, hgd]
  rw [if_pos hw]
  have hnews : ∀ j y, [u][j]? = some y → W.cell? ((⟨g, 0, none⟩ : Addr).add j) = some y := fun j y hj => by
    have : j = 0 := by
      have := (List.getElem?_eq_some_iff.1 hj).1
      simpa using this
    subst this
    simp at hj
    subst hj
    exact hc
  have hbd : (xs.length + 1) * bytes ≤ 140737488355328 := by
    have : (xs.length + 1) * bytes ≤ 100001 * 1000 := Nat.mul_le_mul (by omega) hbytes
    omega
  obtain ⟨v', w', hr, hown, hgrow, hfresh, -⟩ := run_append_block (P := P) W t o.type e i z bytes ht hi hz hsize hby hzs v xs hnew.own ⟨g, 0, none⟩ 1 1 [u] rfl hnews (by intro y hy; simp at hy; subst hy; exact h1) hbd (by unfold maxLen; omega)
  unfold Oper.wp execOp
  simp only [ho, resolve, invoke, builtin, Sem.run_bind, Sem.run_pure, Result.andThen_ok, List.map_toArray, List.map_cons, List.map_nil, hs, hx, hr]
  have hbase : ∀ g, v'.ownBlock = some g → B ≤ g := fun g hg => by
    rcases hfresh g hg with h | h
    · exact hnew.base g h
    · omega
  exact h v' w' ⟨hown, hbase⟩ (fun k hk hne => hgrow.block k hk (fun e => hne e.symm)) ((Below.refl B W).grown hgrow hB (fun g hg => hnew.base g hg))
end Go.Proofs.Ytkhglknpcajmiaa
