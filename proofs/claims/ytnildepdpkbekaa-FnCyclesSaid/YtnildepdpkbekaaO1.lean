/- Slices of the call's own, whose elements take one cell each: what an append makes of them, and in which block. -/
import Derived.Test.YtnildepdpkbekaaA1
import Derived.Laws.AppendOwn
namespace Go.Proofs.Ytnildepdpkbekaa
open Go.RowKit

/-- v is a slice of the call's own with the elements xs (nil where there are none, or a block's first cells) -/
def Own (W : World) (e : TypeId) (v : Value) (xs : List Value) : Prop := W.ownsRow 0 e 1 v xs.length xs
/-- the slice v' that an append to v gave lies in v's block, or in a new one -/
def FreshOr (w : World) (v v' : Value) : Prop := ∀ g, v'.ownBlock = some g → v.ownBlock = some g ∨ w.heap.size ≤ g

theorem Own.nil (W : World) (e : TypeId) : Own W e (.slice none 0 0) [] := World.ownsRow_nil W 0 e 1
theorem Own.lit (W : World) (e : TypeId) (cs : List Value) (h : cs.length ≤ 1000000) : Own (W.alloc (.cells cs.toArray e)) e (.slice (some ⟨W.heap.size, 0, none⟩) cs.length cs.length) cs :=
  ⟨by simp, .inr ⟨W.heap.size, cs.length, cs.toArray, rfl, Nat.zero_le _, heap_alloc_new W _, Nat.le_refl _, by unfold maxLen; omega, by simp, by simp⟩⟩
theorem Own.lt {W : World} {e : TypeId} {v : Value} {xs : List Value} (h : Own W e v xs) (g : Nat) (hg : v.ownBlock = some g) : g < W.heap.size := (World.ownsRow.lt h g hg).2
/-- the shape of the value -/
theorem Own.shape {W : World} {e : TypeId} {v : Value} {xs : List Value} (h : Own W e v xs) : (v = .slice none 0 0 ∧ xs = []) ∨ ∃ g cap, v = .slice (some ⟨g, 0, none⟩) xs.length cap ∧ xs.length ≤ cap := by
  obtain ⟨h1, h2⟩ := h
  rcases h2 with ⟨rfl, h0⟩ | ⟨g, cap, cur, rfl, _, _, hle, _⟩
  · exact .inl ⟨rfl, List.eq_nil_of_length_eq_zero h0⟩
  · exact .inr ⟨g, cap, rfl, hle⟩
theorem Own.cell {W : World} {e : TypeId} {g n cap : Nat} {xs : List Value} (h : Own W e (.slice (some ⟨g, 0, none⟩) n cap) xs) (j : Nat) (u : Value) (hj : xs[j]? = some u) : W.cell? ⟨g, j, none⟩ = some u := by
  have := World.ownsRow.cells h (g := g) rfl j u hj
  rwa [show (⟨g, 0, none⟩ : Addr).add j = ⟨g, j, none⟩ from by unfold Addr.add; split <;> simp_all] at this
theorem Own.row {W : World} {e : TypeId} {g n cap : Nat} {xs : List Value} (h : Own W e (.slice (some ⟨g, 0, none⟩) n cap) xs) : ∃ cur, W.heap[g]? = some (.cells cur e (0, 0)) ∧ cur.toList.take xs.length = xs ∧ n = xs.length := by
  obtain ⟨h1, h2⟩ := h
  rcases h2 with ⟨h0, _⟩ | ⟨g', cap', cur, hv, _, hg, hle, hm, hs, ht⟩
  · cases h0
  · injection hv with e1 e2 e3
    injection e1 with e1
    injection e1 with e1
    subst e1 e2
    exact ⟨cur, hg, by simpa using ht, rfl⟩
theorem Own.free {W : World} {e : TypeId} {g n cap : Nat} {xs : List Value} (h : Own W e (.slice (some ⟨g, 0, none⟩) n cap) xs) (j : Nat) : W.frozen? ⟨g, j, none⟩ = false := by
  obtain ⟨cur, hg, _⟩ := h.row
  exact frozen_of_row W g j cur e hg
/-- a slice stays what it is where its block stays what it is -/
theorem Own.block {W W' : World} {e : TypeId} {v : Value} {xs : List Value} (h : Own W e v xs) (hb : ∀ g, v.ownBlock = some g → W'.heap[g]? = W.heap[g]?) : Own W' e v xs := by
  obtain ⟨h1, h2⟩ := h
  refine ⟨h1, ?_⟩
  rcases h2 with h0 | ⟨g, cap, cur, rfl, hbg, hg, hr⟩
  · exact .inl h0
  · exact .inr ⟨g, cap, cur, rfl, hbg, (hb g rfl).trans hg, hr⟩
theorem Own.kept {W W' : World} {e : TypeId} {v : Value} {xs : List Value} (h : Own W e v xs) (hb : Below W.heap.size W W') : Own W' e v xs := h.block fun g hg => hb.block g (h.lt g hg)
theorem Own.alloc {W : World} {e : TypeId} {v : Value} {xs : List Value} (h : Own W e v xs) (o : Obj) : Own (W.alloc o) e v xs := h.kept ((Below.refl _ _).alloc (Nat.le_refl _) o)
theorem Own.drewN {W : World} {e : TypeId} {v : Value} {xs : List Value} (h : Own W e v xs) (n : Nat) : Own (W.drewN n) e v xs := h
theorem Own.grown {W W' : World} {e : TypeId} {v : Value} {xs : List Value} {row : Option Nat} (h : Own W e v xs) (hg : W.grownBy W' row) (hne : ∀ g, v.ownBlock = some g → some g ≠ row) : Own W' e v xs :=
  h.block fun g hgb => hg.block g (h.lt g hgb) (hne g hgb)
/-- slices of two kinds of elements lie in two blocks -/
theorem Own.apart {W : World} {e e' : TypeId} {v v' : Value} {xs ys : List Value} (h : Own W e v xs) (h' : Own W e' v' ys) (hne : e ≠ e') (g : Nat) (hg : v.ownBlock = some g) : v'.ownBlock ≠ some g := by
  intro hg'
  rcases h.shape with ⟨rfl, _⟩ | ⟨b, cap, rfl, _⟩
  · cases hg
  · rcases h'.shape with ⟨rfl, _⟩ | ⟨b', cap', rfl, _⟩
    · cases hg'
    · have e1 : b = g := by injection hg
      have e2 : b' = g := by injection hg'
      subst e1 e2
      obtain ⟨c1, q1, _⟩ := h.row
      obtain ⟨c2, q2, _⟩ := h'.row
      rw [q1] at q2
      injection q2 with q2
      injection q2 with _ q3
      exact hne q3

section
variable {P : Program} (w : World)
theorem run_append_block (t ty e : TypeId) (i : TypeInfo) (z : Value) (bytes : Nat) (ht : P.underlying t = some (.slice e)) (hi : P.info? e = some i) (hz : i.zero = some z)
    (hsize : i.size = 1) (hby : i.bytes = bytes) (hzs : z.cells.size = 1) (v : Value) (xs : List Value) (hown : Own w e v xs)
    (a : Addr) (m c : Nat) (news : List Value) (hl : news.length = m) (hnews : ∀ j u, news[j]? = some u → w.cell? (a.add j) = some u) (h1 : ∀ u ∈ news, u.oneCell' = true)
    (hbound : (xs.length + m) * bytes ≤ 140737488355328) (h63 : xs.length + m ≤ maxLen) :
    ∃ v' w', (Builtin.append_ #[t, t] ty #[v, .slice (some a) m c]).run P w = .ok v' w' ∧ Own w' e v' (xs ++ news) ∧ w.grownBy w' v.ownBlock ∧ FreshOr w v v' ∧ (v' = .slice none 0 0 ↔ v = .slice none 0 0 ∧ m = 0) := by
  obtain ⟨v', w', hr, hO, hG, hN⟩ := run_append_own (P := P) w 0 t ty e i z 1 bytes ht hi hz hsize hby hzs (by omega) v xs.length xs hown a m c news (by simpa using hl) hnews h1 h63 hbound (Nat.zero_le _)
  refine ⟨v', w', hr, by unfold Own; rw [List.length_append, hl]; exact hO, hG, ?_, hN⟩
  intro g hg
  rcases hown.2 with ⟨rfl, h0⟩ | ⟨g0, cap, cur, rfl, _, hrow, hle, hcm, hcs, htk⟩
  · have hx : xs = [] := List.eq_nil_of_length_eq_zero h0
    subst hx
    obtain ⟨v2, w2, hr2, hO2, _, _⟩ := run_append_own (P := P) w w.heap.size t ty e i z 1 bytes ht hi hz hsize hby hzs (by omega) (.slice none 0 0) 0 [] (World.ownsRow_nil _ _ _ _) a m c news (by simpa using hl) hnews h1 (by simpa using h63) (by simpa using hbound) (Nat.le_refl _)
    rw [hr] at hr2
    injection hr2 with e1 e2
    subst e1 e2
    exact .inr (World.ownsRow.lt hO2 g hg).1
  · by_cases hroom : xs.length + m ≤ cap
    · have hfit : xs.length * i.size + news.length ≤ cur.size := by rw [hsize, hl, hcs]; omega
      have hr2 := run_append_room (P := P) w t ty e i ht hi g0 xs.length cap cur hrow a m c news (by rw [hsize, hl]; omega) hnews h1 hroom hfit
      rw [hr] at hr2
      injection hr2 with e1 e2
      subst e1
      exact .inl hg
    · have holds : ∀ j u, xs[j]? = some u → w.cell? ((⟨g0, 0, none⟩ : Addr).add j) = some u := World.ownsRow.cells hown (g := g0) rfl
      have hsm : ((xs.length + m : Nat) : Int) ≤ 9223372036854775807 := by simp only [maxLen] at h63; omega
      have hr2 := run_append_grow (P := P) w t ty e i z ht hi hz ⟨g0, 0, none⟩ xs.length cap xs (by rw [hsize]; omega) holds a m c news (by rw [hsize, hl]; omega) hnews (by omega) hsm (growslice_fits (by omega) (by rw [hby]; exact hbound))
      rw [hr] at hr2
      injection hr2 with e1 e2
      subst e1
      injection hg with hg
      exact .inr (by rw [← hg]; exact Nat.le_refl _)
end

theorem wpList_app {P : Program} {w : World} {ops : Array Oper} {rest : List Oper} {o : Oper} {a : Act} {Q : Exit → Act → World → Prop} (hgd : o.guard = none) (s x : Operand) (t : TypeId)
    (ho : o.op = .call { callee := .builtin .append, args := #[s, x], argTypes := #[t, t] })
    (e : TypeId) (i : TypeInfo) (z : Value) (bytes : Nat) (ht : P.underlying t = some (.slice e)) (hi : P.info? e = some i) (hz : i.zero = some z)
    (hsize : i.size = 1) (hby : i.bytes = bytes) (hzs : z.cells.size = 1) (v : Value) (xs : List Value) (hs : a.eval s = v) (hown : Own w e v xs)
    (ad : Addr) (m c : Nat) (news : List Value) (hx : a.eval x = .slice (some ad) m c) (hl : news.length = m) (hnews : ∀ j u, news[j]? = some u → w.cell? (ad.add j) = some u) (h1 : ∀ u ∈ news, u.oneCell' = true)
    (hbound : (xs.length + m) * bytes ≤ 140737488355328) (h63 : xs.length + m ≤ maxLen)
    (h : ∀ v' w', Own w' e v' (xs ++ news) → w.grownBy w' v.ownBlock → FreshOr w v v' → (v' = .slice none 0 0 ↔ v = .slice none 0 0 ∧ m = 0) → wpList P ops Q rest (a.put o.dst v') w') : wpList P ops Q (o :: rest) a w :=
  wpList_plain hgd fun _ hK => by
    obtain ⟨v', w', hr, h2, h3, h4, h5⟩ := run_append_block (P := P) w t o.type e i z bytes ht hi hz hsize hby hzs v xs hown ad m c news hl hnews h1 hbound h63
    unfold Oper.wp execOp
    simp only [ho, resolve, invoke, builtin, Sem.run_bind, Sem.run_pure, Result.andThen_ok, List.map_toArray, List.map_cons, List.map_nil, hs, hx, hr]
    exact hK _ _ (h v' w' h2 h3 h4 h5)
end Go.Proofs.Ytnildepdpkbekaa
