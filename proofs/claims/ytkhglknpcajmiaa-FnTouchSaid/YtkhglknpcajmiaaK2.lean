/- Slices of the call's own, whose elements take one cell each: what an append makes of them, and in which block. What the laws do with lists of numbers: compare them, mark them, ask whether the marks stand. Lists of lists of numbers, each in a block of its own: compared, marked, held. sameInts and sameLists. Slices of the call's own in new blocks: one element more. Slices of the call's own in new blocks: many elements more, or none. -/
import Derived.Test.YtkhglknpcajmiaaK1
import Derived.Laws.AppendOwn
import Derived.Laws.AppendOwnNone
namespace Go.Proofs.Ytkhglknpcajmiaa
open Go.RowKit

/-- v is a slice of the call's own with the elements xs (nil where there are none, or a block's first cells) -/
def Own (W : World) (e : TypeId) (v : Value) (xs : List Value) : Prop := W.ownsRow 0 e 1 v xs.length xs
/-- the slice v' that an append to v gave lies in v's block, or in a new one -/
def FreshOr (w : World) (v v' : Value) : Prop := ∀ g, v'.ownBlock = some g → v.ownBlock = some g ∨ w.heap.size ≤ g

theorem Own.nil (W : World) (e : TypeId) : Own W e (.slice none 0 0) [] := World.ownsRow_nil W 0 e 1
theorem Own.lit (W : World) (e : TypeId) (cs : List Value) (h : cs.length ≤ 1000000) : Own (W.alloc (.cells cs.toArray e)) e (.slice (some ⟨W.heap.size, 0, none⟩) cs.length cs.length) cs :=
  ⟨by simp, .inr ⟨W.heap.size, cs.length, cs.toArray, rfl, Nat.zero_le _, heap_alloc_new W _, Nat.le_refl _, by unfold maxLen; omega, by simp, by simp⟩⟩
theorem Own.lt {W : World} {e : TypeId} {v : Value} {xs : List Value} (h : Own W e v xs) (g : Nat) (hg : v.ownBlock = some g) : g < W.heap.size := (World.ownsRow.lt h g hg).2
/-- the shape of the value -/
theorem Own.shape {W : World} {e : TypeId} {v : Value} {xs : List Value} (h : Own W e v xs) : (v = .slice none 0 0 ∧ xs = []) ∨ ∃ g cap, v = .slice (some ⟨g, 0, none⟩) xs.length cap ∧ xs.length ≤ cap := by
  obtain ⟨h1, h2⟩ := h
  rcases h2 with ⟨rfl, h0⟩ | ⟨g, cap, cur, rfl, _, _, hle, _⟩
  · exact .inl ⟨rfl, List.eq_nil_of_length_eq_zero h0⟩
  · exact .inr ⟨g, cap, rfl, hle⟩
theorem Own.cell {W : World} {e : TypeId} {g n cap : Nat} {xs : List Value} (h : Own W e (.slice (some ⟨g, 0, none⟩) n cap) xs) (j : Nat) (u : Value) (hj : xs[j]? = some u) : W.cell? ⟨g, j, none⟩ = some u := by
  have := World.ownsRow.cells h (g := g) rfl j u hj
  rwa [show (⟨g, 0, none⟩ : Addr).add j = ⟨g, j, none⟩ from by unfold Addr.add; split <;> simp_all] at this
theorem Own.row {W : World} {e : TypeId} {g n cap : Nat} {xs : List Value} (h : Own W e (.slice (some ⟨g, 0, none⟩) n cap) xs) : ∃ cur, W.heap[g]? = some (.cells cur e (0, 0)) ∧ cur.toList.take xs.length = xs ∧ n = xs.length := by
  obtain ⟨h1, h2⟩ := h
  rcases h2 with ⟨h0, _⟩ | ⟨g', cap', cur, hv, _, hg, hle, hm, hs, ht⟩
  · cases h0
  · injection hv with e1 e2 e3
    injection e1 with e1
    injection e1 with e1
    subst e1 e2
    exact ⟨cur, hg, by simpa using ht, rfl⟩
theorem Own.free {W : World} {e : TypeId} {g n cap : Nat} {xs : List Value} (h : Own W e (.slice (some ⟨g, 0, none⟩) n cap) xs) (j : Nat) : W.frozen? ⟨g, j, none⟩ = false := by
  obtain ⟨cur, hg, _⟩ := h.row
  exact frozen_of_row W g j cur e hg
/-- a slice stays what it is where its block stays what it is -/
theorem Own.block {W W' : World} {e : TypeId} {v : Value} {xs : List Value} (h : Own W e v xs) (hb : ∀ g, v.ownBlock = some g → W'.heap[g]? = W.heap[g]?) : Own W' e v xs := by
  obtain ⟨h1, h2⟩ := h
  refine ⟨h1, ?_⟩
  rcases h2 with h0 | ⟨g, cap, cur, rfl, hbg, hg, hr⟩
  · exact .inl h0
  · exact .inr ⟨g, cap, cur, rfl, hbg, (hb g rfl).trans hg, hr⟩
theorem Own.kept {W W' : World} {e : TypeId} {v : Value} {xs : List Value} (h : Own W e v xs) (hb : Below W.heap.size W W') : Own W' e v xs := h.block fun g hg => hb.block g (h.lt g hg)
theorem Own.alloc {W : World} {e : TypeId} {v : Value} {xs : List Value} (h : Own W e v xs) (o : Obj) : Own (W.alloc o) e v xs := h.kept ((Below.refl _ _).alloc (Nat.le_refl _) o)
theorem Own.drewN {W : World} {e : TypeId} {v : Value} {xs : List Value} (h : Own W e v xs) (n : Nat) : Own (W.drewN n) e v xs := h
theorem Own.grown {W W' : World} {e : TypeId} {v : Value} {xs : List Value} {row : Option Nat} (h : Own W e v xs) (hg : W.grownBy W' row) (hne : ∀ g, v.ownBlock = some g → some g ≠ row) : Own W' e v xs :=
  h.block fun g hgb => hg.block g (h.lt g hgb) (hne g hgb)
/-- slices of two kinds of elements lie in two blocks -/
theorem Own.apart {W : World} {e e' : TypeId} {v v' : Value} {xs ys : List Value} (h : Own W e v xs) (h' : Own W e' v' ys) (hne : e ≠ e') (g : Nat) (hg : v.ownBlock = some g) : v'.ownBlock ≠ some g := by
  intro hg'
  rcases h.shape with ⟨rfl, _⟩ | ⟨b, cap, rfl, _⟩
  · cases hg
  · rcases h'.shape with ⟨rfl, _⟩ | ⟨b', cap', rfl, _⟩
    · cases hg'
    · have e1 : b = g := by injection hg
      have e2 : b' = g := by injection hg'
      subst e1 e2
      obtain ⟨c1, q1, _⟩ := h.row
      obtain ⟨c2, q2, _⟩ := h'.row
      rw [q1] at q2
      injection q2 with q2
      injection q2 with _ q3
      exact hne q3

section
variable {P : Program} (w : World)
theorem run_append_block (t ty e : TypeId) (i : TypeInfo) (z : Value) (bytes : Nat) (ht : P.underlying t = some (.slice e)) (hi : P.info? e = some i) (hz : i.zero = some z)
    (hsize : i.size = 1) (hby : i.bytes = bytes) (hzs : z.cells.size = 1) (v : Value) (xs : List Value) (hown : Own w e v xs)
    (a : Addr) (m c : Nat) (news : List Value) (hl : news.length = m) (hnews : ∀ j u, news[j]? = some u → w.cell? (a.add j) = some u) (h1 : ∀ u ∈ news, u.oneCell' = true)
    (hbound : (xs.length + m) * bytes ≤ 140737488355328) (h63 : xs.length + m ≤ maxLen) :
    ∃ v' w', (Builtin.append_ #[t, t] ty #[v, .slice (some a) m c]).run P w = .ok v' w' ∧ Own w' e v' (xs ++ news) ∧ w.grownBy w' v.ownBlock ∧ FreshOr w v v' ∧ (v' = .slice none 0 0 ↔ v = .slice none 0 0 ∧ m = 0) := by
  obtain ⟨v', w', hr, hO, hG, hN⟩ := run_append_own (P := P) w 0 t ty e i z 1 bytes ht hi hz hsize hby hzs (by omega) v xs.length xs hown a m c news (by simpa using hl) hnews h1 h63 hbound (Nat.zero_le _)
  refine ⟨v', w', hr, by unfold Own; rw [List.length_append, hl]; exact hO, hG, ?_, hN⟩
  intro g hg
  rcases hown.2 with ⟨rfl, h0⟩ | ⟨g0, cap, cur, rfl, _, hrow, hle, hcm, hcs, htk⟩
  · have hx : xs = [] := List.eq_nil_of_length_eq_zero h0
    subst hx
    obtain ⟨v2, w2, hr2, hO2, _, _⟩ := run_append_own (P := P) w w.heap.size t ty e i z 1 bytes ht hi hz hsize hby hzs (by omega) (.slice none 0 0) 0 [] (World.ownsRow_nil _ _ _ _) a m c news (by simpa using hl) hnews h1 (by simpa using h63) (by simpa using hbound) (Nat.le_refl _)
    rw [hr] at hr2
    injection hr2 with e1 e2
    subst e1 e2
    exact .inr (World.ownsRow.lt hO2 g hg).1
  · by_cases hroom : xs.length + m ≤ cap
    · have hfit : xs.length * i.size + news.length ≤ cur.size := by rw [hsize, hl, hcs]; omega
      have hr2 := run_append_room (P := P) w t ty e i ht hi g0 xs.length cap cur hrow a m c news (by rw [hsize, hl]; omega) hnews h1 hroom hfit
      rw [hr] at hr2
      injection hr2 with e1 e2
      subst e1
      exact .inl hg
    · have holds : ∀ j u, xs[j]? = some u → w.cell? ((⟨g0, 0, none⟩ : Addr).add j) = some u := World.ownsRow.cells hown (g := g0) rfl
      have hsm : ((xs.length + m : Nat) : Int) ≤ 9223372036854775807 := by simp only [maxLen] at h63; omega
      have hr2 := run_append_grow (P := P) w t ty e i z ht hi hz ⟨g0, 0, none⟩ xs.length cap xs (by rw [hsize]; omega) holds a m c news (by rw [hsize, hl]; omega) hnews (by omega) hsm (growslice_fits (by omega) (by rw [hby]; exact hbound))
      rw [hr] at hr2
      injection hr2 with e1 e2
      subst e1
      injection hg with hg
      exact .inr (by rw [← hg]; exact Nat.le_refl _)
end

theorem wpList_app {P : Program} {w : World} {ops : Array Oper} {rest : List Oper} {o : Oper} {a : Act} {Q : Exit → Act → World → Prop} (hgd : o.guard = none) (s x : Operand) (t : TypeId)
    (ho : o.op = .call { callee := .builtin .append, args := #[s, x], argTypes := #[t, t] })
    (e : TypeId) (i : TypeInfo) (z : Value) (bytes : Nat) (ht : P.underlying t = some (.slice e)) (hi : P.info? e = some i) (hz : i.zero = some z)
    (hsize : i.size = 1) (hby : i.bytes = bytes) (hzs : z.cells.size = 1) (v : Value) (xs : List Value) (hs : a.eval s = v) (hown : Own w e v xs)
    (ad : Addr) (m c : Nat) (news : List Value) (hx : a.eval x = .slice (some ad) m c) (hl : news.length = m) (hnews : ∀ j u, news[j]? = some u → w.cell? (ad.add j) = some u) (h1 : ∀ u ∈ news, u.oneCell' = true)
    (hbound : (xs.length + m) * bytes ≤ 140737488355328) (h63 : xs.length + m ≤ maxLen)
    (h : ∀ v' w', Own w' e v' (xs ++ news) → w.grownBy w' v.ownBlock → FreshOr w v v' → (v' = .slice none 0 0 ↔ v = .slice none 0 0 ∧ m = 0) → wpList P ops Q rest (a.put o.dst v') w') : wpList P ops Q (o :: rest) a w :=
  wpList_plain hgd fun _ hK => by
    obtain ⟨v', w', hr, h2, h3, h4, h5⟩ := run_append_block (P := P) w t o.type e i z bytes ht hi hz hsize hby hzs v xs hown ad m c news hl hnews h1 hbound h63
    unfold Oper.wp execOp
    simp only [ho, resolve, invoke, builtin, Sem.run_bind, Sem.run_pure, Result.andThen_ok, List.map_toArray, List.map_cons, List.map_nil, hs, hx, hr]
    exact hK _ _ (h v' w' h2 h3 h4 h5)
end Go.Proofs.Ytkhglknpcajmiaa
namespace Go.Proofs.Ytkhglknpcajmiaa
open Go.RowKit
set_option linter.unusedSimpArgs false

def ints (xs : List Int) : List Value := xs.map (Value.int .i64)
theorem ints_len (xs : List Int) : (ints xs).length = xs.length := by simp [ints]
theorem ints_at (xs : List Int) (j : Nat) (h : j < xs.length) : (ints xs)[j]? = some (.int .i64 xs[j]) := by simp [ints, h]

/-- a slice's length and, where it has elements, its block -/
theorem Own.view {W : World} {e : TypeId} {v : Value} {xs : List Value} (h : Own W e v xs) : ∃ a cap, v = .slice a xs.length cap ∧ (0 < xs.length → ∃ g, a = some ⟨g, 0, none⟩) := by
  rcases h.shape with ⟨rfl, rfl⟩ | ⟨g, cap, rfl, _⟩
  · exact ⟨none, 0, rfl, fun h0 => absurd h0 (by simp)⟩
  · exact ⟨_, cap, rfl, fun _ => ⟨g, rfl⟩⟩
theorem Own.viewI {W : World} {e : TypeId} {v : Value} {xs : List Int} {n : Nat} (h : Own W e v (ints xs)) (hn : xs.length = n) : ∃ a cap, v = .slice a n cap ∧ (0 < n → ∃ g, a = some ⟨g, 0, none⟩) := by
  have := h.view
  rw [ints_len, hn] at this
  exact this
theorem Own.set {W : World} {e : TypeId} {g n cap : Nat} {xs : List Value} (h : Own W e (.slice (some ⟨g, 0, none⟩) n cap) xs) (k : Nat) (u : Value) : Own (W.setCell ⟨g, k, none⟩ u) e (.slice (some ⟨g, 0, none⟩) n cap) (xs.set k u) := by
  obtain ⟨h1, h2⟩ := h
  rcases h2 with ⟨h0, _⟩ | ⟨g', cap', cur, hv, hb, hg, hle, hm, hs, ht⟩
  · cases h0
  · injection hv with e1 e2 e3
    injection e1 with e1
    injection e1 with e1
    subst e1 e2 e3
    refine ⟨by simp, .inr ⟨g, cap, cur.setIfInBounds k u, by simp, hb, heap_setCell_same W g k _ _ _ hg, by simpa using hle, hm, by simpa using hs, ?_⟩⟩
    simp only [List.length_set, Nat.mul_one] at ht ⊢
    rw [Array.toList_setIfInBounds]
    have : (cur.toList.set k u).take xs.length = (cur.toList.take xs.length).set k u := by
      rw [List.take_set]
    rw [this, ht]

set_option maxRecDepth 100000 in
set_option maxHeartbeats 1000000 in
theorem eqIntS_same (v v' : Value) (xs : List Int) (w : World) (h : Own w 3 v (ints xs)) (h' : Own w 3 v' (ints xs)) (hb : xs.length ≤ 1000000) :
    Calls Try.prog 75 #[v, v'] w fun e w' => e = .returned (.bool true) ∧ ∃ m, w' = w.drewN m := by
  obtain ⟨n, hn⟩ : ∃ n, xs.length = n := ⟨_, rfl⟩
  obtain ⟨a, cap, rfl, ha⟩ := h.viewI hn
  obtain ⟨a', cap', rfl, ha'⟩ := h'.viewI hn
  rw [hn] at hb
  have HO := Lib.hid h
  have HO' := Lib.hid h'
  have HA := Lib.hid ha
  have HA' := Lib.hid ha'
  clear h h' ha ha'
  have HN := Lib.hid hn
  clear hn
  go_enter Try.func75, Try.ntmps75
  go_wp2
  go_loopg [5] n (fun q i wr => ∃ k : Nat, k ≤ n ∧ q + k = n ∧ i = .int .i64 k ∧ ∃ d, wr = w.drewN d)
  case atStart => exact ⟨0, Nat.zero_le _, rfl, rfl, 0, rfl⟩
  case round =>
    obtain ⟨k, hk, hq, rfl, d, rfl⟩ := hrel
    have HQ := Lib.hid hq
    clear hq
    by_cases hlt : k < n
    · obtain ⟨g, rfl⟩ := HA.out (by omega)
      obtain ⟨g', rfl⟩ := HA'.out (by omega)
      have c1 := HO.out.cell k _ (ints_at xs k (by rw [HN.out]; exact hlt))
      have c2 := HO'.out.cell k _ (ints_at xs k (by rw [HN.out]; exact hlt))
      have hki : (k : Int) < n := by omega
      generalize xs[k]'(by rw [HN.out]; exact hlt) = x at c1 c2
      go_wp2
      go_quiet (fail)
      go_wp2
      go_roundg (n - (k + 1))
      case measure => have := HQ.out; omega
      case rel => exact ⟨k + 1, by omega, by have := HQ.out; omega, by go_num, _, rfl⟩
    · obtain rfl : k = n := by omega
      go_wp2
      go_ret
      exact ⟨rfl, d, rfl⟩

/-- the marks from k on, n of them -/
def marks (k : Int) (n : Nat) : List Int := (List.range n).map fun j => k + (j : Nat)
theorem marks_len (k : Int) (n : Nat) : (marks k n).length = n := by simp [marks]
theorem marks_at (k : Int) (n j : Nat) (h : j < n) : (marks k n)[j]? = some (k + j) := by simp [marks, h]
/-- the first j of xs marked -/
def markTo (k : Int) (xs : List Int) (j : Nat) : List Int := marks k j ++ xs.drop j
theorem markTo_len (k : Int) (xs : List Int) (j : Nat) (h : j ≤ xs.length) : (markTo k xs j).length = xs.length := by simp [markTo, marks_len]; omega
theorem markTo_succ (k : Int) (xs : List Int) (j : Nat) (h : j < xs.length) : (markTo k xs j).set j (k + j) = markTo k xs (j + 1) := by
  have e : (List.drop j xs).set 0 (k + j) = (k + j) :: List.drop (j + 1) xs := by rw [List.drop_eq_getElem_cons h]; rfl
  unfold markTo
  rw [List.set_append_right _ _ (by rw [marks_len]; exact Nat.le_refl _), marks_len, Nat.sub_self, e]
  simp [marks, List.range_succ]
theorem markTo_all (k : Int) (xs : List Int) : markTo k xs xs.length = marks k xs.length := by simp [markTo]

set_option maxRecDepth 100000 in
set_option maxHeartbeats 1000000 in
theorem markIntS_any (v : Value) (xs : List Int) (k : Int) (w : World) (h : Own w 3 v (ints xs)) (hb : xs.length ≤ 1000000) (hk0 : 0 ≤ k) (hk1 : k ≤ 1000000) :
    Calls Try.prog 76 #[v, .int .i64 k] w fun e w' => e = .returned (.int .i64 (k + xs.length)) ∧ Own w' 3 v (ints (marks k xs.length)) ∧ w.grownBy w' v.ownBlock := by
  obtain ⟨n, hn⟩ : ∃ n, xs.length = n := ⟨_, rfl⟩
  obtain ⟨a, cap, rfl, ha⟩ := h.viewI hn
  rw [hn] at hb ⊢
  have HO := Lib.hid h
  have HA := Lib.hid ha
  clear h ha
  have HN := Lib.hid hn
  clear hn
  go_enter Try.func76, Try.ntmps76
  go_wp2
  go_loopg [1, 5] n (fun q kk i wr => ∃ j : Nat, j ≤ n ∧ q + j = n ∧ i = .int .i64 j ∧ kk = .int .i64 (k + j) ∧ Own wr 3 (.slice a n cap) (ints (markTo k xs j)) ∧ w.grownBy wr (Value.slice a n cap).ownBlock)
  case atStart => exact ⟨0, Nat.zero_le _, rfl, rfl, by simp, by simpa [markTo, marks] using HO.out, ⟨rfl, rfl, rfl, Nat.le_refl _, fun _ _ _ => rfl⟩⟩
  case round =>
    obtain ⟨j, hj, hq, rfl, rfl, ho, hg⟩ := hrel
    have HQ := Lib.hid hq
    have HO2 := Lib.hid ho
    have HG := Lib.hid hg
    clear hq ho hg
    by_cases hlt : j < n
    · obtain ⟨g, rfl⟩ := HA.out (by omega)
      have c1 := HO2.out.cell j _ (ints_at (markTo k xs j) j (by rw [markTo_len k xs j (by rw [HN.out]; exact hj), HN.out]; exact hlt))
      have f1 := HO2.out.free j
      have hki : (j : Int) < n := by omega
      generalize (markTo k xs j)[j]'(by rw [markTo_len k xs j (by rw [HN.out]; exact hj), HN.out]; exact hlt) = x at c1
      go_wp2
      go_roundg (n - (j + 1))
      case measure => have := HQ.out; omega
      case rel =>
        refine ⟨j + 1, by omega, by have := HQ.out; omega, by go_num, by go_num, ?_, ?_⟩
        · have := HO2.out.set j (.int .i64 (k + j))
          rw [show (ints (markTo k xs j)).set j (.int .i64 (k + j)) = ints (markTo k xs (j + 1)) from by rw [← markTo_succ k xs j (by rw [HN.out]; exact hlt)]; simp [ints, List.map_set]] at this
          exact this
        · exact ⟨HG.out.os, HG.out.tape, HG.out.output, by simpa using HG.out.size, fun b hb hne => (Below.heap_setCell _ _ _ _ (fun e => hne (by simp [Value.ownBlock, e]))).trans (HG.out.block b hb hne)⟩
    · obtain rfl : j = n := by omega
      have hfin := HO2.out
      rw [← HN.out, markTo_all, HN.out] at hfin
      have HF := Lib.hid hfin
      clear hfin
      go_wp2
      go_ret
      exact ⟨rfl, HF.out, HG.out⟩

set_option maxRecDepth 100000 in
set_option maxHeartbeats 1000000 in
theorem heldIntS_any (v : Value) (n : Nat) (k : Int) (w : World) (h : Own w 3 v (ints (marks k n))) (hb : n ≤ 1000000) (hk0 : 0 ≤ k) (hk1 : k ≤ 1000000) :
    Calls Try.prog 77 #[v, .int .i64 k] w fun e w' => e = .returned (.int .i64 (k + n)) ∧ w = w' := by
  obtain ⟨a, cap, rfl, ha⟩ := h.viewI (marks_len k n)
  have HO := Lib.hid h
  have HA := Lib.hid ha
  clear h ha
  go_enter Try.func77, Try.ntmps77
  go_wp2
  go_loopg [1, 5] n (fun q kk i wr => ∃ j : Nat, j ≤ n ∧ q + j = n ∧ i = .int .i64 j ∧ kk = .int .i64 (k + j) ∧ w = wr)
  case atStart => exact ⟨0, Nat.zero_le _, rfl, rfl, by simp, rfl⟩
  case round =>
    obtain ⟨j, hj, hq, rfl, rfl, rfl⟩ := hrel
    have HQ := Lib.hid hq
    clear hq
    by_cases hlt : j < n
    · obtain ⟨g, rfl⟩ := HA.out (by omega)
      have c1 := HO.out.cell j (.int .i64 (k + j)) (by rw [ints_at _ j (by rw [marks_len]; exact hlt)]; simp [marks])
      have hki : (j : Int) < n := by omega
      go_wp2
      go_roundg (n - (j + 1))
      case measure => have := HQ.out; omega
      case rel => exact ⟨j + 1, by omega, by have := HQ.out; omega, by go_num, by go_num, rfl⟩
    · obtain rfl : j = n := by omega
      go_wp2
      go_ret
      exact ⟨rfl, rfl⟩
end Go.Proofs.Ytkhglknpcajmiaa
namespace Go.Proofs.Ytkhglknpcajmiaa
open Go.RowKit
set_option linter.unusedSimpArgs false

def nilV : Value := .slice none 0 0
/-- v is a slice of n slices that read as F; the inner slices are vs; no two lie in one block; all blocks lie from B on -/
structure Lists (B : Nat) (W : World) (v : Value) (vs : List Value) (n : Nat) (F : Nat → List Int) : Prop where
  outer : Own W 36 v vs
  len : vs.length = n
  inner : ∀ i, i < n → Own W 3 (vs.getD i nilV) (ints (F i))
  apart : ∀ i j g, i < j → j < n → (vs.getD i nilV).ownBlock = some g → (vs.getD j nilV).ownBlock ≠ some g
  base : ∀ g, v.ownBlock = some g → B ≤ g
  ibase : ∀ i g, i < n → (vs.getD i nilV).ownBlock = some g → B ≤ g
theorem Lists.kept {B : Nat} {W W' : World} {v : Value} {vs : List Value} {n : Nat} {F : Nat → List Int} (h : Lists B W v vs n F) (hb : Below W.heap.size W W') : Lists B W' v vs n F :=
  ⟨h.outer.kept hb, h.len, fun i hi => (h.inner i hi).kept hb, h.apart, h.base, h.ibase⟩
/-- where the blocks below C alone are known to stay, and all of ours lie below C -/
theorem Lists.keptTo {B C : Nat} {W W' : World} {v : Value} {vs : List Value} {n : Nat} {F : Nat → List Int} (h : Lists B W v vs n F) (hC : W.heap.size ≤ C) (hb : Below C W W') : Lists B W' v vs n F :=
  h.kept (hb.mono hC)
theorem Lists.congr {B : Nat} {W : World} {v : Value} {vs : List Value} {n : Nat} {F G : Nat → List Int} (h : Lists B W v vs n F) (e : ∀ i, i < n → F i = G i) : Lists B W v vs n G :=
  ⟨h.outer, h.len, fun i hi => by rw [← e i hi]; exact h.inner i hi, h.apart, h.base, h.ibase⟩
theorem Lists.nil (B : Nat) (W : World) (F : Nat → List Int) : Lists B W nilV [] 0 F :=
  ⟨Own.nil W _, rfl, fun i hi => absurd hi (by omega), fun i j g _ hj => absurd hj (by omega), fun g hg => by simp [nilV, Value.ownBlock] at hg, fun i g hi => absurd hi (by omega)⟩
theorem Lists.at {B : Nat} {W : World} {v : Value} {vs : List Value} {n : Nat} {F : Nat → List Int} (h : Lists B W v vs n F) (i : Nat) (hi : i < n) : vs[i]? = some (vs.getD i nilV) := by
  have := h.len
  rw [List.getD_eq_getElem?_getD, List.getElem?_eq_getElem (by omega)]; rfl
theorem Lists.view {B : Nat} {W : World} {v : Value} {vs : List Value} {n : Nat} {F : Nat → List Int} (h : Lists B W v vs n F) : ∃ a cap, v = .slice a n cap ∧ (0 < n → ∃ g, a = some ⟨g, 0, none⟩) := by
  have := h.outer.view
  rw [h.len] at this
  exact this
/-- one inner slice turned, all else as it was -/
theorem Lists.turn {B : Nat} {W W' : World} {v : Value} {vs : List Value} {n : Nat} {F G : Nat → List Int} (h : Lists B W v vs n F) (k : Nat) (hk : k < n) (hg : W.grownBy W' (vs.getD k nilV).ownBlock)
    (hnew : Own W' 3 (vs.getD k nilV) (ints (G k))) (hold : ∀ i, i < n → i ≠ k → G i = F i) : Lists B W' v vs n G := by
  refine ⟨h.outer.grown hg fun g hv e => ?_, h.len, fun i hi => ?_, h.apart, h.base, h.ibase⟩
  · exact (h.outer.apart (h.inner k hk) (by decide) g hv) e.symm
  · by_cases e : i = k
    · subst e; exact hnew
    · rw [hold i hi e]
      refine (h.inner i hi).grown hg fun g hv q => ?_
      by_cases hlt : i < k
      · exact h.apart i k g hlt hk hv q.symm
      · exact h.apart k i g (by omega) hi q.symm hv

/-- how many numbers stand ahead of list i -/
def offL (L : Nat → Nat) : Nat → Nat
  | 0 => 0
  | i + 1 => offL L i + L i
theorem offL_mono (L : Nat → Nat) : ∀ {i j : Nat}, i ≤ j → offL L i ≤ offL L j
  | i, j, h => by
    induction h with
    | refl => exact Nat.le_refl _
    | step _ ih => exact Nat.le_trans ih (Nat.le_add_right _ _)
def markF (F : Nat → List Int) (k : Int) (j : Nat) (i : Nat) : List Int := if i < j then marks (k + (offL (fun i => (F i).length) i : Nat)) (F i).length else F i

end Go.Proofs.Ytkhglknpcajmiaa
namespace Go.Proofs.Ytkhglknpcajmiaa
open Go.RowKit
set_option linter.unusedSimpArgs false

end Go.Proofs.Ytkhglknpcajmiaa
namespace Go.Proofs.Ytkhglknpcajmiaa
open Go.RowKit

theorem infoInt : (Try.prog.info? 3).map (fun i => (i.zero, i.size, i.bytes)) = some (some (.int .i64 0), 1, 8) := by kernel_rfl
theorem infoInts : (Try.prog.info? 36).map (fun i => (i.zero, i.size, i.bytes)) = some (some (.slice none 0 0), 1, 24) := by kernel_rfl
theorem infoText : (Try.prog.info? 9).map (fun i => (i.zero, i.size, i.bytes)) = some (some (.string ⟨#[]⟩), 1, 16) := by kernel_rfl
theorem infoByte : (Try.prog.info? 5).map (fun i => (i.zero, i.size, i.bytes)) = some (some (.int .u8 0), 1, 1) := by kernel_rfl

/-- a slice of the call's own: its block lies from B on -/
structure New (B : Nat) (W : World) (e : TypeId) (v : Value) (xs : List Value) : Prop where
  own : Own W e v xs
  base : ∀ g, v.ownBlock = some g → B ≤ g
theorem New.nil (B : Nat) (W : World) (e : TypeId) : New B W e (.slice none 0 0) [] := ⟨Own.nil _ _, fun g hg => by simp [Value.ownBlock] at hg⟩
theorem New.kept {B : Nat} {W W' : World} {e : TypeId} {v : Value} {xs : List Value} (h : New B W e v xs) (hb : Below W.heap.size W W') : New B W' e v xs := ⟨h.own.kept hb, h.base⟩
theorem New.drewN {B : Nat} {W : World} {e : TypeId} {v : Value} {xs : List Value} (h : New B W e v xs) (n : Nat) : New B (W.drewN n) e v xs := ⟨h.own, h.base⟩
theorem New.lower {B B' : Nat} {W : World} {e : TypeId} {v : Value} {xs : List Value} (h : New B W e v xs) (hB : B' ≤ B) : New B' W e v xs := ⟨h.own, fun g hg => Nat.le_trans hB (h.base g hg)⟩

/-- what an append of one element leaves: every block but the slice's own stands -/
def KeptBut (W W' : World) (v : Value) : Prop := ∀ k, k < W.heap.size → v.ownBlock ≠ some k → W'.heap[k]? = W.heap[k]?
theorem KeptBut.row {W W' : World} {v : Value} {b : Nat} {T : TypeId} {cs : Array Value} (h : KeptBut W W' v) (H : RowAt W b T cs) (hne : v.ownBlock ≠ some b) : RowAt W' b T cs := (h b H.lt hne).trans H

theorem wpList_app1 {P : Program} {wr : World} {ops : Array Oper} {rest : List Oper} {o : Oper} {a : Act} {Q : Exit → Act → World → Prop} {u : Value} (hgd : o.guard = none) (s x : Operand) (t : TypeId)
    (ho : o.op = .call { callee := .builtin .append, args := #[s, x], argTypes := #[t, t] })
    (e : TypeId) (i : TypeInfo) (z : Value) (bytes : Nat) (ht : P.underlying t = some (.slice e)) (hi : P.info? e = some i) (hz : i.zero = some z)
    (hsize : i.size = 1) (hby : i.bytes = bytes) (hzs : z.cells.size = 1) (B : Nat) (w0 : World) (v : Value) (xs : List Value) (hs : a.eval s = v) (hnew : New B wr e v xs)
    (hx : a.eval x = .slice (some ⟨wr.heap.size, 0, none⟩) 1 1) (h1 : u.oneCell' = true) (hB : B ≤ wr.heap.size) (hbel : Below B w0 wr)
    (hlen : xs.length ≤ 100000) (hbytes : bytes ≤ 1000)
    (h : ∀ v' w', New B w' e v' (xs ++ [u]) → KeptBut wr w' v → Below B w0 w' → wr.heap.size ≤ w'.heap.size → wpList P ops Q rest (a.put o.dst v') w') : wpList P ops Q (o :: rest) a (wr.alloc (.cells #[u] e)) := by
  refine wpList_app hgd s x t ho e i z bytes ht hi hz hsize hby hzs v xs hs (hnew.own.alloc _) ⟨wr.heap.size, 0, none⟩ 1 1 [u] hx rfl ?_ ?_ ?_ ?_ ?_
  · intro j y hj
    have : j = 0 := by
      have := (List.getElem?_eq_some_iff.1 hj).1
      simpa using this
    subst this
    simp at hj
    subst hj
    rw [show (⟨wr.heap.size, 0, none⟩ : Addr).add 0 = ⟨wr.heap.size, 0, none⟩ from rfl]
    exact (RowAt.new wr e #[u]).cell 0 rfl
  · intro y hy; simp at hy; subst hy; exact h1
  · have : (xs.length + 1) * bytes ≤ 100001 * 1000 := Nat.mul_le_mul (by omega) hbytes
    omega
  · unfold maxLen; omega
  · intro v' w' hown hgrow hfresh _
    have hbase : ∀ g, v'.ownBlock = some g → B ≤ g := fun g hg => by
      rcases hfresh g hg with h | h
      · exact hnew.base g h
      · simp at h; omega
    refine h v' w' ⟨hown, hbase⟩ (fun k hk hne => ?_) ?_ ?_
    · exact (hgrow.block k (by simp; omega) (fun e => hne e.symm)).trans (heap_alloc_old wr _ hk)
    · exact (hbel.alloc hB _).grown hgrow (by simp; omega) (fun g hg => hnew.base g hg)
    · have := hgrow.size
      simp at this
      omega
end Go.Proofs.Ytkhglknpcajmiaa
namespace Go.Proofs.Ytkhglknpcajmiaa
open Go.RowKit

theorem wpList_appN {P : Program} {w : World} {ops : Array Oper} {rest : List Oper} {o : Oper} {a : Act} {Q : Exit → Act → World → Prop} (hgd : o.guard = none) (s x : Operand) (t : TypeId)
    (ho : o.op = .call { callee := .builtin .append, args := #[s, x], argTypes := #[t, t] })
    (e : TypeId) (i : TypeInfo) (z : Value) (bytes : Nat) (ht : P.underlying t = some (.slice e)) (hi : P.info? e = some i) (hz : i.zero = some z)
    (hsize : i.size = 1) (hby : i.bytes = bytes) (hzs : z.cells.size = 1) (B : Nat) (w0 : World) (v : Value) (xs : List Value) (hs : a.eval s = v) (hnew : New B w e v xs)
    (ad : Addr) (m c : Nat) (news : List Value) (hx : a.eval x = .slice (some ad) m c) (hl : news.length = m) (hnews : ∀ j u, news[j]? = some u → w.cell? (ad.add j) = some u) (h1 : ∀ u ∈ news, u.oneCell' = true) (hB : B ≤ w.heap.size) (hbel : Below B w0 w)
    (hlen : xs.length + m ≤ 100000) (hbytes : bytes ≤ 1000)
    (h : ∀ v' w', New B w' e v' (xs ++ news) → KeptBut w w' v → Below B w0 w' → w.heap.size ≤ w'.heap.size → (∀ g, v'.ownBlock = some g → v.ownBlock = some g ∨ w.heap.size ≤ g) → wpList P ops Q rest (a.put o.dst v') w') : wpList P ops Q (o :: rest) a w := by
  refine wpList_app hgd s x t ho e i z bytes ht hi hz hsize hby hzs v xs hs hnew.own ad m c news hx hl hnews h1 ?_ ?_ ?_
  · have : (xs.length + m) * bytes ≤ 100000 * 1000 := Nat.mul_le_mul hlen hbytes
    omega
  · unfold maxLen; omega
  · intro v' w' hown hgrow hfresh _
    have hbase : ∀ g, v'.ownBlock = some g → B ≤ g := fun g hg => by
      rcases hfresh g hg with h | h
      · exact hnew.base g h
      · omega
    exact h v' w' ⟨hown, hbase⟩ (fun k hk hne => hgrow.block k hk (fun e => hne e.symm)) (hbel.grown hgrow hB (fun g hg => hnew.base g hg)) hgrow.size hfresh
/-- an append of nil -/
theorem wpList_app0 {P : Program} {w : World} {ops : Array Oper} {rest : List Oper} {o : Oper} {a : Act} {Q : Exit → Act → World → Prop} (hgd : o.guard = none) (s x : Operand) (t : TypeId)
    (ho : o.op = .call { callee := .builtin .append, args := #[s, x], argTypes := #[t, t] })
    (e : TypeId) (i : TypeInfo) (ht : P.underlying t = some (.slice e)) (hi : P.info? e = some i) (B : Nat) (v : Value) (xs : List Value) (hs : a.eval s = v) (hnew : New B w e v xs) (hx : a.eval x = .slice none 0 0)
    (h : wpList P ops Q rest (a.put o.dst v) w) : wpList P ops Q (o :: rest) a w :=
  wpList_append_own_none hgd s x t ho 0 e i 1 ht hi v xs.length xs hs hnew.own hx h
end Go.Proofs.Ytkhglknpcajmiaa
