/- A map whose keys are rows: which rows it holds. -/
import Derived.Maps.RangeWalk
import Derived.DeepKeys4
import Derived.Test.YtnoepobbecobbaaSG
namespace Go.Proofs.Ytnoepobbecobbaa
open Go.RowKit Go.Maps
set_option linter.unusedSimpArgs false
set_option linter.unusedVariables false

theorem laidOutK : laidOutB Try.prog = true := by kernel_rfl
theorem rowDigits : (80 : TypeId) < Try.prog.types.size := of_decide_eq_true (by kernel_rfl)
theorem wideDigits : (match Try.prog.underlying 80 with | some (.array _ _) | some (.struct _) => true | _ => false) = true := by rw [Try.underlying80]
set_option maxRecDepth 100000 in
theorem keyLaw : WideMaps.KeyLaw Try.prog 80 := deep_law_laid laidOutK (m := 2) (by omega) rowDigits (by kernel_rfl) wideDigits
theorem digKeyed : Keyed Try.prog 80 := Keyed.of_law keyLaw
/-- what a row reads as, as a key -/
def kf (f : Nat → Nat) : Lit := .string (keyBytes [.int .u8 (f 0), .int .u8 (f 1), .int .u8 (f 2), .int .u8 (f 3), .int .u8 (f 4), .int .u8 (f 5), .int .u8 (f 6), .int .u8 (f 7)])
theorem cellsDigits : Try.prog.cellsOf 80 = 8 := by kernel_rfl
theorem cellsByte : Try.prog.cellsOf 5 = 1 := by kernel_rfl
theorem keyTypeDigits : Try.prog.keyType 80 = true := by kernel_rfl
theorem wf_u8 {x : Nat} (h : x < 256) : (Lit.int .u8 x).wf = true := WalkArith.wf_u8 (by omega)
set_option maxRecDepth 100000 in
theorem keyOf_row {f : Nat → Nat} (hf : ∀ i, f i < 256) : keyOf Try.prog 80 (.agg (dig8 f)) = some (kf f) := by
  obtain ⟨d, hd⟩ : ∃ d, Try.prog.types.size + 1 = d + 2 := ⟨Try.prog.types.size - 1, by have h : 1 ≤ Try.prog.types.size := of_decide_eq_true (by kernel_rfl); omega⟩
  have hb : ∀ x : Nat, x < 256 → Try.prog.keyLits (d + 1) 5 [.int .u8 x] = some [.int .u8 x] := fun x hx => by
    simp [Program.keyLits, Try.underlying5, wf_u8 hx]
  have hk : Try.prog.keyLits (d + 2) 80 (dig8 f).toList = some [.int .u8 (f 0), .int .u8 (f 1), .int .u8 (f 2), .int .u8 (f 3), .int .u8 (f 4), .int .u8 (f 5), .int .u8 (f 6), .int .u8 (f 7)] := by
    unfold Program.keyLits
    rw [Try.underlying80]
    simp only [cellsDigits, cellsByte, dig8]
    simp [List.range, List.range.loop, List.mapM_cons, hb _ (hf 0), hb _ (hf 1), hb _ (hf 2), hb _ (hf 3), hb _ (hf 4), hb _ (hf 5), hb _ (hf 6), hb _ (hf 7)]
  have hfo : (Value.agg (dig8 f)).formed Try.prog 80 = true := by simp [Value.formed, Try.underlying80, cellsDigits, dig8]
  unfold keyOf
  rw [Try.underlying80]
  simp only [keyTypeDigits, hfo, Bool.and_true, if_true]
  rw [hd]
  show (Try.prog.keyLits (d + 2) 80 (dig8 f).toList).map _ = _
  rw [hk]
  rfl
set_option maxRecDepth 100000 in
theorem kf_inj {n : Nat} {f g : Nat → Nat} (hf : IsRow n f) (hg : IsRow n g) (e : kf f = kf g) : f = g := by
  have h1 := keyOf_row hf.byte
  have h2 := keyOf_row hg.byte
  rw [e] at h1
  have h3 := digKeyed.inj h1 h2
  injection h3 with h3
  refine row_ext hf hg fun i hi => ?_
  have hi8 : i < 8 := by have := hf.eight; omega
  have a1 := dig8_get f i hi8
  rw [h3, dig8_get g i hi8] at a1
  injection a1 with a1
  injection a1 with _ a1
  exact Int.ofNat.inj a1.symm
theorem isKey_kf {f : Nat → Nat} (hf : ∀ i, f i < 256) : WideAt.IsKeyLit (kf f) := digKeyed.key (keyOf_row hf)

/-- how the map's elements read -/
noncomputable abbrev bE : Value → Option (DataW Unit × List MemPlace) := plainElem Try.prog 4
set_option maxRecDepth 100000 in
theorem zeroBool (w : World) : (zeroValue 4).run Try.prog w = .ok (.bool false) w := by kernel_rfl
set_option maxRecDepth 100000 in
theorem bE_inv {v : Value} {x : Bool} {ps : List MemPlace} (h : bE v = some (.lit (.bool x), ps)) : v = .bool x := by
  unfold bE plainElem at h
  rw [Try.underlying4] at h
  cases v <;> simp at h
  rw [h.1]

open Classical in
/-- whether a row is on a list -/
noncomputable def inB (f : Nat → Nat) (S : List (Nat → Nat)) : Bool := decide (f ∈ S)
theorem inB_iff {f : Nat → Nat} {S : List (Nat → Nat)} : inB f S = true ↔ f ∈ S := by simp [inB]
theorem inB_no {f : Nat → Nat} {S : List (Nat → Nat)} : inB f S = false ↔ f ∉ S := by simp [inB]

/-- block b is a map that holds just the rows of S -/
structure SetAt (W : World) (n b : Nat) (S : List (Nat → Nat)) : Prop where
  rows : Rows n S
  nodup : S.Nodup
  holds : ∃ es : List (Lit × DataW Unit), W.ownsMap Try.prog 80 bE b S.length (.map es) ∧ (∀ k, (∃ p ∈ es, p.1 = k) ↔ ∃ f ∈ S, kf f = k) ∧ ∀ p ∈ es, p.2 = .lit (.bool true)

theorem owns_tight {W : World} {b m : Nat} {es : List (Lit × DataW Unit)} (h : W.ownsMap Try.prog 80 bE b m (.map es)) : W.ownsMap Try.prog 80 bE b es.length (.map es) := by
  obtain ⟨xs, clock, hb, F, hs, hD⟩ := h
  refine ⟨xs, clock, hb, F, ?_, hD⟩
  injection hD with hD
  rw [hD, length_sorted]
  simp
theorem owns_nodup {W : World} {b m : Nat} {es : List (Lit × DataW Unit)} (h : W.ownsMap Try.prog 80 bE b m (.map es)) : (es.map (·.1)).Nodup := by
  obtain ⟨es', e, hp⟩ := h.tidy digKeyed
  injection e with e
  subst e
  exact List.pairwise_map.2 hp
/-- of the same keys, as long as each other -/
theorem set_len {n : Nat} {S : List (Nat → Nat)} {es : List (Lit × DataW Unit)} (hr : Rows n S) (hn : S.Nodup) (he : (es.map (·.1)).Nodup) (hk : ∀ k, (∃ p ∈ es, p.1 = k) ↔ ∃ f ∈ S, kf f = k) : es.length = S.length := by
  have h1 : (S.map kf).Nodup := by
    refine List.pairwise_map.2 (List.Pairwise.imp_of_mem ?_ hn)
    intro a b ha hb hne e
    exact hne (kf_inj (hr a ha) (hr b hb) e)
  have := (List.perm_ext_iff_of_nodup he h1).2 (fun k => by
    rw [List.mem_map, List.mem_map]
    exact hk k)
  have := this.length_eq
  simpa using this
theorem SetAt.mk' {W : World} {n b m : Nat} {S : List (Nat → Nat)} {es : List (Lit × DataW Unit)} (hr : Rows n S) (hn : S.Nodup) (h : W.ownsMap Try.prog 80 bE b m (.map es)) (hk : ∀ k, (∃ p ∈ es, p.1 = k) ↔ ∃ f ∈ S, kf f = k) (ht : ∀ p ∈ es, p.2 = .lit (.bool true)) : SetAt W n b S :=
  ⟨hr, hn, es, by rw [← set_len hr hn (owns_nodup h) hk]; exact owns_tight h, hk, ht⟩
theorem SetAt.made (w : World) (n : Nat) : SetAt (w.alloc (.map #[] 0)) n w.heap.size [] :=
  ⟨fun x hx => by simp at hx, List.nodup_nil, [], World.ownsMap_made w _ _ _, fun k => by simp, fun p hp => by simp at hp⟩
theorem SetAt.lt {W : World} {n b : Nat} {S : List (Nat → Nat)} (h : SetAt W n b S) : b < W.heap.size := by
  obtain ⟨_, _, es, h, _⟩ := h
  exact h.lt
theorem SetAt.grown {W W' : World} {n b : Nat} {S : List (Nat → Nat)} {row : Option Nat} (h : SetAt W n b S) (hg : W.grownBy W' row) (hne : some b ≠ row) : SetAt W' n b S := by
  obtain ⟨h1, h2, es, h3, h4, h5⟩ := h
  exact ⟨h1, h2, es, h3.kept hg hne, h4, h5⟩
theorem SetAt.block {W W' : World} {n b : Nat} {S : List (Nat → Nat)} (h : SetAt W n b S) (hb : W'.heap[b]? = W.heap[b]?) : SetAt W' n b S := by
  obtain ⟨h1, h2, es, ⟨xs, clock, h3, F, hs, hD⟩, h4, h5⟩ := h
  exact ⟨h1, h2, es, ⟨xs, clock, hb.trans h3, F, hs, hD⟩, h4, h5⟩
theorem SetAt.kept {W W' : World} {n b : Nat} {S : List (Nat → Nat)} (h : SetAt W n b S) (hb : Below W.heap.size W W') : SetAt W' n b S := h.block (hb.block b h.lt)
theorem SetAt.same {W : World} {n b : Nat} {S S' : List (Nat → Nat)} (h : SetAt W n b S) (hr : S'.Perm S) : SetAt W n b S' := by
  obtain ⟨h1, h2, es, h3, h4, h5⟩ := h
  refine ⟨h1.perm hr, hr.symm.nodup_iff.1 h2, es, by rw [hr.length_eq]; exact h3, fun k => ?_, h5⟩
  rw [h4 k]
  exact ⟨fun ⟨f, hf, e⟩ => ⟨f, hr.mem_iff.2 hf, e⟩, fun ⟨f, hf, e⟩ => ⟨f, hr.mem_iff.1 hf, e⟩⟩
theorem find_key {es : List (Lit × DataW Unit)} (k : Lit) (hk : WideAt.IsKeyLit k) : (∃ p ∈ es, p.1 = k) → ∃ p ∈ es, es.find? (fun p => p.1.sameKey k) = some p := by
  rintro ⟨p, hp, rfl⟩
  cases h : es.find? (fun q => q.1.sameKey p.1) with
  | none =>
    have := List.find?_eq_none.1 h p hp
    rw [WideAt.sameKey_self hk] at this
    exact absurd rfl this
  | some q => exact ⟨q, List.mem_of_find?_eq_some h, rfl⟩

set_option maxRecDepth 100000 in
/-- a row is looked up -/
theorem SetAt.look {W : World} {n b : Nat} {S : List (Nat → Nat)} (h : SetAt W n b S) {f : Nat → Nat} (hf : IsRow n f) : (Instr.lookup 86 (.map (some b)) (.agg (dig8 f)) false).run Try.prog W = .ok (.bool (inB f S)) W := by
  obtain ⟨h1, h2, es, h3, h4, h5⟩ := h
  obtain ⟨v, ps, hr, hv⟩ := h3.lookup digKeyed Try.underlying86 (zeroBool W) (zd := .lit (.bool false)) (zp := []) (plainElem_bool Try.underlying4 false) (keyOf_row hf.byte)
  rw [hr]
  have : (DataW.map es).atKey (kf f) (.lit (.bool false)) = .lit (.bool (inB f S)) := by
    unfold DataW.atKey
    by_cases hm : f ∈ S
    · obtain ⟨p, hp, e⟩ := find_key (kf f) (isKey_kf hf.byte) ((h4 (kf f)).2 ⟨f, hm, rfl⟩)
      simp only [e, inB_iff.2 hm]
      exact h5 p hp
    · have : es.find? (fun p => p.1.sameKey (kf f)) = none := by
        rw [List.find?_eq_none]
        intro p hp hs
        obtain ⟨g, hg, e⟩ := (h4 p.1).1 ⟨p, hp, rfl⟩
        rw [WideAt.sameKey_eq hs] at e
        exact hm (kf_inj (h1 g hg) hf e ▸ hg)
      simp only [this, inB_no.2 hm]
  rw [this] at hv
  rw [bE_inv hv]
theorem mem_put {es : List (Lit × DataW Unit)} {k : Lit} {d : DataW Unit} {q : Lit × DataW Unit} : q ∈ DataW.insert (k, d) (es.filter fun p => !p.1.sameKey k) ↔ q = (k, d) ∨ (q ∈ es ∧ q.1.sameKey k = false) := by
  rw [ChangeMaps.mem_insert_iff, List.mem_filter]
  simp
open Classical in
/-- what a set holds when a row is put into it -/
noncomputable def withF (S : List (Nat → Nat)) (f : Nat → Nat) : List (Nat → Nat) := if f ∈ S then S else S ++ [f]
theorem mem_with {S : List (Nat → Nat)} {f g : Nat → Nat} : g ∈ withF S f ↔ g ∈ S ∨ g = f := by
  unfold withF
  split
  · rename_i h
    exact ⟨.inl, fun hg => by rcases hg with hg | rfl <;> assumption⟩
  · simp
theorem with_in {S : List (Nat → Nat)} {f : Nat → Nat} (h : f ∈ S) : withF S f = S := by simp [withF, h]
theorem with_new {S : List (Nat → Nat)} {f : Nat → Nat} (h : f ∉ S) : withF S f = S ++ [f] := by simp [withF, h]
theorem nodup_with {S : List (Nat → Nat)} {f : Nat → Nat} (h : S.Nodup) : (withF S f).Nodup := by
  unfold withF
  split
  · exact h
  · rename_i hf
    exact List.nodup_append.2 ⟨h, by simp, fun a ha b hb => by rintro rfl; simp at hb; exact hf (hb ▸ ha)⟩
theorem rows_with {n : Nat} {S : List (Nat → Nat)} {f : Nat → Nat} (h : Rows n S) (hf : IsRow n f) : Rows n (withF S f) := fun x hx => by
  rcases mem_with.1 hx with hx | rfl
  · exact h x hx
  · exact hf
/-- a row is put into it -/
theorem SetAt.put {W : World} {n b : Nat} {S : List (Nat → Nat)} (h : SetAt W n b S) (hl : S.length < maxLen) {f : Nat → Nat} (hf : IsRow n f) :
    ∃ W', (Instr.mapUpdate 86 (.map (some b)) (.agg (dig8 f)) (.bool true)).run Try.prog W = .ok () W' ∧ SetAt W' n b (withF S f) ∧ W.grownBy W' (some b) := by
  obtain ⟨h1, h2, es, h3, h4, h5⟩ := h
  obtain ⟨W', hr, ho, hg⟩ := h3.update digKeyed Try.underlying86 hl (keyOf_row hf.byte) (plainElem_bool (H := Unit) Try.underlying4 true)
  refine ⟨W', hr, SetAt.mk' (rows_with h1 hf) (nodup_with h2) ho (fun k => ?_) (fun p hp => ?_), hg⟩
  · constructor
    · rintro ⟨p, hp, rfl⟩
      rcases mem_put.1 hp with rfl | ⟨hp, _⟩
      · exact ⟨f, mem_with.2 (.inr rfl), rfl⟩
      · obtain ⟨g, hg, e⟩ := (h4 p.1).1 ⟨p, hp, rfl⟩
        exact ⟨g, mem_with.2 (.inl hg), e⟩
    · rintro ⟨g, hg, rfl⟩
      by_cases e : g = f
      · exact ⟨_, mem_put.2 (.inl rfl), by rw [e]⟩
      · have hgS : g ∈ S := by
          rcases mem_with.1 hg with h | h
          · exact h
          · exact absurd h e
        obtain ⟨p, hp, ep⟩ := (h4 (kf g)).2 ⟨g, hgS, rfl⟩
        refine ⟨p, mem_put.2 (.inr ⟨hp, ?_⟩), ep⟩
        rw [ep]
        exact sameKey_ne fun e2 => e (kf_inj (h1 g hgS) hf e2)
  · rcases mem_put.1 hp with rfl | ⟨hp, _⟩
    · rfl
    · exact h5 p hp
open Classical in
/-- what is left when a row is struck -/
noncomputable def lessF (S : List (Nat → Nat)) (f : Nat → Nat) : List (Nat → Nat) := S.filter fun g => decide (g ≠ f)
theorem mem_less {S : List (Nat → Nat)} {f g : Nat → Nat} : g ∈ lessF S f ↔ g ∈ S ∧ g ≠ f := by simp [lessF]
/-- a row is struck -/
theorem SetAt.drop {W : World} {n b : Nat} {S : List (Nat → Nat)} (h : SetAt W n b S) {f : Nat → Nat} (hf : IsRow n f) (ty : TypeId) :
    ∃ W', (Builtin.delete_ #[86, 80] ty #[.map (some b), .agg (dig8 f)]).run Try.prog W = .ok (.tuple #[]) W' ∧ SetAt W' n b (lessF S f) ∧ W.grownBy W' (some b) := by
  obtain ⟨h1, h2, es, h3, h4, h5⟩ := h
  obtain ⟨W', hr, ho, ht⟩ := h3.drop digKeyed Try.underlying86 (keyOf_row hf.byte) ty
  refine ⟨W', hr, SetAt.mk' (fun x hx => h1 x (mem_less.1 hx).1) (h2.filter _) ho (fun k => ?_) (fun p hp => h5 p (List.mem_filter.1 hp).1), ht.grown⟩
  constructor
  · rintro ⟨p, hp, rfl⟩
    obtain ⟨hp, hs⟩ := List.mem_filter.1 hp
    obtain ⟨g, hg, e⟩ := (h4 p.1).1 ⟨p, hp, rfl⟩
    refine ⟨g, mem_less.2 ⟨hg, ?_⟩, e⟩
    rintro rfl
    rw [← e, WideAt.sameKey_self (isKey_kf hf.byte)] at hs
    cases hs
  · rintro ⟨g, hg, rfl⟩
    obtain ⟨hgS, hne⟩ := mem_less.1 hg
    obtain ⟨p, hp, ep⟩ := (h4 (kf g)).2 ⟨g, hgS, rfl⟩
    refine ⟨p, List.mem_filter.2 ⟨hp, ?_⟩, ep⟩
    rw [ep, sameKey_ne fun e2 => hne (kf_inj (h1 g hgS) hf e2)]
    rfl
/-- how many it holds -/
theorem SetAt.size {W : World} {n b : Nat} {S : List (Nat → Nat)} (h : SetAt W n b S) (ty : TypeId) : (Builtin.len_ #[86] ty #[.map (some b)]).run Try.prog W = .ok (.int .i64 S.length) W := by
  obtain ⟨h1, h2, es, h3, h4, h5⟩ := h
  rw [h3.len Try.underlying86 ty]
  show Result.ok (Value.int IntKind.i64 (es.length : Nat)) W = _
  rw [set_len h1 h2 (owns_nodup h3) h4]

/-! ### at the operations -/
section
variable {w : World} {ops : Array Oper} {rest : List Oper} {o : Oper} {a : Act} {Q : Exit → Act → World → Prop}
theorem wpList_look_row (hg : o.guard = none) (m x : Operand) (hop : o.op = Op.lookup 86 m x false) (n b : Nat) (S : List (Nat → Nat)) (f : Nat → Nat) (hf : IsRow n f) (h : SetAt w n b S) (hm : a.eval m = .map (some b)) (hx : a.eval x = .agg (dig8 f))
    (hK : wpList Try.prog ops Q rest (a.put o.dst (.bool (inB f S))) w) : wpList Try.prog ops Q (o :: rest) a w := by
  refine wpList_plain hg fun K' hK' => ?_
  unfold Oper.wp
  simp [execOp, hop, hm, hx, h.look hf, Result.andThen]
  exact hK' _ _ hK
theorem wpList_put_row (hg : o.guard = none) (m x v : Operand) (hop : o.op = Op.mapUpdate 86 m x v) (n b : Nat) (S : List (Nat → Nat)) (f : Nat → Nat) (hf : IsRow n f) (h : SetAt w n b S) (hl : S.length < maxLen) (hm : a.eval m = .map (some b)) (hx : a.eval x = .agg (dig8 f)) (hv : a.eval v = .bool true)
    (hK : ∀ w', SetAt w' n b (withF S f) → w.grownBy w' (some b) → wpList Try.prog ops Q rest (a.put o.dst undef) w') : wpList Try.prog ops Q (o :: rest) a w := by
  refine wpList_plain hg fun K' hK' => ?_
  obtain ⟨w', hr, h1, h2⟩ := h.put hl hf
  unfold Oper.wp
  simp [execOp, hop, hm, hx, hv, hr, Result.andThen]
  exact hK' _ _ (hK w' h1 h2)
theorem wpList_drop_row (hg : o.guard = none) (m x : Operand) (hop : o.op = Op.call { callee := Callee.builtin Builtin.delete, args := #[m, x], argTypes := #[86, 80] }) (n b : Nat) (S : List (Nat → Nat)) (f : Nat → Nat) (hf : IsRow n f) (h : SetAt w n b S) (hm : a.eval m = .map (some b)) (hx : a.eval x = .agg (dig8 f))
    (hK : ∀ w', SetAt w' n b (lessF S f) → w.grownBy w' (some b) → wpList Try.prog ops Q rest (a.put o.dst (.tuple #[])) w') : wpList Try.prog ops Q (o :: rest) a w := by
  refine wpList_plain hg fun K' hK' => ?_
  obtain ⟨w', hr, h1, h2⟩ := h.drop hf o.type
  unfold Oper.wp
  simp [execOp, hop, resolve, invoke, builtin, hm, hx, hr, Result.andThen]
  exact hK' _ _ (hK w' h1 h2)
theorem wpList_len_rows (hg : o.guard = none) (m : Operand) (hop : o.op = Op.call { callee := Callee.builtin Builtin.len, args := #[m], argTypes := #[86] }) (n b : Nat) (S : List (Nat → Nat)) (h : SetAt w n b S) (hm : a.eval m = .map (some b))
    (hK : wpList Try.prog ops Q rest (a.put o.dst (.int .i64 S.length)) w) : wpList Try.prog ops Q (o :: rest) a w := by
  refine wpList_plain hg fun K' hK' => ?_
  unfold Oper.wp
  simp [execOp, hop, resolve, invoke, builtin, hm, h.size o.type, Result.andThen]
  exact hK' _ _ hK

/-- a range over the rows of S is under way; C has come, cnt are to come -/
def Coming (W : World) (n b r : Nat) (S C : List (Nat → Nat)) (cnt : Nat) : Prop :=
  SetAt W n b S ∧ C.Nodup ∧ (∀ f ∈ C, f ∈ S) ∧ ∃ (es : List (Lit × DataW Unit)) (left : Lit → Bool), W.ranges Try.prog 80 bE b r S.length (.map es) left cnt ∧ (∀ k, (∃ p ∈ es, p.1 = k) ↔ ∃ f ∈ S, kf f = k) ∧ (∀ p ∈ es, p.2 = .lit (.bool true)) ∧ ∀ f ∈ S, left (kf f) = !inB f C
theorem Coming.lt {W : World} {n b r : Nat} {S C : List (Nat → Nat)} {cnt : Nat} (h : Coming W n b r S C cnt) : r < W.heap.size ∧ r ≠ b := by
  obtain ⟨_, _, _, es, left, h, _⟩ := h
  exact ⟨h.lt, h.ne⟩
theorem Coming.grown {W W' : World} {n b r : Nat} {S C : List (Nat → Nat)} {cnt : Nat} {row : Option Nat} (h : Coming W n b r S C cnt) (hg : W.grownBy W' row) (h1 : some b ≠ row) (h2 : some r ≠ row) : Coming W' n b r S C cnt := by
  obtain ⟨q1, q2, q3, es, left, q4, q5⟩ := h
  exact ⟨q1.grown hg h1, q2, q3, es, left, q4.kept hg h1 h2, q5⟩
theorem wpList_range_rows (hg : o.guard = none) (m : Operand) (hop : o.op = Op.range 86 m) (n b : Nat) (S : List (Nat → Nat)) (h : SetAt w n b S) (hm : a.eval m = .map (some b))
    (hK : ∀ w', Coming w' n b w.heap.size S [] S.length → w.grownBy w' none → w'.heap.size = w.heap.size + 1 → wpList Try.prog ops Q rest (a.put o.dst (.pointer (some ⟨w.heap.size, 0, none⟩))) w') : wpList Try.prog ops Q (o :: rest) a w := by
  have hS := h
  obtain ⟨h1, h2, es, h3, h4, h5⟩ := h
  have hsz := set_len h1 h2 (owns_nodup h3) h4
  refine wpList_range_own w hg m _ hop _ _ digKeyed Try.underlying86 _ b _ _ hm h3 fun w' hr hgr hs => ?_
  have e1 : Maps.size (DataW.map es) = S.length := hsz
  rw [e1] at hr
  refine hK w' ⟨hS.grown hgr (by simp), List.nodup_nil, fun f hf => by simp at hf, es, _, hr, h4, h5, fun f hf => ?_⟩ hgr hs
  have : inB f [] = false := inB_no.2 (by simp)
  rw [this]
  obtain ⟨p, hp, e⟩ := (h4 (kf f)).2 ⟨f, hf, rfl⟩
  exact List.any_eq_true.2 ⟨p, hp, by rw [e]; exact WideAt.sameKey_self (isKey_kf (h1 f hf).byte)⟩
set_option maxRecDepth 100000 in
theorem wpList_next_rows (hg : o.guard = none) (it : Operand) (hop : o.op = Op.next it false) (n b r : Nat) (S C : List (Nat → Nat)) (cnt : Nat) (h : Coming w n b r S C cnt) (hit : a.eval it = .pointer (some ⟨r, 0, none⟩))
    (hDone : C.Perm S → wpList Try.prog ops Q rest (a.put o.dst (.tuple #[.bool false])) w)
    (hMore : ∀ (f : Nat → Nat) (w' : World) (cnt' : Nat), IsRow n f → f ∈ S → f ∉ C → Coming w' n b r S (C ++ [f]) cnt' → cnt' < cnt → w.grownBy w' (some r) → w'.heap.size = w.heap.size →
      (Instr.entry (.pointer (some ⟨r, 0, none⟩))).run Try.prog w' = .ok (.tuple #[.agg (dig8 f), .bool true]) w' → wpList Try.prog ops Q rest (a.put o.dst (.tuple #[.bool true, .agg (dig8 f), .bool true])) w') : wpList Try.prog ops Q (o :: rest) a w := by
  obtain ⟨q1, q2, q3, es, left, q4, q5, q6, q7⟩ := h
  refine wpList_plain hg fun K' hK' => ?_
  unfold Oper.wp
  rcases q4.next digKeyed o.type with ⟨h0, hl, hrun⟩ | ⟨key, v, kl, y, w', cnt', hkey, hlk, hv, hat, hrun, hrg, hlt, hgr, hsz, hen⟩
  · simp [execOp, hop, hit, hrun, Result.andThen]
    refine hK' _ _ (hDone ((List.perm_ext_iff_of_nodup q2 q1.nodup).2 fun f => ⟨q3 f, fun hf => ?_⟩))
    have := q7 f hf
    rw [hl] at this
    exact inB_iff.1 (by simpa using this.symm)
  · -- the key is a row of S
    have hin : ∃ f ∈ S, kf f = kl := by
      obtain ⟨xs, clock, since, seen, c0, hb, F, hs, hD, hr, hold, hc, hl1, hl2, _⟩ := q4
      obtain ⟨x, hx, e⟩ := hl2 kl hlk
      refine (q5 kl).1 ⟨WideElems.rg Try.prog 80 bE x, ?_, e⟩
      injection hD with hD
      rw [hD]
      exact mem_sorted.2 (List.mem_map.2 ⟨x, hx, rfl⟩)
    obtain ⟨f, hf, rfl⟩ := hin
    have hrow := q1.rows f hf
    obtain rfl : key = .agg (dig8 f) := digKeyed.inj hkey (keyOf_row hrow.byte)
    have hC : f ∉ C := by
      have := q7 f hf
      rw [hlk] at this
      exact inB_no.1 (by simpa using this.symm)
    have hv2 : y.1 = .lit (.bool true) := by
      obtain ⟨p, hp, e⟩ := find_key (kf f) (isKey_kf hrow.byte) ((q5 (kf f)).2 ⟨f, hf, rfl⟩)
      have := hat (.lit (.bool false))
      unfold DataW.atKey at this
      simp only [e] at this
      rw [← this]
      exact q6 p hp
    obtain ⟨y1, y2⟩ := y
    simp only at hv2
    subst hv2
    obtain rfl := bE_inv hv
    simp [execOp, hop, hit, hrun, Result.andThen]
    refine hK' _ _ (hMore f w' cnt' hrow hf hC ⟨q1.grown hgr (by have := q4.ne; intro e; injection e with e; exact this e.symm), ?_, ?_, es, _, hrg, q5, q6, fun g hg => ?_⟩ hlt hgr hsz hen)
    · exact List.nodup_append.2 ⟨q2, by simp, fun a ha b hb => by rintro rfl; simp at hb; exact hC (hb ▸ ha)⟩
    · intro g hg
      rcases List.mem_append.1 hg with hg | hg
      · exact q3 g hg
      · simp at hg; rw [hg]; exact hf
    · rw [q7 g hg]
      by_cases e : g = f
      · subst e
        rw [WideAt.sameKey_self (isKey_kf hrow.byte), inB_iff.2 (by simp : g ∈ C ++ [g])]
        simp
      · rw [sameKey_ne fun e2 => e (kf_inj (q1.rows g hg) hrow e2)]
        by_cases hgC : g ∈ C
        · rw [inB_iff.2 hgC, inB_iff.2 (List.mem_append_left _ hgC)]; rfl
        · rw [inB_no.2 hgC, inB_no.2 (by simp [hgC, e])]; rfl
end
end Go.Proofs.Ytnoepobbecobbaa
