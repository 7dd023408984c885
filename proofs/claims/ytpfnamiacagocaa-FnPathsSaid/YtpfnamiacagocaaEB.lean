/- A region that draws its order in a round of a range over a function: walked as one outside. The path of a bell through a lead, in the program. leadWith, PathOf, PlaceBells in the program. PathOf and PlaceBells in the program. -/
import Derived.OrdersIn
import Derived.OrdersHeld
import Derived.Test.YtpfnamiacagocaaEA
namespace Go.Proofs.Ytpfnamiacagocaa
open Go.RowKit
set_option linter.unusedSimpArgs false
set_option linter.unusedVariables false

section
variable {l n : Nat} {P : Program} {ops : Array Oper} {Q : Exit → Act → World → Prop} {md : Region.Mode}
theorem Oper.wpIn_round {o : Oper} {a : Act} {w : World} {K : Act → World → Prop} (hd : ∀ c, o.op ≠ .defer c) (h : o.wp P a w K Q) : o.wpIn (Fence.wide.inRound l) n P a w K Q := by
  refine ⟨fun _ _ => trivial, ?_⟩
  rw [Oper.semAt_eq _ _ _ hd]
  unfold Oper.wp at h
  generalize (execOp a.eval o).run P w = r at *
  have hdep : ((Fence.wide.inRound l).depth.isSome = true → 1 ≤ n) := fun h => by cases h
  cases r with
  | ok x w' =>
    cases x with
    | value v => exact h
    | skip => exact h
    | defer d => exact h
    | enter f args => exact ⟨hdep, CallsIn.inRound l (callsIn_wide.2 h)⟩
    | row r args => exact ⟨hdep, fun c cs _ => let ⟨v, w2, hr, s⟩ := h c cs; ⟨v, w2, hr, stepsIn_wide.2 s⟩⟩
    | _ => exact h.elim
  | halt x w' => cases x <;> exact h
theorem wpOpIn_round {i : Nat} {a : Act} {w : World} {K K' : Act → World → Prop} (hd : ∀ (i : Nat) (o : Oper) c, ops[i]? = some o → o.op ≠ .defer c) (hQ : ¬ LetsOut Q) (hK : ∀ a w, K a w → K' a w) (h : wpOp P ops Q i K a w) :
    wpOpIn (Fence.wide.inRound l) n P ops Q i K' a w := by
  unfold wpOp at h
  unfold wpOpIn
  cases ho : ops[i]? with
  | none =>
    rw [ho] at h
    exact hK _ _ h
  | some o =>
    rw [ho] at h
    simp only at h ⊢
    split
    · rename_i hw
      rw [if_pos hw] at h
      rcases h with h | ⟨_, h⟩
      · exact Oper.wpIn_mono hK (Oper.wpIn_round (fun c => hd i o c ho) h)
      · exact absurd h hQ
    · rename_i hw
      rw [if_neg hw] at h
      exact ⟨fun _ _ => trivial, hK _ _ h⟩
theorem wpAnyIn_round (hd : ∀ (i : Nat) (o : Oper) c, ops[i]? = some o → o.op ≠ .defer c) (hQ : ¬ LetsOut Q) : ∀ (fuel : Nat) (listed : Array Bool) (a : Act) (w : World), wpAny P md ops Q fuel listed a w → wpAnyIn (Fence.wide.inRound l) n P md ops Q fuel listed a w
  | 0, _, _, _, h => h
  | fuel + 1, _, _, _, h => ⟨h.1, fun i hi => wpOpIn_round hd hQ (fun a' w' h' => wpAnyIn_round hd hQ fuel _ a' w' h') (h.2 i hi)⟩
/-- no operation defers a call -/
def noDefer (o : Oper) : Bool := match o.op with | .defer _ => false | _ => true
theorem noDefer_spec (h : ops.all noDefer = true) (i : Nat) (o : Oper) (c : Call) (ho : ops[i]? = some o) : o.op ≠ .defer c := by
  intro e
  have := (Array.all_eq_true_iff_forall_mem.1 h) o (Array.mem_of_getElem? ho)
  simp [noDefer, e] at this
/-- a region that draws its order, in a round -/
theorem wpIn_round_held {S : World → Prop} {id : Nat} {a : Act} {w : World} (hm : P.follows .mixedOrders = true) (hd : ops.all noDefer = true) (hQ : ¬ LetsOut Q)
    (h : wpAnyH P .any ops Q S ops.size (Array.replicate ops.size false) a w.drew) : (Code.region id ops true).wpIn (Fence.wide.inRound l) n P Q a w :=
  wpIn_region_any hm (wpAnyIn_round (fun i o c => noDefer_spec hd i o c) hQ _ _ _ _ (wpAny_of_held _ _ _ _ h))
end
end Go.Proofs.Ytpfnamiacagocaa
namespace Go.Proofs.Ytpfnamiacagocaa
open Go.RowKit
set_option linter.unusedSimpArgs false
set_option linter.unusedVariables false
attribute [local go_sem] Oper.semAt_some

/-- a slice of numbers of its own -/
def NumsOut (xs : List Nat) (w : World) (e : Ending) (w' : World) : Prop := ∃ v, e = .returned v ∧ New w.heap.size w' 3 v (nums xs) ∧ Below w.heap.size w w'
theorem New.offC {B B' : Nat} {A C : World} {t : TypeId} {v : Value} {xs : List Value} (h : New B A t v xs) (ht : t ≠ 68) (k : OffC B' A C) : New B C t v xs := by
  obtain ⟨⟨h1, h2⟩, h3⟩ := h
  refine ⟨⟨h1, ?_⟩, h3⟩
  rcases h2 with h0 | ⟨g, cap, cur, rfl, hbg, hg, hr⟩
  · exact .inl h0
  · exact .inr ⟨g, cap, cur, rfl, hbg, k.same _ _ _ _ ht hg, hr⟩
/-- what stands between two rounds: the path so far in its box, the bell's box -/
def PathI (n b : Nat) (w : World) (Bp Bb : Nat) (pre : List (Nat → Nat)) (W : World) : Prop :=
  ∃ v, RowAt W Bp 39 #[v] ∧ New (w.heap.size + 3) W 3 v (nums (pre.map fun g => plc n g b)) ∧ RowAt W Bb 3 #[.int .i64 b] ∧ Below w.heap.size w W

theorem PathI.off {n b : Nat} {w : World} {Bp Bb B' : Nat} (hB : w.heap.size ≤ B') : ∀ s A C, PathI n b w Bp Bb s A → OffC B' A C → PathI n b w Bp Bb s C := by
  rintro s A C ⟨v, h1, h2, h3, h4⟩ hoff
  exact ⟨v, hoff.same _ _ _ _ (by decide) h1, h2.offC (by decide) hoff, hoff.same _ _ _ _ (by decide) h3, h4.trans (hoff.below.mono hB)⟩

theorem path_fin {n b : Nat} {w A W1 W2 : World} {Bp Bb : Nat} {pre : List (Nat → Nat)} {x : Nat → Nat} {v v' : Value} {act : Act} (hBp : w.heap.size ≤ Bp) (hne : Bp ≠ Bb) (hBb : Bb < w.heap.size + 3)
    (hp : RowAt A Bp 39 #[v]) (hnew : New (w.heap.size + 3) A 3 v (nums (pre.map fun g => plc n g b))) (hbb : RowAt A Bb 3 #[.int .i64 b]) (hbel : Below w.heap.size w A)
    (hb1 : Below A.drew.heap.size A.drew W1) (hn2 : New (w.heap.size + 3) W2 3 v' (nums (pre.map fun g => plc n g b) ++ [.int .i64 (plc n x b)])) (hk2 : KeptBut W1 W2 v) (hb2 : Below (w.heap.size + 3) W1 W2) :
    roundEnd (PathI n b w Bp Bb) (pre ++ [x]) A .normal act (W2.setCell ⟨Bp, 0, none⟩ v') := by
  have hb1' : Below A.heap.size A W1 := ⟨hb1.os, hb1.tape, hb1.output, hb1.size, hb1.block⟩
  have hkeep : ∀ (k : Nat) (o : Obj), A.heap[k]? = some o → v.ownBlock ≠ some k → W2.heap[k]? = some o := fun k o hk hv => by
    have hlt := (Array.getElem?_eq_some_iff.1 hk).1
    exact (hk2 k (Nat.lt_of_lt_of_le hlt hb1'.size) hv).trans ((hb1'.block k hlt).trans hk)
  have hkeep2 : ∀ (k : Nat) (o : Obj), A.heap[k]? = some o → v.ownBlock ≠ some k → k ≠ Bp → (W2.setCell ⟨Bp, 0, none⟩ v').heap[k]? = some o := fun k o hk hv hkB =>
    (heap_setCell_other W2 ⟨Bp, 0, none⟩ k v' hkB).trans (hkeep k o hk hv)
  have hown : ∀ g, v.ownBlock = some g → ∃ cur fz, A.heap[g]? = some (.cells cur 3 fz) := fun g hg => by
    obtain ⟨⟨-, h2⟩, -⟩ := hnew
    rcases h2 with ⟨rfl, _⟩ | ⟨g', cap, cur, rfl, _, hg', _⟩
    · simp [Value.ownBlock] at hg
    · have e : g' = g := by simpa [Value.ownBlock] using hg
      subst e
      exact ⟨_, _, hg'⟩
  have hvp := hnew.apartRow hp (by decide)
  have hp2 : RowAt W2 Bp 39 #[v] := hkeep _ _ hp hvp
  have hne2 := hn2.apartRow hp2 (by decide)
  have hvb : v.ownBlock ≠ some Bb := fun e => by have := hnew.base _ e; omega
  have hsz : W1.heap.size ≤ W2.heap.size := hb2.size
  refine ⟨⟨v', hp2.set 0 v', ?_, ?_, ?_⟩, ⟨?_, ?_⟩, ⟨?_, ?_⟩⟩
  · have := hn2.setOther Bp 0 v' hne2
    simpa [nums, ints] using this
  · exact hkeep2 _ _ hbb hvb (Ne.symm hne)
  · exact (hbel.trans ((hb1'.mono hbel.size).trans (hb2.mono (by omega)))).setCell (p := ⟨Bp, 0, none⟩) hBp v'
  · have : (W2.setCell ⟨Bp, 0, none⟩ v').heap.size = W2.heap.size := by simp
    have := hb1'.size
    omega
  · intro k cs hk
    refine hkeep2 _ _ hk (fun e => ?_) (fun e => ?_)
    · obtain ⟨cur, fz, hg⟩ := hown k e
      rw [hk] at hg
      simp at hg
    · subst e
      have := hk.symm.trans hp
      simp at this
  · have : (W2.setCell ⟨Bp, 0, none⟩ v').heap.size = W2.heap.size := by simp
    have := hb1'.size
    omega
  · intro k o hk ho
    refine hkeep2 _ _ hk (fun e => ?_) (fun e => ?_)
    · obtain ⟨cur, fz, hg⟩ := hown k e
      rw [hk] at hg
      cases hg
      cases ho
    · subst e
      have := hk.symm.trans hp
      cases this
      cases ho

set_option maxRecDepth 100000 in
set_option maxHeartbeats 1000000 in
theorem path_any (n : Nat) (u : Value) (cs : List (Nat → Nat)) (f : Nat → Nat) (hf : IsRow n f) (hc : Rows n cs) (hl : cs.length ≤ 40) (b : Nat) (h1 : 1 ≤ b) (hb : b ≤ n) (w : World) (h : NewD 0 w u cs) :
    Calls Try.prog 61 #[.agg (leadV u f), .int .i64 b] w (NumsOut (pathF n cs f b) w) := by
  obtain ⟨a, cap, hu, hcap, ha⟩ := h.view rfl
  have hvis := fun w => visited_any u f a cs.length cap hu w
  clear hu ha hcap
  have HR0 := Lib.hid (((RowAt.new w 70 (leadV u f)).push (.cells #[.int .i64 b] 3)).push (.cells #[.slice none 0 0] 39))
  refine (callsIn_wide (n := 5)).1 ?_
  refine callsIn_of_wp_marks Try.func61 rfl trivial ?_ rfl
  simp only [Try.ntmps61, List.size_toArray, List.length_cons, List.length_nil, Nat.reduceAdd, Nat.reduceSub, Array.replicate_succ, Array.replicate_zero, List.push_toArray, List.append_toArray, List.nil_append, List.cons_append]
  gi_wp2_with (first | (refine ⟨trivial, ?_⟩; gi_at_call 99; refine (callsIn_wide.2 (hvis _)).mono ?_; rintro e w' ⟨rfl, rfl⟩) | (refine wpListIn_load_row rfl 70 _ rfl _ rfl 70 _ _ _ HR0.out Try.underlying70 rfl (by kernel_rfl) ?_) | fail)
  obtain ⟨W3, hW3⟩ : ∃ W3, ((w.alloc (.cells (leadV u f) 70)).alloc (.cells #[.int .i64 b] 3)).alloc (.cells #[.slice none 0 0] 39) = W3 := ⟨_, rfl⟩
  have hs3 : W3.heap.size = w.heap.size + 3 := by rw [← hW3]; simp
  have hb3 : Below w.heap.size w W3 := by rw [← hW3]; exact (((Below.refl _ w).alloc (Nat.le_refl _) _).alloc (by simp) _).alloc (by simp; omega) _
  have hp3 : RowAt W3 (w.heap.size + 1 + 1) 39 #[.slice none 0 0] := by
    rw [← hW3]
    have := RowAt.new ((w.alloc (.cells (leadV u f) 70)).alloc (.cells #[.int .i64 b] 3)) 39 #[.slice none 0 0]
    simpa using this
  have hbb3 : RowAt W3 (w.heap.size + 1) 3 #[.int .i64 b] := by
    rw [← hW3]
    have := (RowAt.new (w.alloc (.cells (leadV u f) 70)) 3 #[.int .i64 b]).push (.cells #[.slice none 0 0] 39)
    simpa using this
  rw [hW3] at HR0
  try rw [hW3]
  have hbox : RowAt (W3.alloc (.cells (leadV u f) 70)) W3.heap.size 70 (leadV u f) := RowAt.new _ _ _
  have hb4 : Below W3.heap.size W3 (W3.alloc (.cells (leadV u f) 70)) := (Below.refl _ _).alloc (Nat.le_refl _) _
  have hi3 : PathI n b w (w.heap.size + 1 + 1) (w.heap.size + 1) [] W3 := ⟨_, hp3, New.nil _ _ _, hbb3, hb3⟩
  have hn4 := (h.kept (hb3.mono (Nat.le_refl _))).kept hb4
  have hi4 := PathI.off (B' := w.heap.size) (Nat.le_refl _) _ _ _ hi3 ((OffT.of_below hb4 w.heap.size (by omega)).offC (Nat.le_refl _))
  have hs4 : (W3.alloc (.cells (leadV u f) 70)).heap.size = w.heap.size + 4 := by simp; omega
  rw [hs3] at hbox
  generalize W3.alloc (.cells (leadV u f) 70) = W4 at *
  clear hi3 hb4 hp3 hbb3 hb3 hW3 HR0 hvis hs3 h
  refine rangeT (m := 3) 40 (gf := 121) (lb := #[.pointer (some ⟨w.heap.size + 1 + 1 + 1, 0, none⟩)]) rfl (enters_of Try.func121 (by kernel_rfl) rfl)
    (fun x : Nat → Nat => .agg (dig8 x)) (IsRow n) (leadF n cs f ++ [endF n cs f]) (PathI n b w (w.heap.size + 1 + 1) (w.heap.size + 1)) (PathI.off (by omega)) hi4 ?seq
    (fun x k => { tmps := #[.agg (leadV u f), .int .i64 b, .pointer (some ⟨w.heap.size, 0, none⟩), .pointer (some ⟨w.heap.size + 1, 0, none⟩), .slice none 0 0, .pointer (some ⟨w.heap.size + 1 + 1, 0, none⟩), .pointer (some ⟨k, 0, none⟩), .agg (leadV u f), .func (.func 121) #[] #[.pointer (some ⟨w.heap.size + 1 + 1 + 1, 0, none⟩)], .agg (dig8 x), undef, undef, undef, undef, undef, undef, undef], defers := [] })
    (fun x => .cells (dig8 x) 68) ?assign ?body ?done
  case seq =>
    intro l J W hW hJ hY h0
    exact visited1_in l 3 n u cs f hf hc hl _ J W hJ hY (hbox.kept hW) (hn4.kept hW) h0
  case assign =>
    intro l x A K hK
    gi_wp2_with (first | (refine wpListIn_store_row rfl 68 _ _ rfl _ _ rfl rfl 68 _ (heap_at _ _ _ (by simp)) (by kernel_rfl) rfl (by kernel_rfl) ?_; rw [setRow_at _ _ _ _ _ (by simp)]) | fail)
    exact hK
  case body =>
    rintro l pre x k A hx hN ⟨v, hp, hnew, hbb, hbel⟩ hk hrow
    have hwA0 : w.heap.size + 3 ≤ A.heap.size := hp.lt
    gi_wp2
    refine wpIn_round_held (S := fun W' => RowAt W' k 68 (dig8 x) ∧ RowAt W' (w.heap.size + 1) 3 #[.int .i64 b]) (by kernel_rfl) (by kernel_rfl) (fun ⟨_, _, h⟩ => h) ?_
    have hS : RowAt A.drew k 68 (dig8 x) ∧ RowAt A.drew (w.heap.size + 1) 3 #[.int .i64 b] := ⟨hrow, hbb⟩
    have HPL := Lib.hid (fun W => placeOf_any n x hx b h1 hb W)
    obtain ⟨p1, p2, -⟩ := plc_spec hx h1 hb
    obtain ⟨i0, hi0, hz0, hz1, hz2⟩ := info_parts infoInt
    have I0 := Lib.hid (⟨hi0, hz0, hz1, hz2⟩ : _ ∧ _ ∧ _ ∧ _)
    have hvv : ∃ a' m' c', v = .slice a' m' c' := by
      obtain ⟨a', c', e, -⟩ := hnew.own.view
      exact ⟨a', _, c', e⟩
    obtain ⟨a', m', c', rfl⟩ := hvv
    have hlen : (nums (pre.map fun g => plc n g b)).length ≤ 100000 := by rw [nums_len]; simp; omega
    have FIN := Lib.hid (fun (W1 W2 : World) (v' : Value) (act : Act) hb1 hn2 hk2 hb2 => path_fin (n := n) (b := b) (w := w) (A := A) (W1 := W1) (W2 := W2) (Bp := w.heap.size + 1 + 1) (Bb := w.heap.size + 1) (pre := pre) (x := x) (v := .slice a' m' c') (v' := v') (act := act) (by omega) (by omega) (by omega) hp hnew hbb hbel hb1 hn2 hk2 hb2)
    have HP := Lib.hid hp
    have HNEW := Lib.hid hnew
    have HLEN := Lib.hid hlen
    have hwA : w.heap.size + 3 ≤ A.heap.size := hwA0
    generalize plc n x b = pp at *
    clear hp hnew hlen hi0 hz0 hz1 hz2 hi4 hbox hn4
    refine wpAnyH_take (i := 1) (v := .agg (dig8 x)) rfl (by kernel_rfl) (by kernel_rfl) (by kernel_rfl) (fun _ _ _ h => h) (Or.inl ⟨by rfl, fun W' hW' => ?_⟩) hS ?_
    · have hr := run_loadVar_row (P := Try.prog) W' k 68 68 (dig8 x) (0, 0) _ hW'.1 Try.underlying68 rfl (by kernel_rfl)
      unfold execOp
      simp [Act.eval, Instr.loadAt, Instr.sureAddr, Sem.run_bind, Sem.run_pure, Result.andThen_ok, hr]
    try simp only [Act.put, List.setIfInBounds_toArray, List.set_cons_zero, List.set_cons_succ]
    refine wpAnyH_take (i := 2) (v := .int .i64 b) rfl (by kernel_rfl) (by kernel_rfl) (by kernel_rfl) (fun _ _ _ h => h) (Or.inl ⟨by rfl, fun W' hW' => ?_⟩) hS ?_
    · have hc := hW'.2.cell 0 rfl
      go_simp
    try simp only [Act.put, List.setIfInBounds_toArray, List.set_cons_zero, List.set_cons_succ]
    refine wpAnyH_ready (rs := [0, 3]) (by kernel_rfl) (by simp) ?_
    refine AllReadyH.cons rfl (fun K hK => ?_) (AllReadyH.cons rfl (fun K hK => ?_) AllReadyH.nil)
    · have hc : A.drew.cell? ⟨w.heap.size + 1 + 1, 0, none⟩ = some (.slice a' m' c') := HP.out.cell 0 rfl
      go_simp
      refine hK.out _ _ hS (fun _ => ?_)
      clear hK K
      try simp only [Act.put, List.setIfInBounds_toArray, List.set_cons_zero, List.set_cons_succ]
      refine wpAnyH_ready (rs := [3]) (by kernel_rfl) (by simp) ?_
      refine AllReadyH.cons rfl (fun K hK => ?_) AllReadyH.nil
      go_simp
      refine (HPL.out _).mono ?_
      rintro e W1 ⟨rfl, hb1⟩
      have hS1 : RowAt W1 k 68 (dig8 x) ∧ RowAt W1 (w.heap.size + 1) 3 #[.int .i64 b] := ⟨hS.1.kept hb1, hS.2.kept hb1⟩
      have HP1 : Hid (RowAt W1 (w.heap.size + 1 + 1) 39 #[.slice a' m' c']) := Lib.hid ((show RowAt A.drew (w.heap.size + 1 + 1) 39 #[.slice a' m' c'] from HP.out).kept hb1)
      have HNEW1 : Hid (New (w.heap.size + 3) W1 3 (.slice a' m' c') (nums (pre.map fun g => plc n g b))) := Lib.hid ((show New (w.heap.size + 3) A.drew 3 (.slice a' m' c') (nums (pre.map fun g => plc n g b)) from ⟨HNEW.out.own, HNEW.out.base⟩).kept hb1)
      have hw1 : w.heap.size + 3 ≤ W1.heap.size := Nat.le_trans hwA hb1.size
      have HB1 := Lib.hid hb1
      clear hb1
      try go_simp
      refine hK.out _ _ hS1 (fun _ => ?_)
      clear hK K
      try simp only [Act.put, List.setIfInBounds_toArray, List.set_cons_zero, List.set_cons_succ]
      refine wpAnyH_ready (rs := [4]) (by kernel_rfl) (by simp) ?_
      refine AllReadyH.cons rfl (fun K hK => ?_) AllReadyH.nil
      go_simp
      have hS2 : RowAt (W1.alloc (.cells #[.int .i64 pp] 3)) k 68 (dig8 x) ∧ RowAt (W1.alloc (.cells #[.int .i64 pp] 3)) (w.heap.size + 1) 3 #[.int .i64 b] := ⟨hS1.1.push _, hS1.2.push _⟩
      refine hK.out _ _ hS2 (fun _ => ?_)
      clear hK K
      try simp only [Act.put, List.setIfInBounds_toArray, List.set_cons_zero, List.set_cons_succ]
      refine wpAnyH_ready (rs := [5]) (by kernel_rfl) (by simp) ?_
      refine AllReadyH.cons rfl (fun K hK => ?_) AllReadyH.nil
      refine step_app1 rfl (.tmp 10) (.tmp 14) 39 rfl 3 i0 (.int .i64 0) 8 Try.underlying39 I0.out.1 I0.out.2.1 I0.out.2.2.1 I0.out.2.2.2 rfl (w.heap.size + 3) _ _ rfl HNEW1.out rfl rfl hw1 HLEN.out (by omega) ?_
      intro v' W2 hn2 hk2 hb2
      obtain ⟨a9, c9, hv9, -⟩ := hn2.own.view
      rw [List.length_append, List.length_singleton] at hv9
      subst hv9
      have hne5 : (Value.slice a' m' c').ownBlock ≠ some (w.heap.size + 1) := fun e => by have := HNEW1.out.base _ e; omega
      have HN2 := Lib.hid hn2
      have HK2 := Lib.hid hk2
      have HB2 := Lib.hid hb2
      have hS3 : RowAt W2 k 68 (dig8 x) ∧ RowAt W2 (w.heap.size + 1) 3 #[.int .i64 b] := ⟨hk2.row hS1.1 (HNEW1.out.apartRow hS1.1 (by decide)), hk2.row hS1.2 hne5⟩
      have hP2 := hk2.row HP1.out (HNEW1.out.apartRow HP1.out (by decide))
      have c2 := hP2.cell 0 rfl
      have f2 := hP2.free 0
      have hne6 := HN2.out.apartRow hP2 (by decide)
      clear hn2 hk2 hb2
      refine hK.out _ _ hS3 (fun _ => ?_)
      clear hK K
      try simp only [Act.put, List.setIfInBounds_toArray, List.set_cons_zero, List.set_cons_succ]
      refine wpAnyH_ready (rs := [6]) (by kernel_rfl) (by simp) ?_
      refine AllReadyH.cons rfl (fun K hK => ?_) AllReadyH.nil
      go_simp
      refine hK.out _ _ ⟨hS3.1.other _ _ (fun e => by have := hS3.1; rw [e] at this; have h7 := this.symm.trans hP2; simp at h7), hS3.2.other _ _ (by simp)⟩ (fun _ => ?_)
      clear hK K
      try simp only [Act.put, List.setIfInBounds_toArray, List.set_cons_zero, List.set_cons_succ]
      refine wpAnyH_done (by kernel_rfl) ?_ _
      exact FIN.out W1 W2 _ { tmps := #[], defers := [] } HB1.out HN2.out HK2.out HB2.out
    · go_simp
      refine (HPL.out _).mono ?_
      rintro e W1 ⟨rfl, hb1⟩
      have hS1 : RowAt W1 k 68 (dig8 x) ∧ RowAt W1 (w.heap.size + 1) 3 #[.int .i64 b] := ⟨hS.1.kept hb1, hS.2.kept hb1⟩
      have HP1 : Hid (RowAt W1 (w.heap.size + 1 + 1) 39 #[.slice a' m' c']) := Lib.hid ((show RowAt A.drew (w.heap.size + 1 + 1) 39 #[.slice a' m' c'] from HP.out).kept hb1)
      have HNEW1 : Hid (New (w.heap.size + 3) W1 3 (.slice a' m' c') (nums (pre.map fun g => plc n g b))) := Lib.hid ((show New (w.heap.size + 3) A.drew 3 (.slice a' m' c') (nums (pre.map fun g => plc n g b)) from ⟨HNEW.out.own, HNEW.out.base⟩).kept hb1)
      have hw1 : w.heap.size + 3 ≤ W1.heap.size := Nat.le_trans hwA hb1.size
      have HB1 := Lib.hid hb1
      clear hb1
      try go_simp
      refine hK.out _ _ hS1 (fun _ => ?_)
      clear hK K
      try simp only [Act.put, List.setIfInBounds_toArray, List.set_cons_zero, List.set_cons_succ]
      refine wpAnyH_ready (rs := [0, 4]) (by kernel_rfl) (by simp) ?_
      refine AllReadyH.cons rfl (fun K hK => ?_) (AllReadyH.cons rfl (fun K hK => ?_) AllReadyH.nil)
      · have hc1 : W1.cell? ⟨w.heap.size + 1 + 1, 0, none⟩ = some (.slice a' m' c') := HP1.out.cell 0 rfl
        go_simp
        refine hK.out _ _ hS1 (fun _ => ?_)
        clear hK K
        try simp only [Act.put, List.setIfInBounds_toArray, List.set_cons_zero, List.set_cons_succ]
        refine wpAnyH_ready (rs := [4]) (by kernel_rfl) (by simp) ?_
        refine AllReadyH.cons rfl (fun K hK => ?_) AllReadyH.nil
        go_simp
        have hS2 : RowAt (W1.alloc (.cells #[.int .i64 pp] 3)) k 68 (dig8 x) ∧ RowAt (W1.alloc (.cells #[.int .i64 pp] 3)) (w.heap.size + 1) 3 #[.int .i64 b] := ⟨hS1.1.push _, hS1.2.push _⟩
        refine hK.out _ _ hS2 (fun _ => ?_)
        clear hK K
        try simp only [Act.put, List.setIfInBounds_toArray, List.set_cons_zero, List.set_cons_succ]
        refine wpAnyH_ready (rs := [5]) (by kernel_rfl) (by simp) ?_
        refine AllReadyH.cons rfl (fun K hK => ?_) AllReadyH.nil
        refine step_app1 rfl (.tmp 10) (.tmp 14) 39 rfl 3 i0 (.int .i64 0) 8 Try.underlying39 I0.out.1 I0.out.2.1 I0.out.2.2.1 I0.out.2.2.2 rfl (w.heap.size + 3) _ _ rfl HNEW1.out rfl rfl hw1 HLEN.out (by omega) ?_
        intro v' W2 hn2 hk2 hb2
        obtain ⟨a9, c9, hv9, -⟩ := hn2.own.view
        rw [List.length_append, List.length_singleton] at hv9
        subst hv9
        have hne5 : (Value.slice a' m' c').ownBlock ≠ some (w.heap.size + 1) := fun e => by have := HNEW1.out.base _ e; omega
        have HN2 := Lib.hid hn2
        have HK2 := Lib.hid hk2
        have HB2 := Lib.hid hb2
        have hS3 : RowAt W2 k 68 (dig8 x) ∧ RowAt W2 (w.heap.size + 1) 3 #[.int .i64 b] := ⟨hk2.row hS1.1 (HNEW1.out.apartRow hS1.1 (by decide)), hk2.row hS1.2 hne5⟩
        have hP2 := hk2.row HP1.out (HNEW1.out.apartRow HP1.out (by decide))
        have c2 := hP2.cell 0 rfl
        have f2 := hP2.free 0
        have hne6 := HN2.out.apartRow hP2 (by decide)
        clear hn2 hk2 hb2
        refine hK.out _ _ hS3 (fun _ => ?_)
        clear hK K
        try simp only [Act.put, List.setIfInBounds_toArray, List.set_cons_zero, List.set_cons_succ]
        refine wpAnyH_ready (rs := [6]) (by kernel_rfl) (by simp) ?_
        refine AllReadyH.cons rfl (fun K hK => ?_) AllReadyH.nil
        go_simp
        refine hK.out _ _ ⟨hS3.1.other _ _ (fun e => by have := hS3.1; rw [e] at this; have h7 := this.symm.trans hP2; simp at h7), hS3.2.other _ _ (by simp)⟩ (fun _ => ?_)
        clear hK K
        try simp only [Act.put, List.setIfInBounds_toArray, List.set_cons_zero, List.set_cons_succ]
        refine wpAnyH_done (by kernel_rfl) ?_ _
        exact FIN.out W1 W2 _ { tmps := #[], defers := [] } HB1.out HN2.out HK2.out HB2.out
      · go_simp
        have hS2 : RowAt (W1.alloc (.cells #[.int .i64 pp] 3)) k 68 (dig8 x) ∧ RowAt (W1.alloc (.cells #[.int .i64 pp] 3)) (w.heap.size + 1) 3 #[.int .i64 b] := ⟨hS1.1.push _, hS1.2.push _⟩
        refine hK.out _ _ hS2 (fun _ => ?_)
        clear hK K
        try simp only [Act.put, List.setIfInBounds_toArray, List.set_cons_zero, List.set_cons_succ]
        refine wpAnyH_ready (rs := [0]) (by kernel_rfl) (by simp) ?_
        refine AllReadyH.cons rfl (fun K hK => ?_) AllReadyH.nil
        have hc1 : (W1.alloc (.cells #[.int .i64 pp] 3)).cell? ⟨w.heap.size + 1 + 1, 0, none⟩ = some (.slice a' m' c') := (HP1.out.push _).cell 0 rfl
        go_simp
        refine hK.out _ _ hS2 (fun _ => ?_)
        clear hK K
        try simp only [Act.put, List.setIfInBounds_toArray, List.set_cons_zero, List.set_cons_succ]
        refine wpAnyH_ready (rs := [5]) (by kernel_rfl) (by simp) ?_
        refine AllReadyH.cons rfl (fun K hK => ?_) AllReadyH.nil
        refine step_app1 rfl (.tmp 10) (.tmp 14) 39 rfl 3 i0 (.int .i64 0) 8 Try.underlying39 I0.out.1 I0.out.2.1 I0.out.2.2.1 I0.out.2.2.2 rfl (w.heap.size + 3) _ _ rfl HNEW1.out rfl rfl hw1 HLEN.out (by omega) ?_
        intro v' W2 hn2 hk2 hb2
        obtain ⟨a9, c9, hv9, -⟩ := hn2.own.view
        rw [List.length_append, List.length_singleton] at hv9
        subst hv9
        have hne5 : (Value.slice a' m' c').ownBlock ≠ some (w.heap.size + 1) := fun e => by have := HNEW1.out.base _ e; omega
        have HN2 := Lib.hid hn2
        have HK2 := Lib.hid hk2
        have HB2 := Lib.hid hb2
        have hS3 : RowAt W2 k 68 (dig8 x) ∧ RowAt W2 (w.heap.size + 1) 3 #[.int .i64 b] := ⟨hk2.row hS1.1 (HNEW1.out.apartRow hS1.1 (by decide)), hk2.row hS1.2 hne5⟩
        have hP2 := hk2.row HP1.out (HNEW1.out.apartRow HP1.out (by decide))
        have c2 := hP2.cell 0 rfl
        have f2 := hP2.free 0
        have hne6 := HN2.out.apartRow hP2 (by decide)
        clear hn2 hk2 hb2
        refine hK.out _ _ hS3 (fun _ => ?_)
        clear hK K
        try simp only [Act.put, List.setIfInBounds_toArray, List.set_cons_zero, List.set_cons_succ]
        refine wpAnyH_ready (rs := [6]) (by kernel_rfl) (by simp) ?_
        refine AllReadyH.cons rfl (fun K hK => ?_) AllReadyH.nil
        go_simp
        refine hK.out _ _ ⟨hS3.1.other _ _ (fun e => by have := hS3.1; rw [e] at this; have h7 := this.symm.trans hP2; simp at h7), hS3.2.other _ _ (by simp)⟩ (fun _ => ?_)
        clear hK K
        try simp only [Act.put, List.setIfInBounds_toArray, List.set_cons_zero, List.set_cons_succ]
        refine wpAnyH_done (by kernel_rfl) ?_ _
        exact FIN.out W1 W2 _ { tmps := #[], defers := [] } HB1.out HN2.out HK2.out HB2.out
  case done =>
    rintro D A hD ⟨v, hp, hnew, hbb, hbel⟩ hK
    have hpc := hp.cell 0 rfl
    gi_wp2
    refine ⟨by simp, .inl ⟨_, _, rfl, run_takeDeferred hK, ?_⟩⟩
    have hoff : OffC w.heap.size A (A.putObj D (.deferred none)) := OffC.putObj (by omega) hK rfl
    exact ⟨_, results_tmp rfl _ _ _, v, rfl, (hnew.lower (by omega)).offC (by decide) hoff, hbel.trans hoff.below⟩
end Go.Proofs.Ytpfnamiacagocaa
namespace Go.Proofs.Ytpfnamiacagocaa
open Go.RowKit
set_option linter.unusedSimpArgs false
set_option linter.unusedVariables false

/-- a valid method and a bell of its stage -/
def askB (s : ByteArray) (n : Int) (L : List (List Nat)) (b : Int) : Bool := goodM s n L && (decide (1 ≤ b) && decide (b ≤ n))
theorem askB_yes {s : ByteArray} {n : Int} {L : List (List Nat)} {b : Int} (h : askB s n L b = true) : goodM s n L = true ∧ 1 ≤ b ∧ b ≤ n := by
  unfold askB at h
  simp only [Bool.and_eq_true, decide_eq_true_eq] at h
  exact ⟨h.1, h.2.1, h.2.2⟩
theorem askB_of {s : ByteArray} {n : Int} {L : List (List Nat)} {b : Int} (h : goodM s n L = true) (h1 : 1 ≤ b) (h2 : b ≤ n) : askB s n L b = true := by simp [askB, h, h1, h2]
/-- what leadWith gives -/
def WithAny (s : ByteArray) (n : Int) (L : List (List Nat)) (b : Int) (w : World) (e : Ending) (w' : World) : Prop :=
  ∃ a m c f, e = .returned (.tuple #[.agg (leadV (.slice a m c) f), .bool (askB s n L b)]) ∧ (askB s n L b = true → f = rdf n.toNat ∧ NewD w.heap.size w' (.slice a m c) (chR n L)) ∧ Below w.heap.size w w'

set_option maxRecDepth 100000 in
set_option maxHeartbeats 1000000 in
theorem leadWith_any (s : ByteArray) (hs : s.size ≤ maxLen) (n : Int) (v : Value) (L : List (List Nat)) (b : Int) (w : World) (h : Txts w v L) (hl : L.length ≤ 2000000) :
    Calls Try.prog 73 #[.agg #[.string s, .int .i64 n, v], .int .i64 b] w (WithAny s n L b w) := by
  obtain ⟨a, cap, rfl, hcap, -⟩ := id h
  have HT := Lib.hid h
  have HC := Lib.hid (fun w h => leadOf_any s hs n (.slice a L.length cap) L w h hl)
  unfold LeadAny at HC
  unfold WithAny
  have HR0 := Lib.hid ((RowAt.new w 26 #[.string s, .int .i64 n, .slice a L.length cap]).push (.cells zero9 70))
  have HZ0 : Hid (RowAt ((w.alloc (.cells #[.string s, .int .i64 n, .slice a L.length cap] 26)).alloc (.cells zero9 70)) (w.heap.size + 1) 70 zero9) := Lib.hid (by
    have := RowAt.new (w.alloc (.cells #[.string s, .int .i64 n, .slice a L.length cap] 26)) 70 zero9
    simpa using this)
  have HB0 := Lib.hid (((Below.refl _ w).alloc (Nat.le_refl _) (.cells #[.string s, .int .i64 n, .slice a L.length cap] 26)).alloc (by simp) (.cells zero9 70))
  have HAB : Hid (askB s n L b = (goodM s n L && (decide (1 ≤ b) && decide (b ≤ n)))) := Lib.hid rfl
  generalize hchr : chR n L = cs at *
  clear h hcap hl hs hchr
  generalize L.length = m at *
  generalize goodM s n L = gm at *
  generalize askB s n L b = ab at *
  go_enter Try.func73, Try.ntmps73
  go_wp2_with (first | (refine wpList_load_row rfl 26 _ rfl _ rfl 26 _ _ _ (HR0.out) Try.underlying26 rfl (by kernel_rfl) ?_) | fail)
  refine (HC.out _ (HT.out.kept HB0.out)).mono ?_
  rintro e w1 ⟨a1, m1, c1, f1, rfl, hn1, hb1⟩
  have HM2 := Lib.hid ((HR0.out.kept hb1).push (.cells (leadV (.slice a1 m1 c1) f1) 70))
  have HZ2 := Lib.hid ((HZ0.out.kept hb1).push (.cells (leadV (.slice a1 m1 c1) f1) 70))
  have HL2 := Lib.hid (RowAt.new w1 70 (leadV (.slice a1 m1 c1) f1))
  have HB1 := Lib.hid (HB0.out.trans (hb1.mono HB0.out.size))
  have HB2 := Lib.hid (HB1.out.alloc HB1.out.size (.cells (leadV (.slice a1 m1 c1) f1) 70))
  have HN2 : Hid (gm = true → f1 = rdf n.toNat ∧ NewD w.heap.size (w1.alloc (.cells (leadV (.slice a1 m1 c1) f1) 70)) (.slice a1 m1 c1) cs) := Lib.hid fun hg => ⟨(hn1 hg).1, ((hn1 hg).2.kept ((Below.refl _ _).alloc (Nat.le_refl _) _)).lower HB0.out.size⟩
  have HW1 := Lib.hid (Nat.le_trans HB0.out.size hb1.size)
  clear hn1 hb1 HB1 HC HB0 HZ0 HR0
  have d1 := HM2.out.cell 1 rfl
  have hno : ab = false → ∀ W' : World, W' = (w1.alloc (.cells (leadV (.slice a1 m1 c1) f1) 70)).setRow (w.heap.size + 1) zero9 → ∃ a m c f, Ending.returned (.tuple #[.agg zero9, .bool false]) = .returned (.tuple #[.agg (leadV (.slice a m c) f), .bool ab]) ∧ (ab = true → f = rdf n.toNat ∧ NewD w.heap.size W' (.slice a m c) cs) ∧ Below w.heap.size w W' := by
    rintro rfl W' rfl
    exact ⟨none, 0, 0, fun _ => 0, rfl, fun h => (Bool.noConfusion h), below_setRow HB2.out (by omega) _⟩
  have HNO := Lib.hid hno
  clear hno
  cases gm
  · have hab : ab = false := HAB.out
    go_wp2_with (first | (refine wpList_store_row rfl 70 _ _ rfl _ _ rfl rfl 70 _ (heap_at _ _ _ (by simp)) (by kernel_rfl) rfl (by kernel_rfl) ?_; rw [setRow_at _ _ _ _ _ (by simp)]) | (refine wpList_store_row rfl 70 _ _ rfl _ _ rfl rfl 70 _ (HZ2.out) (by kernel_rfl) rfl (by kernel_rfl) ?_) | fail)
    refine bodyPost_ret (results_row_tmp rfl _ _ (w.heap.size + 1) 70 _ (0, 0) _ rfl (HZ2.out.row _) Try.underlying70 rfl (by kernel_rfl)) rfl ?_
    exact HNO.out hab _ rfl
  · by_cases h1 : b < 1
    · have hab : ab = false := by have := HAB.out; simpa [show ¬ 1 ≤ b by omega] using this
      go_wp2_with (first | (refine wpList_store_row rfl 70 _ _ rfl _ _ rfl rfl 70 _ (heap_at _ _ _ (by simp)) (by kernel_rfl) rfl (by kernel_rfl) ?_; rw [setRow_at _ _ _ _ _ (by simp)]) | (refine wpList_store_row rfl 70 _ _ rfl _ _ rfl rfl 70 _ (HZ2.out) (by kernel_rfl) rfl (by kernel_rfl) ?_) | fail)
      refine bodyPost_ret (results_row_tmp rfl _ _ (w.heap.size + 1) 70 _ (0, 0) _ rfl (HZ2.out.row _) Try.underlying70 rfl (by kernel_rfl)) rfl ?_
      exact HNO.out hab _ rfl
    · have h1' : 1 ≤ b := by omega
      by_cases h2 : n < b
      · have hab : ab = false := by have := HAB.out; simpa [show ¬ b ≤ n by omega] using this
        go_wp2_with (first | (refine wpList_store_row rfl 70 _ _ rfl _ _ rfl rfl 70 _ (heap_at _ _ _ (by simp)) (by kernel_rfl) rfl (by kernel_rfl) ?_; rw [setRow_at _ _ _ _ _ (by simp)]) | (refine wpList_store_row rfl 70 _ _ rfl _ _ rfl rfl 70 _ (HZ2.out) (by kernel_rfl) rfl (by kernel_rfl) ?_) | fail)
        refine bodyPost_ret (results_row_tmp rfl _ _ (w.heap.size + 1) 70 _ (0, 0) _ rfl (HZ2.out.row _) Try.underlying70 rfl (by kernel_rfl)) rfl ?_
        exact HNO.out hab _ rfl
      · have h2' : b ≤ n := by omega
        have hab : ab = true := by have := HAB.out; simpa [h1', h2'] using this
        have HN := Lib.hid (HN2.out rfl)
        go_wp2_with (first | (refine wpList_store_row rfl 70 _ _ rfl _ _ rfl rfl 70 _ (heap_at _ _ _ (by simp)) (by kernel_rfl) rfl (by kernel_rfl) ?_; rw [setRow_at _ _ _ _ _ (by simp)]) | (refine wpList_load_row rfl 70 _ rfl _ rfl 70 _ _ _ (HL2.out) Try.underlying70 rfl (by kernel_rfl) ?_) | (refine wpList_store_row rfl 70 _ _ rfl _ _ rfl rfl 70 _ (HZ2.out) (by kernel_rfl) rfl (by kernel_rfl) ?_) | fail)
        subst hab
        refine bodyPost_ret (results_row_tmp rfl _ _ (w.heap.size + 1) 70 _ (0, 0) _ rfl (HZ2.out.row _) Try.underlying70 rfl (by kernel_rfl)) rfl ?_
        refine ⟨a1, m1, c1, f1, rfl, fun _ => ⟨HN.out.1, HN.out.2.setRowOther _ _ ?_⟩, below_setRow HB2.out (by omega) _⟩
        exact HN.out.2.apart8 HZ2.out (by decide)
end Go.Proofs.Ytpfnamiacagocaa
namespace Go.Proofs.Ytpfnamiacagocaa
open Go.RowKit
set_option linter.unusedSimpArgs false
set_option linter.unusedVariables false

/-- the path asked for, and the place bells -/
def pathL (s : ByteArray) (n : Int) (L : List (List Nat)) (b : Int) : List Nat := if askB s n L b = true then pathF n.toNat (chR n L) (rdf n.toNat) b.toNat else []
/-- the first k place bells from bell b on -/
def bellsK (n : Nat) (h : Nat → Nat) (b k : Nat) : List Nat := (List.range k).map fun j => orb n (invF n h) (b - 1) j + 1
noncomputable def bellsF (n : Nat) (h : Nat → Nat) (b : Nat) : List Nat := bellsK n h b (perN n (invF n h) (b - 1))
noncomputable def bellsL (s : ByteArray) (n : Int) (L : List (List Nat)) (b : Int) : List Nat := if askB s n L b = true then bellsF n.toNat (headF n.toNat (chR n L)) b.toNat else []
theorem ints_cyc (n : Nat) (h : Nat → Nat) (b : Nat) : ints (cyc n (invF n h) (b - 1)) = nums (bellsF n h b) := by
  unfold cyc cycTo bellsF bellsK nums ints
  rw [List.map_map, List.map_map, List.map_map]
  rfl

set_option maxRecDepth 100000 in
set_option maxHeartbeats 1000000 in
theorem placeBells_any (n : Nat) (u : Value) (cs : List (Nat → Nat)) (f : Nat → Nat) (hf : IsRow n f) (hc : Rows n cs) (hl : cs.length ≤ 40) (b : Nat) (h1 : 1 ≤ b) (hb : b ≤ n) (w : World) (h : NewD 0 w u cs) :
    Calls Try.prog 82 #[.agg (leadV u f), .int .i64 b] w (NumsOut (bellsF n (endF n cs f) b) w) := by
  obtain ⟨a, cap, hu, hcap, ha⟩ := h.view rfl
  have hh := isRow_end hc hf
  have HHD := Lib.hid (fun w h => head_any n u cs f hf hc hl w h)
  have HIN := Lib.hid (fun w => inverse_any n _ hh w)
  have HCY := Lib.hid (fun w => cycleFrom_any n _ (isRow_inv hh) (b - 1) (by omega) w)
  rw [show (((b - 1 : Nat) : Int) + 1) = (b : Int) by omega] at HCY
  unfold Cycle at HCY
  unfold NumsOut
  have HD := Lib.hid h.digs
  have HRES : Hid (ints (cyc n (invF n (endF n cs f)) (b - 1)) = nums (bellsF n (endF n cs f) b)) := Lib.hid (ints_cyc n (endF n cs f) b)
  have HR0 := Lib.hid (RowAt.new w 70 (leadV u f))
  have HB0 := Lib.hid ((Below.refl _ w).alloc (Nat.le_refl _) (.cells (leadV u f) 70))
  generalize bellsF n (endF n cs f) b = res at *
  generalize cyc n (invF n (endF n cs f)) (b - 1) = cy at *
  generalize invF n (endF n cs f) = fi at *
  generalize endF n cs f = fe at *
  subst hu
  generalize cs.length = m at *
  clear h ha hcap hf hc hl hh
  simp only [leadV] at *
  go_enter Try.func82, Try.ntmps82
  go_wp2_with (first | (refine wpList_load_row rfl 70 _ rfl _ rfl 70 _ _ _ (HR0.out) Try.underlying70 rfl (by kernel_rfl) ?_) | fail)
  refine (HHD.out _ (HD.out.kept HB0.out)).mono ?_
  rintro e w1 ⟨rfl, hb1⟩
  have HB1 := Lib.hid (HB0.out.trans (hb1.mono HB0.out.size))
  clear hb1
  go_wp2_with fail
  refine (HIN.out _).mono ?_
  rintro e w2 ⟨rfl, hb2⟩
  have HB2 := Lib.hid (HB1.out.trans (hb2.mono HB1.out.size))
  clear hb2
  go_wp2_with fail
  refine (HCY.out _).mono ?_
  rintro e w3 ⟨v3, rfl, hn3, hb3⟩
  have HB3 := Lib.hid (HB2.out.trans (hb3.mono HB2.out.size))
  have HN3 : Hid (New w.heap.size w3 3 v3 (nums res)) := Lib.hid (by
    rw [← HRES.out]
    exact ⟨hn3.1, fun g hg => Nat.le_trans HB2.out.size (hn3.2 g hg)⟩)
  clear hb3 hn3
  go_wp2
  go_ret
  exact ⟨_, rfl, HN3.out, HB3.out⟩

set_option maxRecDepth 100000 in
set_option maxHeartbeats 1000000 in
theorem iPathOf_any (s : ByteArray) (hs : s.size ≤ maxLen) (n : Int) (v : Value) (L : List (List Nat)) (b : Int) (w : World) (h : Txts w v L) (hl : L.length ≤ 2000000) :
    Calls Try.prog 23 #[.agg #[.string s, .int .i64 n, v], .int .i64 b] w (NumsAny (pathL s n L b) (askB s n L b) w) := by
  obtain ⟨a, cap, rfl, hcap, -⟩ := id h
  have HT := Lib.hid h
  have HR0 := Lib.hid (RowAt.new w 26 #[.string s, .int .i64 n, .slice a L.length cap])
  have HB0 := Lib.hid ((Below.refl _ w).alloc (Nat.le_refl _) (.cells #[.string s, .int .i64 n, .slice a L.length cap] 26))
  have HC := Lib.hid (fun w h => leadWith_any s hs n (.slice a L.length cap) L b w h hl)
  unfold WithAny at HC
  unfold pathL
  have hask := fun (h : askB s n L b = true) => askB_yes h
  generalize hab : askB s n L b = ab at *
  clear h hcap hl hs hab
  cases ab
  · clear hask
    rw [if_neg Bool.false_ne_true]
    generalize L.length = m at *
    generalize chR n L = cs at *
    go_enter Try.func23, Try.ntmps23
    go_wp2_with (first | (refine wpList_load_row rfl 26 _ rfl _ rfl 26 _ _ _ (HR0.out) Try.underlying26 rfl (by kernel_rfl) ?_) | fail)
    refine (HC.out _ (HT.out.kept HB0.out)).mono ?_
    rintro e w1 ⟨a1, m1, c1, f1, rfl, -, hb1⟩
    have HB1 := Lib.hid (HB0.out.trans (hb1.mono HB0.out.size))
    have HB2 := Lib.hid (HB1.out.alloc HB1.out.size (.cells (leadV (.slice a1 m1 c1) f1) 70))
    clear hb1 HC
    simp only [leadV] at HB2 ⊢
    go_wp2_with (first | (refine wpList_store_row rfl 70 _ _ rfl _ _ rfl rfl 70 _ (heap_at _ _ _ (by simp)) (by kernel_rfl) rfl (by kernel_rfl) ?_; rw [setRow_at _ _ _ _ _ (by simp)]) | fail)
    go_ret2
    exact ⟨_, rfl, New.nil _ _ _, HB2.out⟩
  · obtain ⟨hg, h1, h2⟩ := hask rfl
    have hr := goodAll_range (goodM_parts hg).1
    obtain ⟨n, rfl⟩ := Int.eq_ofNat_of_zero_le (show 0 ≤ n by omega)
    obtain ⟨b, rfl⟩ := Int.eq_ofNat_of_zero_le (show 0 ≤ b by omega)
    obtain ⟨h3, h8, hrows, h40, -⟩ := goodM_nat hg
    have h1 : 1 ≤ b := by omega
    have h2 : b ≤ n := by omega
    have hrd := isRow_rdf h3 h8
    have HG := Lib.hid (fun u w (h : NewD 0 w u (chR n L)) => path_any n u (chR n L) (rdf n) hrd hrows h40 b h1 h2 w h)
    unfold NumsOut at HG
    rw [if_pos rfl]
    simp only [Int.toNat_natCast]
    generalize pathF n (chR n L) (rdf n) b = res at *
    generalize chR n L = cs at *
    generalize L.length = m at *
    clear hask hg hr h3 h8 hrows h40 h1 h2 hrd
    simp only [Int.toNat_natCast] at HC
    generalize rdf n = f0 at *
    go_enter Try.func23, Try.ntmps23
    go_wp2_with (first | (refine wpList_load_row rfl 26 _ rfl _ rfl 26 _ _ _ (HR0.out) Try.underlying26 rfl (by kernel_rfl) ?_) | fail)
    refine (HC.out _ (HT.out.kept HB0.out)).mono ?_
    rintro e w1 ⟨a1, m1, c1, f1, rfl, hn1, hb1⟩
    obtain ⟨rfl, hnn⟩ := hn1 trivial
    have HB1 := Lib.hid (HB0.out.trans (hb1.mono HB0.out.size))
    have HL2 := Lib.hid (RowAt.new w1 70 (leadV (.slice a1 m1 c1) f1))
    have HB2 := Lib.hid (HB1.out.alloc HB1.out.size (.cells (leadV (.slice a1 m1 c1) f1) 70))
    have HN2 := Lib.hid ((hnn.kept ((Below.refl _ _).alloc (Nat.le_refl _) (.cells (leadV (.slice a1 m1 c1) f1) 70))).lower (Nat.zero_le _))
    clear hn1 hnn hb1 HC HB0 HB1
    simp only [leadV] at HL2 HB2 HN2 HG ⊢
    go_wp2_with (first | (refine wpList_store_row rfl 70 _ _ rfl _ _ rfl rfl 70 _ (heap_at _ _ _ (by simp)) (by kernel_rfl) rfl (by kernel_rfl) ?_; rw [setRow_at _ _ _ _ _ (by simp)]) | (refine wpList_load_row rfl 70 _ rfl _ rfl 70 _ _ _ (HL2.out) Try.underlying70 rfl (by kernel_rfl) ?_) | fail)
    refine (HG.out _ _ HN2.out).mono ?_
    rintro e w3 ⟨v3, rfl, hn3, hb3⟩
    have HB3 := Lib.hid (HB2.out.trans (hb3.mono HB2.out.size))
    have HN3 := Lib.hid (hn3.lower HB2.out.size)
    clear hb3 hn3
    go_wp2
    go_ret2
    exact ⟨_, rfl, HN3.out, HB3.out⟩

set_option maxRecDepth 100000 in
set_option maxHeartbeats 1000000 in
theorem iPlaceBells_any (s : ByteArray) (hs : s.size ≤ maxLen) (n : Int) (v : Value) (L : List (List Nat)) (b : Int) (w : World) (h : Txts w v L) (hl : L.length ≤ 2000000) :
    Calls Try.prog 32 #[.agg #[.string s, .int .i64 n, v], .int .i64 b] w (NumsAny (bellsL s n L b) (askB s n L b) w) := by
  obtain ⟨a, cap, rfl, hcap, -⟩ := id h
  have HT := Lib.hid h
  have HR0 := Lib.hid (RowAt.new w 26 #[.string s, .int .i64 n, .slice a L.length cap])
  have HB0 := Lib.hid ((Below.refl _ w).alloc (Nat.le_refl _) (.cells #[.string s, .int .i64 n, .slice a L.length cap] 26))
  have HC := Lib.hid (fun w h => leadWith_any s hs n (.slice a L.length cap) L b w h hl)
  unfold WithAny at HC
  unfold bellsL
  have hask := fun (h : askB s n L b = true) => askB_yes h
  generalize hab : askB s n L b = ab at *
  clear h hcap hl hs hab
  cases ab
  · clear hask
    rw [if_neg Bool.false_ne_true]
    generalize L.length = m at *
    generalize chR n L = cs at *
    go_enter Try.func32, Try.ntmps32
    go_wp2_with (first | (refine wpList_load_row rfl 26 _ rfl _ rfl 26 _ _ _ (HR0.out) Try.underlying26 rfl (by kernel_rfl) ?_) | fail)
    refine (HC.out _ (HT.out.kept HB0.out)).mono ?_
    rintro e w1 ⟨a1, m1, c1, f1, rfl, -, hb1⟩
    have HB1 := Lib.hid (HB0.out.trans (hb1.mono HB0.out.size))
    have HB2 := Lib.hid (HB1.out.alloc HB1.out.size (.cells (leadV (.slice a1 m1 c1) f1) 70))
    clear hb1 HC
    simp only [leadV] at HB2 ⊢
    go_wp2_with (first | (refine wpList_store_row rfl 70 _ _ rfl _ _ rfl rfl 70 _ (heap_at _ _ _ (by simp)) (by kernel_rfl) rfl (by kernel_rfl) ?_; rw [setRow_at _ _ _ _ _ (by simp)]) | fail)
    go_ret2
    exact ⟨_, rfl, New.nil _ _ _, HB2.out⟩
  · obtain ⟨hg, h1, h2⟩ := hask rfl
    have hr := goodAll_range (goodM_parts hg).1
    obtain ⟨n, rfl⟩ := Int.eq_ofNat_of_zero_le (show 0 ≤ n by omega)
    obtain ⟨b, rfl⟩ := Int.eq_ofNat_of_zero_le (show 0 ≤ b by omega)
    obtain ⟨h3, h8, hrows, h40, -⟩ := goodM_nat hg
    have h1 : 1 ≤ b := by omega
    have h2 : b ≤ n := by omega
    have hrd := isRow_rdf h3 h8
    have HG : Hid (∀ u w, NewD 0 w u (chR n L) → Calls Try.prog 82 #[.agg (leadV u (rdf n)), .int .i64 b] w (NumsOut (bellsF n (headF n (chR n L)) b) w)) := Lib.hid (fun u w (h : NewD 0 w u (chR n L)) => placeBells_any n u (chR n L) (rdf n) hrd hrows h40 b h1 h2 w h)
    unfold NumsOut at HG
    rw [if_pos rfl]
    simp only [Int.toNat_natCast]
    generalize bellsF n (headF n (chR n L)) b = res at *
    generalize chR n L = cs at *
    generalize L.length = m at *
    clear hask hg hr h3 h8 hrows h40 h1 h2 hrd
    simp only [Int.toNat_natCast] at HC
    generalize rdf n = f0 at *
    go_enter Try.func32, Try.ntmps32
    go_wp2_with (first | (refine wpList_load_row rfl 26 _ rfl _ rfl 26 _ _ _ (HR0.out) Try.underlying26 rfl (by kernel_rfl) ?_) | fail)
    refine (HC.out _ (HT.out.kept HB0.out)).mono ?_
    rintro e w1 ⟨a1, m1, c1, f1, rfl, hn1, hb1⟩
    obtain ⟨rfl, hnn⟩ := hn1 trivial
    have HB1 := Lib.hid (HB0.out.trans (hb1.mono HB0.out.size))
    have HL2 := Lib.hid (RowAt.new w1 70 (leadV (.slice a1 m1 c1) f1))
    have HB2 := Lib.hid (HB1.out.alloc HB1.out.size (.cells (leadV (.slice a1 m1 c1) f1) 70))
    have HN2 := Lib.hid ((hnn.kept ((Below.refl _ _).alloc (Nat.le_refl _) (.cells (leadV (.slice a1 m1 c1) f1) 70))).lower (Nat.zero_le _))
    clear hn1 hnn hb1 HC HB0 HB1
    simp only [leadV] at HL2 HB2 HN2 HG ⊢
    go_wp2_with (first | (refine wpList_store_row rfl 70 _ _ rfl _ _ rfl rfl 70 _ (heap_at _ _ _ (by simp)) (by kernel_rfl) rfl (by kernel_rfl) ?_; rw [setRow_at _ _ _ _ _ (by simp)]) | (refine wpList_load_row rfl 70 _ rfl _ rfl 70 _ _ _ (HL2.out) Try.underlying70 rfl (by kernel_rfl) ?_) | fail)
    refine (HG.out _ _ HN2.out).mono ?_
    rintro e w3 ⟨v3, rfl, hn3, hb3⟩
    have HB3 := Lib.hid (HB2.out.trans (hb3.mono HB2.out.size))
    have HN3 := Lib.hid (hn3.lower HB2.out.size)
    clear hb3 hn3
    go_wp2
    go_ret2
    exact ⟨_, rfl, HN3.out, HB3.out⟩
end Go.Proofs.Ytpfnamiacagocaa
