/- The path of a bell through a lead, in the program. -/
import Derived.Test.YtpfnamiacagocaaE2
import Derived.Test.YtpfnamiacagocaaE6
namespace Go.Proofs.Ytpfnamiacagocaa
open Go.RowKit
set_option linter.unusedSimpArgs false
set_option linter.unusedVariables false
attribute [local go_sem] Oper.semAt_some

/-- a slice of numbers of its own -/
def NumsOut (xs : List Nat) (w : World) (e : Ending) (w' : World) : Prop := ∃ v, e = .returned v ∧ New w.heap.size w' 3 v (nums xs) ∧ Below w.heap.size w w'
theorem New.offC {B B' : Nat} {A C : World} {t : TypeId} {v : Value} {xs : List Value} (h : New B A t v xs) (ht : t ≠ 68) (k : OffC B' A C) : New B C t v xs := by
  obtain ⟨⟨h1, h2⟩, h3⟩ := h
  refine ⟨⟨h1, ?_⟩, h3⟩
  rcases h2 with h0 | ⟨g, cap, cur, rfl, hbg, hg, hr⟩
  · exact .inl h0
  · exact .inr ⟨g, cap, cur, rfl, hbg, k.same _ _ _ _ ht hg, hr⟩
/-- what stands between two rounds: the path so far in its box, the bell's box -/
def PathI (n b : Nat) (w : World) (Bp Bb : Nat) (pre : List (Nat → Nat)) (W : World) : Prop :=
  ∃ v, RowAt W Bp 39 #[v] ∧ New (w.heap.size + 3) W 3 v (nums (pre.map fun g => plc n g b)) ∧ RowAt W Bb 3 #[.int .i64 b] ∧ Below w.heap.size w W

theorem PathI.off {n b : Nat} {w : World} {Bp Bb B' : Nat} (hB : w.heap.size ≤ B') : ∀ s A C, PathI n b w Bp Bb s A → OffC B' A C → PathI n b w Bp Bb s C := by
  rintro s A C ⟨v, h1, h2, h3, h4⟩ hoff
  exact ⟨v, hoff.same _ _ _ _ (by decide) h1, h2.offC (by decide) hoff, hoff.same _ _ _ _ (by decide) h3, h4.trans (hoff.below.mono hB)⟩

theorem path_fin {n b : Nat} {w A W1 W2 : World} {Bp Bb : Nat} {pre : List (Nat → Nat)} {x : Nat → Nat} {v v' : Value} {act : Act} (hBp : w.heap.size ≤ Bp) (hne : Bp ≠ Bb) (hBb : Bb < w.heap.size + 3)
    (hp : RowAt A Bp 39 #[v]) (hnew : New (w.heap.size + 3) A 3 v (nums (pre.map fun g => plc n g b))) (hbb : RowAt A Bb 3 #[.int .i64 b]) (hbel : Below w.heap.size w A)
    (hb1 : Below A.drew.heap.size A.drew W1) (hn2 : New (w.heap.size + 3) W2 3 v' (nums (pre.map fun g => plc n g b) ++ [.int .i64 (plc n x b)])) (hk2 : KeptBut W1 W2 v) (hb2 : Below (w.heap.size + 3) W1 W2) :
    roundEnd (PathI n b w Bp Bb) (pre ++ [x]) A .normal act (W2.setCell ⟨Bp, 0, none⟩ v') := by
  have hb1' : Below A.heap.size A W1 := ⟨hb1.os, hb1.tape, hb1.output, hb1.size, hb1.block⟩
  have hkeep : ∀ (k : Nat) (o : Obj), A.heap[k]? = some o → v.ownBlock ≠ some k → W2.heap[k]? = some o := fun k o hk hv => by
    have hlt := (Array.getElem?_eq_some_iff.1 hk).1
    exact (hk2 k (Nat.lt_of_lt_of_le hlt hb1'.size) hv).trans ((hb1'.block k hlt).trans hk)
  have hkeep2 : ∀ (k : Nat) (o : Obj), A.heap[k]? = some o → v.ownBlock ≠ some k → k ≠ Bp → (W2.setCell ⟨Bp, 0, none⟩ v').heap[k]? = some o := fun k o hk hv hkB =>
    (heap_setCell_other W2 ⟨Bp, 0, none⟩ k v' hkB).trans (hkeep k o hk hv)
  have hown : ∀ g, v.ownBlock = some g → ∃ cur fz, A.heap[g]? = some (.cells cur 3 fz) := fun g hg => by
    obtain ⟨⟨-, h2⟩, -⟩ := hnew
    rcases h2 with ⟨rfl, _⟩ | ⟨g', cap, cur, rfl, _, hg', _⟩
    · simp [Value.ownBlock] at hg
    · have e : g' = g := by simpa [Value.ownBlock] using hg
      subst e
      exact ⟨_, _, hg'⟩
  have hvp := hnew.apartRow hp (by decide)
  have hp2 : RowAt W2 Bp 39 #[v] := hkeep _ _ hp hvp
  have hne2 := hn2.apartRow hp2 (by decide)
  have hvb : v.ownBlock ≠ some Bb := fun e => by have := hnew.base _ e; omega
  have hsz : W1.heap.size ≤ W2.heap.size := hb2.size
  refine ⟨⟨v', hp2.set 0 v', ?_, ?_, ?_⟩, ⟨?_, ?_⟩, ⟨?_, ?_⟩⟩
  · have := hn2.setOther Bp 0 v' hne2
    simpa [nums, ints] using this
  · exact hkeep2 _ _ hbb hvb (Ne.symm hne)
  · exact (hbel.trans ((hb1'.mono hbel.size).trans (hb2.mono (by omega)))).setCell (p := ⟨Bp, 0, none⟩) hBp v'
  · have : (W2.setCell ⟨Bp, 0, none⟩ v').heap.size = W2.heap.size := by simp
    have := hb1'.size
    omega
  · intro k cs hk
    refine hkeep2 _ _ hk (fun e => ?_) (fun e => ?_)
    · obtain ⟨cur, fz, hg⟩ := hown k e
      rw [hk] at hg
      simp at hg
    · subst e
      have := hk.symm.trans hp
      simp at this
  · have : (W2.setCell ⟨Bp, 0, none⟩ v').heap.size = W2.heap.size := by simp
    have := hb1'.size
    omega
  · intro k o hk ho
    refine hkeep2 _ _ hk (fun e => ?_) (fun e => ?_)
    · obtain ⟨cur, fz, hg⟩ := hown k e
      rw [hk] at hg
      cases hg
      cases ho
    · subst e
      have := hk.symm.trans hp
      cases this
      cases ho

set_option maxRecDepth 100000 in
set_option maxHeartbeats 1000000 in
theorem path_any (n : Nat) (u : Value) (cs : List (Nat → Nat)) (f : Nat → Nat) (hf : IsRow n f) (hc : Rows n cs) (hl : cs.length ≤ 40) (b : Nat) (h1 : 1 ≤ b) (hb : b ≤ n) (w : World) (h : NewD 0 w u cs) :
    Calls Try.prog 61 #[.agg (leadV u f), .int .i64 b] w (NumsOut (pathF n cs f b) w) := by
  obtain ⟨a, cap, hu, hcap, ha⟩ := h.view rfl
  have hvis := fun w => visited_any u f a cs.length cap hu w
  clear hu ha hcap
  have HR0 := Lib.hid (((RowAt.new w 70 (leadV u f)).push (.cells #[.int .i64 b] 3)).push (.cells #[.slice none 0 0] 39))
  refine (callsIn_wide (n := 5)).1 ?_
  refine callsIn_of_wp_marks Try.func61 rfl trivial ?_ rfl
  simp only [Try.ntmps61, List.size_toArray, List.length_cons, List.length_nil, Nat.reduceAdd, Nat.reduceSub, Array.replicate_succ, Array.replicate_zero, List.push_toArray, List.append_toArray, List.nil_append, List.cons_append]
  gi_wp2_with (first | (refine ⟨trivial, ?_⟩; gi_at_call 99; refine (callsIn_wide.2 (hvis _)).mono ?_; rintro e w' ⟨rfl, rfl⟩) | (refine wpListIn_load_row rfl 70 _ rfl _ rfl 70 _ _ _ HR0.out Try.underlying70 rfl (by kernel_rfl) ?_) | fail)
  obtain ⟨W3, hW3⟩ : ∃ W3, ((w.alloc (.cells (leadV u f) 70)).alloc (.cells #[.int .i64 b] 3)).alloc (.cells #[.slice none 0 0] 39) = W3 := ⟨_, rfl⟩
  have hs3 : W3.heap.size = w.heap.size + 3 := by rw [← hW3]; simp
  have hb3 : Below w.heap.size w W3 := by rw [← hW3]; exact (((Below.refl _ w).alloc (Nat.le_refl _) _).alloc (by simp) _).alloc (by simp; omega) _
  have hp3 : RowAt W3 (w.heap.size + 1 + 1) 39 #[.slice none 0 0] := by
    rw [← hW3]
    have := RowAt.new ((w.alloc (.cells (leadV u f) 70)).alloc (.cells #[.int .i64 b] 3)) 39 #[.slice none 0 0]
    simpa using this
  have hbb3 : RowAt W3 (w.heap.size + 1) 3 #[.int .i64 b] := by
    rw [← hW3]
    have := (RowAt.new (w.alloc (.cells (leadV u f) 70)) 3 #[.int .i64 b]).push (.cells #[.slice none 0 0] 39)
    simpa using this
  rw [hW3] at HR0
  try rw [hW3]
  have hbox : RowAt (W3.alloc (.cells (leadV u f) 70)) W3.heap.size 70 (leadV u f) := RowAt.new _ _ _
  have hb4 : Below W3.heap.size W3 (W3.alloc (.cells (leadV u f) 70)) := (Below.refl _ _).alloc (Nat.le_refl _) _
  have hi3 : PathI n b w (w.heap.size + 1 + 1) (w.heap.size + 1) [] W3 := ⟨_, hp3, New.nil _ _ _, hbb3, hb3⟩
  have hn4 := (h.kept (hb3.mono (Nat.le_refl _))).kept hb4
  have hi4 := PathI.off (B' := w.heap.size) (Nat.le_refl _) _ _ _ hi3 ((OffT.of_below hb4 w.heap.size (by omega)).offC (Nat.le_refl _))
  have hs4 : (W3.alloc (.cells (leadV u f) 70)).heap.size = w.heap.size + 4 := by simp; omega
  rw [hs3] at hbox
  generalize W3.alloc (.cells (leadV u f) 70) = W4 at *
  clear hi3 hb4 hp3 hbb3 hb3 hW3 HR0 hvis hs3 h
  refine rangeT (m := 3) 40 (gf := 121) (lb := #[.pointer (some ⟨w.heap.size + 1 + 1 + 1, 0, none⟩)]) rfl (enters_of Try.func121 (by kernel_rfl) rfl)
    (fun x : Nat → Nat => .agg (dig8 x)) (IsRow n) (leadF n cs f ++ [endF n cs f]) (PathI n b w (w.heap.size + 1 + 1) (w.heap.size + 1)) (PathI.off (by omega)) hi4 ?seq
    (fun x k => { tmps := #[.agg (leadV u f), .int .i64 b, .pointer (some ⟨w.heap.size, 0, none⟩), .pointer (some ⟨w.heap.size + 1, 0, none⟩), .slice none 0 0, .pointer (some ⟨w.heap.size + 1 + 1, 0, none⟩), .pointer (some ⟨k, 0, none⟩), .agg (leadV u f), .func (.func 121) #[] #[.pointer (some ⟨w.heap.size + 1 + 1 + 1, 0, none⟩)], .agg (dig8 x), undef, undef, undef, undef, undef, undef, undef], defers := [] })
    (fun x => .cells (dig8 x) 68) ?assign ?body ?done
  case seq =>
    intro l J W hW hJ hY h0
    exact visited1_in l 3 n u cs f hf hc hl _ J W hJ hY (hbox.kept hW) (hn4.kept hW) h0
  case assign =>
    intro l x A K hK
    gi_wp2_with (first | (refine wpListIn_store_row rfl 68 _ _ rfl _ _ rfl rfl 68 _ (heap_at _ _ _ (by simp)) (by kernel_rfl) rfl (by kernel_rfl) ?_; rw [setRow_at _ _ _ _ _ (by simp)]) | fail)
    exact hK
  case body =>
    rintro l pre x k A hx hN ⟨v, hp, hnew, hbb, hbel⟩ hk hrow
    have hwA0 : w.heap.size + 3 ≤ A.heap.size := hp.lt
    gi_wp2
    refine wpIn_round_held (S := fun W' => RowAt W' k 68 (dig8 x) ∧ RowAt W' (w.heap.size + 1) 3 #[.int .i64 b]) (by kernel_rfl) (by kernel_rfl) (fun ⟨_, _, h⟩ => h) ?_
    have hS : RowAt A.drew k 68 (dig8 x) ∧ RowAt A.drew (w.heap.size + 1) 3 #[.int .i64 b] := ⟨hrow, hbb⟩
    have HPL := Lib.hid (fun W => placeOf_any n x hx b h1 hb W)
    obtain ⟨p1, p2, -⟩ := plc_spec hx h1 hb
    obtain ⟨i0, hi0, hz0, hz1, hz2⟩ := info_parts infoInt
    have I0 := Lib.hid (⟨hi0, hz0, hz1, hz2⟩ : _ ∧ _ ∧ _ ∧ _)
    have hvv : ∃ a' m' c', v = .slice a' m' c' := by
      obtain ⟨a', c', e, -⟩ := hnew.own.view
      exact ⟨a', _, c', e⟩
    obtain ⟨a', m', c', rfl⟩ := hvv
    have hlen : (nums (pre.map fun g => plc n g b)).length ≤ 100000 := by rw [nums_len]; simp; omega
    have FIN := Lib.hid (fun (W1 W2 : World) (v' : Value) (act : Act) hb1 hn2 hk2 hb2 => path_fin (n := n) (b := b) (w := w) (A := A) (W1 := W1) (W2 := W2) (Bp := w.heap.size + 1 + 1) (Bb := w.heap.size + 1) (pre := pre) (x := x) (v := .slice a' m' c') (v' := v') (act := act) (by omega) (by omega) (by omega) hp hnew hbb hbel hb1 hn2 hk2 hb2)
    have HP := Lib.hid hp
    have HNEW := Lib.hid hnew
    have HLEN := Lib.hid hlen
    have hwA : w.heap.size + 3 ≤ A.heap.size := hwA0
    generalize plc n x b = pp at *
    clear hp hnew hlen hi0 hz0 hz1 hz2 hi4 hbox hn4
    refine wpAnyH_take (i := 1) (v := .agg (dig8 x)) rfl (by kernel_rfl) (by kernel_rfl) (by kernel_rfl) (fun _ _ _ h => h) (Or.inl ⟨by rfl, fun W' hW' => ?_⟩) hS ?_
    · have hr := run_loadVar_row (P := Try.prog) W' k 68 68 (dig8 x) (0, 0) _ hW'.1 Try.underlying68 rfl (by kernel_rfl)
      unfold execOp
      simp [Act.eval, Instr.loadAt, Instr.sureAddr, Sem.run_bind, Sem.run_pure, Result.andThen_ok, hr]
    try simp only [Act.put, List.setIfInBounds_toArray, List.set_cons_zero, List.set_cons_succ]
    refine wpAnyH_take (i := 2) (v := .int .i64 b) rfl (by kernel_rfl) (by kernel_rfl) (by kernel_rfl) (fun _ _ _ h => h) (Or.inl ⟨by rfl, fun W' hW' => ?_⟩) hS ?_
    · have hc := hW'.2.cell 0 rfl
      go_simp
    try simp only [Act.put, List.setIfInBounds_toArray, List.set_cons_zero, List.set_cons_succ]
    refine wpAnyH_ready (rs := [0, 3]) (by kernel_rfl) (by simp) ?_
    refine AllReadyH.cons rfl (fun K hK => ?_) (AllReadyH.cons rfl (fun K hK => ?_) AllReadyH.nil)
    · have hc : A.drew.cell? ⟨w.heap.size + 1 + 1, 0, none⟩ = some (.slice a' m' c') := HP.out.cell 0 rfl
      go_simp
      refine hK.out _ _ hS (fun _ => ?_)
      clear hK K
      try simp only [Act.put, List.setIfInBounds_toArray, List.set_cons_zero, List.set_cons_succ]
      refine wpAnyH_ready (rs := [3]) (by kernel_rfl) (by simp) ?_
      refine AllReadyH.cons rfl (fun K hK => ?_) AllReadyH.nil
      go_simp
      refine (HPL.out _).mono ?_
      rintro e W1 ⟨rfl, hb1⟩
      have hS1 : RowAt W1 k 68 (dig8 x) ∧ RowAt W1 (w.heap.size + 1) 3 #[.int .i64 b] := ⟨hS.1.kept hb1, hS.2.kept hb1⟩
      have HP1 : Hid (RowAt W1 (w.heap.size + 1 + 1) 39 #[.slice a' m' c']) := Lib.hid ((show RowAt A.drew (w.heap.size + 1 + 1) 39 #[.slice a' m' c'] from HP.out).kept hb1)
      have HNEW1 : Hid (New (w.heap.size + 3) W1 3 (.slice a' m' c') (nums (pre.map fun g => plc n g b))) := Lib.hid ((show New (w.heap.size + 3) A.drew 3 (.slice a' m' c') (nums (pre.map fun g => plc n g b)) from ⟨HNEW.out.own, HNEW.out.base⟩).kept hb1)
      have hw1 : w.heap.size + 3 ≤ W1.heap.size := Nat.le_trans hwA hb1.size
      have HB1 := Lib.hid hb1
      clear hb1
      try go_simp
      refine hK.out _ _ hS1 (fun _ => ?_)
      clear hK K
      try simp only [Act.put, List.setIfInBounds_toArray, List.set_cons_zero, List.set_cons_succ]
      refine wpAnyH_ready (rs := [4]) (by kernel_rfl) (by simp) ?_
      refine AllReadyH.cons rfl (fun K hK => ?_) AllReadyH.nil
      go_simp
      have hS2 : RowAt (W1.alloc (.cells #[.int .i64 pp] 3)) k 68 (dig8 x) ∧ RowAt (W1.alloc (.cells #[.int .i64 pp] 3)) (w.heap.size + 1) 3 #[.int .i64 b] := ⟨hS1.1.push _, hS1.2.push _⟩
      refine hK.out _ _ hS2 (fun _ => ?_)
      clear hK K
      try simp only [Act.put, List.setIfInBounds_toArray, List.set_cons_zero, List.set_cons_succ]
      refine wpAnyH_ready (rs := [5]) (by kernel_rfl) (by simp) ?_
      refine AllReadyH.cons rfl (fun K hK => ?_) AllReadyH.nil
      refine step_app1 rfl (.tmp 10) (.tmp 14) 39 rfl 3 i0 (.int .i64 0) 8 Try.underlying39 I0.out.1 I0.out.2.1 I0.out.2.2.1 I0.out.2.2.2 rfl (w.heap.size + 3) _ _ rfl HNEW1.out rfl rfl hw1 HLEN.out (by omega) ?_
      intro v' W2 hn2 hk2 hb2
      obtain ⟨a9, c9, hv9, -⟩ := hn2.own.view
      rw [List.length_append, List.length_singleton] at hv9
      subst hv9
      have hne5 : (Value.slice a' m' c').ownBlock ≠ some (w.heap.size + 1) := fun e => by have := HNEW1.out.base _ e; omega
      have HN2 := Lib.hid hn2
      have HK2 := Lib.hid hk2
      have HB2 := Lib.hid hb2
      have hS3 : RowAt W2 k 68 (dig8 x) ∧ RowAt W2 (w.heap.size + 1) 3 #[.int .i64 b] := ⟨hk2.row hS1.1 (HNEW1.out.apartRow hS1.1 (by decide)), hk2.row hS1.2 hne5⟩
      have hP2 := hk2.row HP1.out (HNEW1.out.apartRow HP1.out (by decide))
      have c2 := hP2.cell 0 rfl
      have f2 := hP2.free 0
      have hne6 := HN2.out.apartRow hP2 (by decide)
      clear hn2 hk2 hb2
      refine hK.out _ _ hS3 (fun _ => ?_)
      clear hK K
      try simp only [Act.put, List.setIfInBounds_toArray, List.set_cons_zero, List.set_cons_succ]
      refine wpAnyH_ready (rs := [6]) (by kernel_rfl) (by simp) ?_
      refine AllReadyH.cons rfl (fun K hK => ?_) AllReadyH.nil
      go_simp
      refine hK.out _ _ ⟨hS3.1.other _ _ (fun e => by have := hS3.1; rw [e] at this; have h7 := this.symm.trans hP2; simp at h7), hS3.2.other _ _ (by simp)⟩ (fun _ => ?_)
      clear hK K
      try simp only [Act.put, List.setIfInBounds_toArray, List.set_cons_zero, List.set_cons_succ]
      refine wpAnyH_done (by kernel_rfl) ?_ _
      exact FIN.out W1 W2 _ { tmps := #[], defers := [] } HB1.out HN2.out HK2.out HB2.out
    · go_simp
      refine (HPL.out _).mono ?_
      rintro e W1 ⟨rfl, hb1⟩
      have hS1 : RowAt W1 k 68 (dig8 x) ∧ RowAt W1 (w.heap.size + 1) 3 #[.int .i64 b] := ⟨hS.1.kept hb1, hS.2.kept hb1⟩
      have HP1 : Hid (RowAt W1 (w.heap.size + 1 + 1) 39 #[.slice a' m' c']) := Lib.hid ((show RowAt A.drew (w.heap.size + 1 + 1) 39 #[.slice a' m' c'] from HP.out).kept hb1)
      have HNEW1 : Hid (New (w.heap.size + 3) W1 3 (.slice a' m' c') (nums (pre.map fun g => plc n g b))) := Lib.hid ((show New (w.heap.size + 3) A.drew 3 (.slice a' m' c') (nums (pre.map fun g => plc n g b)) from ⟨HNEW.out.own, HNEW.out.base⟩).kept hb1)
      have hw1 : w.heap.size + 3 ≤ W1.heap.size := Nat.le_trans hwA hb1.size
      have HB1 := Lib.hid hb1
      clear hb1
      try go_simp
      refine hK.out _ _ hS1 (fun _ => ?_)
      clear hK K
      try simp only [Act.put, List.setIfInBounds_toArray, List.set_cons_zero, List.set_cons_succ]
      refine wpAnyH_ready (rs := [0, 4]) (by kernel_rfl) (by simp) ?_
      refine AllReadyH.cons rfl (fun K hK => ?_) (AllReadyH.cons rfl (fun K hK => ?_) AllReadyH.nil)
      · have hc1 : W1.cell? ⟨w.heap.size + 1 + 1, 0, none⟩ = some (.slice a' m' c') := HP1.out.cell 0 rfl
        go_simp
        refine hK.out _ _ hS1 (fun _ => ?_)
        clear hK K
        try simp only [Act.put, List.setIfInBounds_toArray, List.set_cons_zero, List.set_cons_succ]
        refine wpAnyH_ready (rs := [4]) (by kernel_rfl) (by simp) ?_
        refine AllReadyH.cons rfl (fun K hK => ?_) AllReadyH.nil
        go_simp
        have hS2 : RowAt (W1.alloc (.cells #[.int .i64 pp] 3)) k 68 (dig8 x) ∧ RowAt (W1.alloc (.cells #[.int .i64 pp] 3)) (w.heap.size + 1) 3 #[.int .i64 b] := ⟨hS1.1.push _, hS1.2.push _⟩
        refine hK.out _ _ hS2 (fun _ => ?_)
        clear hK K
        try simp only [Act.put, List.setIfInBounds_toArray, List.set_cons_zero, List.set_cons_succ]
        refine wpAnyH_ready (rs := [5]) (by kernel_rfl) (by simp) ?_
        refine AllReadyH.cons rfl (fun K hK => ?_) AllReadyH.nil
        refine step_app1 rfl (.tmp 10) (.tmp 14) 39 rfl 3 i0 (.int .i64 0) 8 Try.underlying39 I0.out.1 I0.out.2.1 I0.out.2.2.1 I0.out.2.2.2 rfl (w.heap.size + 3) _ _ rfl HNEW1.out rfl rfl hw1 HLEN.out (by omega) ?_
        intro v' W2 hn2 hk2 hb2
        obtain ⟨a9, c9, hv9, -⟩ := hn2.own.view
        rw [List.length_append, List.length_singleton] at hv9
        subst hv9
        have hne5 : (Value.slice a' m' c').ownBlock ≠ some (w.heap.size + 1) := fun e => by have := HNEW1.out.base _ e; omega
        have HN2 := Lib.hid hn2
        have HK2 := Lib.hid hk2
        have HB2 := Lib.hid hb2
        have hS3 : RowAt W2 k 68 (dig8 x) ∧ RowAt W2 (w.heap.size + 1) 3 #[.int .i64 b] := ⟨hk2.row hS1.1 (HNEW1.out.apartRow hS1.1 (by decide)), hk2.row hS1.2 hne5⟩
        have hP2 := hk2.row HP1.out (HNEW1.out.apartRow HP1.out (by decide))
        have c2 := hP2.cell 0 rfl
        have f2 := hP2.free 0
        have hne6 := HN2.out.apartRow hP2 (by decide)
        clear hn2 hk2 hb2
        refine hK.out _ _ hS3 (fun _ => ?_)
        clear hK K
        try simp only [Act.put, List.setIfInBounds_toArray, List.set_cons_zero, List.set_cons_succ]
        refine wpAnyH_ready (rs := [6]) (by kernel_rfl) (by simp) ?_
        refine AllReadyH.cons rfl (fun K hK => ?_) AllReadyH.nil
        go_simp
        refine hK.out _ _ ⟨hS3.1.other _ _ (fun e => by have := hS3.1; rw [e] at this; have h7 := this.symm.trans hP2; simp at h7), hS3.2.other _ _ (by simp)⟩ (fun _ => ?_)
        clear hK K
        try simp only [Act.put, List.setIfInBounds_toArray, List.set_cons_zero, List.set_cons_succ]
        refine wpAnyH_done (by kernel_rfl) ?_ _
        exact FIN.out W1 W2 _ { tmps := #[], defers := [] } HB1.out HN2.out HK2.out HB2.out
      · go_simp
        have hS2 : RowAt (W1.alloc (.cells #[.int .i64 pp] 3)) k 68 (dig8 x) ∧ RowAt (W1.alloc (.cells #[.int .i64 pp] 3)) (w.heap.size + 1) 3 #[.int .i64 b] := ⟨hS1.1.push _, hS1.2.push _⟩
        refine hK.out _ _ hS2 (fun _ => ?_)
        clear hK K
        try simp only [Act.put, List.setIfInBounds_toArray, List.set_cons_zero, List.set_cons_succ]
        refine wpAnyH_ready (rs := [0]) (by kernel_rfl) (by simp) ?_
        refine AllReadyH.cons rfl (fun K hK => ?_) AllReadyH.nil
        have hc1 : (W1.alloc (.cells #[.int .i64 pp] 3)).cell? ⟨w.heap.size + 1 + 1, 0, none⟩ = some (.slice a' m' c') := (HP1.out.push _).cell 0 rfl
        go_simp
        refine hK.out _ _ hS2 (fun _ => ?_)
        clear hK K
        try simp only [Act.put, List.setIfInBounds_toArray, List.set_cons_zero, List.set_cons_succ]
        refine wpAnyH_ready (rs := [5]) (by kernel_rfl) (by simp) ?_
        refine AllReadyH.cons rfl (fun K hK => ?_) AllReadyH.nil
        refine step_app1 rfl (.tmp 10) (.tmp 14) 39 rfl 3 i0 (.int .i64 0) 8 Try.underlying39 I0.out.1 I0.out.2.1 I0.out.2.2.1 I0.out.2.2.2 rfl (w.heap.size + 3) _ _ rfl HNEW1.out rfl rfl hw1 HLEN.out (by omega) ?_
        intro v' W2 hn2 hk2 hb2
        obtain ⟨a9, c9, hv9, -⟩ := hn2.own.view
        rw [List.length_append, List.length_singleton] at hv9
        subst hv9
        have hne5 : (Value.slice a' m' c').ownBlock ≠ some (w.heap.size + 1) := fun e => by have := HNEW1.out.base _ e; omega
        have HN2 := Lib.hid hn2
        have HK2 := Lib.hid hk2
        have HB2 := Lib.hid hb2
        have hS3 : RowAt W2 k 68 (dig8 x) ∧ RowAt W2 (w.heap.size + 1) 3 #[.int .i64 b] := ⟨hk2.row hS1.1 (HNEW1.out.apartRow hS1.1 (by decide)), hk2.row hS1.2 hne5⟩
        have hP2 := hk2.row HP1.out (HNEW1.out.apartRow HP1.out (by decide))
        have c2 := hP2.cell 0 rfl
        have f2 := hP2.free 0
        have hne6 := HN2.out.apartRow hP2 (by decide)
        clear hn2 hk2 hb2
        refine hK.out _ _ hS3 (fun _ => ?_)
        clear hK K
        try simp only [Act.put, List.setIfInBounds_toArray, List.set_cons_zero, List.set_cons_succ]
        refine wpAnyH_ready (rs := [6]) (by kernel_rfl) (by simp) ?_
        refine AllReadyH.cons rfl (fun K hK => ?_) AllReadyH.nil
        go_simp
        refine hK.out _ _ ⟨hS3.1.other _ _ (fun e => by have := hS3.1; rw [e] at this; have h7 := this.symm.trans hP2; simp at h7), hS3.2.other _ _ (by simp)⟩ (fun _ => ?_)
        clear hK K
        try simp only [Act.put, List.setIfInBounds_toArray, List.set_cons_zero, List.set_cons_succ]
        refine wpAnyH_done (by kernel_rfl) ?_ _
        exact FIN.out W1 W2 _ { tmps := #[], defers := [] } HB1.out HN2.out HK2.out HB2.out
  case done =>
    rintro D A hD ⟨v, hp, hnew, hbb, hbel⟩ hK
    have hpc := hp.cell 0 rfl
    gi_wp2
    refine ⟨by simp, .inl ⟨_, _, rfl, run_takeDeferred hK, ?_⟩⟩
    have hoff : OffC w.heap.size A (A.putObj D (.deferred none)) := OffC.putObj (by omega) hK rfl
    exact ⟨_, results_tmp rfl _ _ _, v, rfl, (hnew.lower (by omega)).offC (by decide) hoff, hbel.trans hoff.below⟩
end Go.Proofs.Ytpfnamiacagocaa
