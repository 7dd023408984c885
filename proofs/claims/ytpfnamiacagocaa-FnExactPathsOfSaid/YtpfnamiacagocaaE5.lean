/- The iterator over the rows of a lead, in the program: its contract for every loop that keeps the rows. -/
import Derived.RangeFuncCalls
import Derived.WalkKit
import Derived.OwnWalkIn
import Derived.TacticsInMore
import Derived.Sort.LoopGhostIn
import Derived.Test.YtpfnamiacagocaaE4
namespace Go.Proofs.Ytpfnamiacagocaa
open Go.RowKit
set_option linter.unusedSimpArgs false
set_option linter.unusedVariables false
attribute [local go_sem] Oper.semAt_some

section
variable {F : Fence} {m : Nat} {P : Program} {ops : Array Oper} {rest : List Oper} {o : Oper} {a : Act} {w : World} {Q : Exit → Act → World → Prop}
/-- a row is read, within a fence -/
theorem wpListIn_load_row (hgd : o.guard = none) (ty : TypeId) (x : Operand) (ho : o.op = .load ty x) (g : Nat) (hx : a.eval x = .pointer (some ⟨g, 0, none⟩))
    (t : TypeId) (cs : Array Value) (fr : Nat × Nat) (d : TypeDesc) (hg : w.heap[g]? = some (.cells cs t fr)) (hu : P.underlying ty = some d)
    (hd : (match d with | .struct _ | .array _ _ => true | _ => false) = true) (hi : (P.info? ty).map (·.size) = some cs.size)
    (h : wpListIn F m P ops Q rest (a.put o.dst (.agg cs)) w) : wpListIn F m P ops Q (o :: rest) a w := by
  refine wpListIn_plain hgd fun _ hK => ⟨fun f hf => ?_, ?_⟩
  · simp [Oper.about, ho] at hf
  · rw [Oper.semAt_eq _ _ _ (fun c => by rw [ho]; simp)]
    unfold execOp
    simp only [ho, hx, Instr.loadAt, Instr.sureAddr, Sem.run_bind, Sem.run_pure, Result.andThen_ok, run_loadVar_row w g t ty cs fr d hg hu hd hi]
    exact hK _ _ h
theorem wpListIn_load_mid (hgd : o.guard = none) (ty : TypeId) (x : Operand) (ho : o.op = .load ty x) (b q : Nat) (hx : a.eval x = .pointer (some ⟨b, q, none⟩))
    (cs : List Value) (d : TypeDesc) (hc : w.rangeAt b q cs) (hu : P.underlying ty = some d) (hd : d.isRow = true) (hi : (P.info? ty).map (·.size) = some cs.length)
    (h : wpListIn F m P ops Q rest (a.put o.dst (.agg cs.toArray)) w) : wpListIn F m P ops Q (o :: rest) a w := by
  refine wpListIn_plain hgd fun _ hK => ⟨fun f hf => ?_, ?_⟩
  · simp [Oper.about, ho] at hf
  · rw [Oper.semAt_eq _ _ _ (fun c => by rw [ho]; simp)]
    unfold execOp
    simp only [ho, hx, Instr.loadAt, Instr.sureAddr, Sem.run_bind, Sem.run_pure, Result.andThen_ok, run_loadVar_mid w b q ty cs d hc hu hd hi]
    exact hK _ _ h
theorem wpListIn_store_row (hgd : o.guard = none) (ty : TypeId) (x y : Operand) (ho : o.op = .store ty x y) (g : Nat) (cells : Array Value)
    (hx : a.eval x = .pointer (some ⟨g, 0, none⟩)) (hy : a.eval y = .agg cells) (t : TypeId) (old : Array Value) (hg : w.heap[g]? = some (.cells old t (0, 0)))
    (hi : (P.info? ty).map (·.size) = some cells.size) (hold : old.size = cells.size) (h1 : cells.all (·.oneCell') = true)
    (h : wpListIn F m P ops Q rest (a.put o.dst undef) (w.setRow g cells)) : wpListIn F m P ops Q (o :: rest) a w := by
  refine wpListIn_plain hgd fun _ hK => ⟨fun f hf => ?_, ?_⟩
  · simp [Oper.about, ho] at hf
  · rw [Oper.semAt_eq _ _ _ (fun c => by rw [ho]; simp)]
    unfold execOp
    simp only [ho, hx, hy, Instr.storeAt, Instr.sureAddr, Sem.run_bind, Sem.run_pure, Result.andThen_ok, run_storeVar_row w g t ty old cells hg hi hold h1]
    exact hK _ _ h
end

theorem wpListIn_load8 {F : Fence} {m : Nat} {ops : Array Oper} {rest : List Oper} {o : Oper} {a : Act} {w : World} {Q : Exit → Act → World → Prop} (hgd : o.guard = none) (x : Operand) (ho : o.op = .load 68 x)
    (g p : Nat) (hx : a.eval x = .pointer (some ⟨g, p, none⟩)) (f : Nat → Nat) (hc : w.rangeAt g p (cells8 f))
    (h : wpListIn F m Try.prog ops Q rest (a.put o.dst (.agg (dig8 f))) w) : wpListIn F m Try.prog ops Q (o :: rest) a w := by
  refine wpListIn_load_mid hgd 68 x ho g p hx (cells8 f) _ hc Try.underlying68 rfl sizeDigs ?_
  rw [cells8_arr]
  exact h

theorem NewD.keepT {B : Nat} {W W' : World} {v : Value} {fs : List (Nat → Nat)} (h : NewD B W v fs) (hk : KeepT W W') : NewD B W' v fs := by
  obtain ⟨h1, h2⟩ := h
  refine ⟨h1, ?_⟩
  rcases h2 with h0 | ⟨g, cap, cur, rfl, hbg, hg, hr⟩
  · exact .inl h0
  · exact .inr ⟨g, cap, cur, rfl, hbg, hk.row _ _ hg, hr⟩
theorem OffT.setRow {B b : Nat} {A : World} {cs : Array Value} (h : RowAt A b 68 cs) (hB : B ≤ b) (new : Array Value) : OffT B A (A.setRow b new) := by
  refine ⟨below_setRow (Below.refl _ _) hB _, fun k o hk hne => ?_⟩
  by_cases e : k = b
  · subst e
    rw [show A.heap[k]? = _ from h] at hk
    cases hk
    exact absurd rfl (hne _ _)
  · exact (setRow_other A b k new e).trans hk
theorem OffT.trans {B : Nat} {A C D : World} (h : OffT B A C) (k : OffT B C D) : OffT B A D := ⟨h.below.trans k.below, fun j o hj hne => k.same j o (h.same j o hj hne) hne⟩

set_option maxRecDepth 100000 in
set_option maxHeartbeats 1000000 in
theorem visited_any (u : Value) (f : Nat → Nat) (a : Option Addr) (m c : Nat) (hu : u = .slice a m c) (w : World) :
    Calls Try.prog 99 #[.agg (leadV u f)] w fun e w' => e = .returned (.func (.func 121) #[] #[.pointer (some ⟨w.heap.size, 0, none⟩)]) ∧ w' = w.alloc (.cells (leadV u f) 70) := by
  subst hu
  simp only [leadV]
  go_enter Try.func99, Try.ntmps99
  go_wp2
  go_ret
  exact ⟨rfl, rfl⟩

set_option maxRecDepth 100000 in
set_option maxHeartbeats 1000000 in
theorem visited1_in (l mm : Nat) (n : Nat) (u : Value) (cs : List (Nat → Nat)) (f : Nat → Nat) (hf : IsRow n f) (hc : Rows n cs) (hl : cs.length ≤ 40) (Bl : Nat)
    (J : List (Nat → Nat) → World → Prop) (W : World) (hJ : ∀ s A C, J s A → OffT W.heap.size A C → J s C)
    (hY : ∀ pre x A, IsRow n x → pre.length ≤ 40 → J pre A → YieldAt Fence.wide mm Try.prog l #[.agg (dig8 x)] A fun e C => e = .returned (.bool true) ∧ J (pre ++ [x]) C ∧ KeepT A C)
    (hbox : RowAt W Bl 70 (leadV u f)) (hn : NewD 0 W u cs) (h0 : J [] W) :
    CallsIn Fence.wide (mm + 1) Try.prog 121 #[.func (.yield l) #[] #[], .pointer (some ⟨Bl, 0, none⟩)] W fun e C => (∃ v, e = .returned v) ∧ J (leadF n cs f ++ [endF n cs f]) C := by
  have h1 : 1 ≤ mm + 1 := by omega
  obtain ⟨m, hm⟩ : ∃ m, cs.length = m := ⟨_, rfl⟩
  obtain ⟨a, cap, rfl, hcap, ha⟩ := hn.view hm
  have hl' : (m : Int) ≤ 40 := by omega
  have hlt0 : ∀ g, (Value.slice a m cap).ownBlock = some g → g < W.heap.size := fun g hg => (hn.lt g hg).2
  have hne0 : (Value.slice a m cap).ownBlock ≠ some W.heap.size := fun e => by have := hlt0 _ e; omega
  have HNE := Lib.hid hne0
  have HA := Lib.hid ha
  have HM := Lib.hid hm
  have HC := Lib.hid hc
  have HJ := Lib.hid hJ
  have HY := Lib.hid hY
  have HF := Lib.hid hf
  have HL := Lib.hid (lead_range hbox)
  have HB0 : Hid (Below W.heap.size W (W.alloc (.cells (dig8 f) 68))) := Lib.hid ((Below.refl _ W).alloc (Nat.le_refl _) (.cells (dig8 f) 68))
  have c0 : (W.alloc (.cells (dig8 f) 68)).cell? ⟨Bl, 0, none⟩ = some (.slice a m cap) := (hbox.push _).cell 0 rfl
  have HN := Lib.hid (hn.kept HB0.out)
  have HR := Lib.hid (RowAt.new W 68 (dig8 f))
  have HJ0 := Lib.hid (hJ [] _ _ h0 (OffT.of_below HB0.out _ (Nat.le_refl _)))
  generalize hxs : leadF n cs f ++ [endF n cs f] = xs
  have HXS := Lib.hid hxs
  clear hm hc hJ hY hf ha hn hbox h0 hl hlt0 hne0 hxs HB0
  refine callsIn_of_wp Try.func121 rfl trivial ?_ rfl
  simp only [Try.ntmps121, List.size_toArray, List.length_cons, List.length_nil, Nat.reduceAdd, Nat.reduceSub, Array.replicate_succ, Array.replicate_zero, List.push_toArray, List.append_toArray, List.nil_append, List.cons_append]
  gi_wp2_with (first | (refine wpListIn_load8 rfl _ rfl Bl 1 rfl f HL.out ?_) | (refine wpListIn_store_row rfl 68 _ _ rfl _ _ rfl rfl 68 _ (heap_at _ _ _ (by simp)) (by kernel_rfl) rfl (by kernel_rfl) ?_; rw [setRow_at _ _ _ _ _ (by simp)]) | fail)
  gi_loopg [11] m (fun q i wr => ∃ (j : Nat) (g : Nat → Nat) (pre : List (Nat → Nat)), q + j = m ∧ i = .int .i64 j ∧ IsRow n g ∧ pre.length = j ∧ pre ++ (leadF n (cs.drop j) g ++ [endF n (cs.drop j) g]) = xs ∧ J pre wr ∧ RowAt wr W.heap.size 68 (dig8 g) ∧ NewD 0 wr (.slice a m cap) cs)
  case atStart => exact ⟨0, f, [], by omega, rfl, HF.out, rfl, HXS.out, HJ0.out, HR.out, HN.out⟩
  case round =>
    clear HF HXS HJ0 HR HN
    obtain ⟨j, g, pre, hq, rfl, hg, hpl, hx, hj, hr, hn⟩ := hrel
    have HG := Lib.hid hg
    by_cases hlt : j < m
    · obtain ⟨q', rfl⟩ : ∃ q', gk = q' + 1 := ⟨gk - 1, by omega⟩
      obtain ⟨gb, rfl⟩ := HA.out (by omega)
      have hjx : j < cs.length := by rw [HM.out]; exact hlt
      rw [List.drop_eq_getElem_cons hjx] at hx
      have hrow := HC.out _ (List.getElem_mem hjx)
      have hload : wr.rangeAt gb (j * 8) (cells8 cs[j]) := fun k u hu => by
        have h2 := World.ownsRow.cells hn (g := gb) rfl _ u (flat_at cs j hjx k u hu)
        rw [Addr.add_mid, Nat.zero_add] at h2
        exact h2
      generalize cs[j] = x at *
      have HL := Lib.hid hload
      have HX2 := Lib.hid (show (pre ++ [g]) ++ (leadF n (cs.drop (j + 1)) (mulR n g x) ++ [endF n (cs.drop (j + 1)) (mulR n g x)]) = xs from by rw [← hx]; simp [leadF, endF])
      have HX := Lib.hid hrow
      have hji : (j : Int) < m := by omega
      have hbA : Below wr.heap.size wr (wr.alloc (.cells (dig8 x) 68)) := (Below.refl _ wr).alloc (Nat.le_refl _) (.cells (dig8 x) 68)
      have hsz : W.heap.size < wr.heap.size := hr.lt
      have hj1 := HJ.out _ _ _ hj (OffT.of_below hbA W.heap.size (by omega))
      have HR1 := Lib.hid (hr.push (.cells (dig8 x) 68))
      have HN1 := Lib.hid (hn.kept hbA)
      have HXX := Lib.hid (RowAt.new wr 68 (dig8 x))
      obtain ⟨fn, tmps, assign, body, hy, hR⟩ := HY.out _ g _ hg (by omega) hj1
      clear hx hrow hload hbA hj hj1 hn hr hg
      gi_wp2_with (first | (refine wpListIn_load8 rfl _ rfl gb (j * 8) rfl x HL.out ?_) | (refine wpListIn_store_row rfl 68 _ _ rfl _ _ rfl rfl 68 _ (heap_at _ _ _ (by simp)) (by kernel_rfl) rfl (by kernel_rfl) ?_; rw [setRow_at _ _ _ _ _ (by simp)]) | (refine wpListIn_load_row rfl 68 _ rfl _ rfl 68 _ _ _ HR1.out Try.underlying68 rfl (by kernel_rfl) ?_) | fail)
      refine hR.mono ?_
      rintro e w3 ⟨rfl, hj3, hk3⟩
      have HR3 := Lib.hid (hk3.row _ _ HR1.out)
      have HX3 := Lib.hid (hk3.row _ _ HXX.out)
      have HN3 := Lib.hid (HN1.out.keepT hk3)
      have HJ3 := Lib.hid hj3
      have HS3 := Lib.hid (show W.heap.size < w3.heap.size from (show RowAt w3 W.heap.size 68 (dig8 g) from HR3.out).lt)
      clear hj3 hk3 HR1 HXX HN1 hy hR HL
      gi_wp2_with (first | (refine wpListIn_load_row rfl 68 _ rfl _ rfl 68 _ _ _ HR3.out Try.underlying68 rfl (by kernel_rfl) ?_) | (refine wpListIn_load_row rfl 68 _ rfl _ rfl 68 _ _ _ HX3.out Try.underlying68 rfl (by kernel_rfl) ?_) | fail)
      refine ⟨trivial, ?_⟩
      refine (callsIn_wide.2 (times_row n g x HG.out HX.out w3)).mono ?_
      rintro e w4 ⟨rfl, hb4⟩
      have HR4 : Hid (RowAt w4 W.heap.size 68 (dig8 g)) := Lib.hid ((show RowAt w3 W.heap.size 68 (dig8 g) from HR3.out).kept hb4)
      have HN4 := Lib.hid (HN3.out.kept hb4)
      have HJ5 := Lib.hid (HJ.out _ _ _ HJ3.out ((OffT.of_below hb4 W.heap.size (by have := HS3.out; omega)).trans (OffT.setRow HR4.out (Nat.le_refl _) (dig8 (mulR n g x)))))
      clear hb4 HR3 HX3 HN3 HJ3
      gi_wp2_with (first | (refine wpListIn_store_row rfl 68 _ _ rfl _ _ rfl rfl 68 _ (HR4.out) (by kernel_rfl) rfl (by kernel_rfl) ?_) | fail)
      gi_roundg q'
      case measure => omega
      case rel => exact ⟨j + 1, mulR n g x, pre ++ [g], by omega, by go_num, isRow_mul HG.out HX.out, by simp [hpl], HX2.out, HJ5.out, HR4.out.row _, HN4.out.setRowOther _ _ HNE.out⟩
    · obtain rfl : gk = 0 := by omega
      obtain rfl : j = m := by omega
      rw [List.drop_eq_nil_of_le (by rw [HM.out]; exact Nat.le_refl _)] at hx
      have hx : pre ++ [g] = xs := hx
      subst hx
      have HR1 := Lib.hid hr
      obtain ⟨fn, tmps, assign, body, hy, hR⟩ := HY.out _ g _ hg (by omega) hj
      clear hj hr hn hg
      gi_wp2_with (first | (refine wpListIn_load_row rfl 68 _ rfl _ rfl 68 _ _ _ HR1.out Try.underlying68 rfl (by kernel_rfl) ?_) | fail)
      refine hR.mono ?_
      rintro e w3 ⟨rfl, hj3, hk3⟩
      gi_wp2
      go_end0
      exact ⟨⟨_, rfl⟩, hj3⟩
end Go.Proofs.Ytpfnamiacagocaa
