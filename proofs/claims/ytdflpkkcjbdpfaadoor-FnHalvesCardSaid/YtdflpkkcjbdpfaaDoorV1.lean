/- The model's reader of place notation: a change. -/
import Derived.Test.YtdflpkkcjbdpfaaDoorU8
namespace Go.Proofs.YtdflpkkcjbdpfaaDoor
open Go.RowKit
set_option linter.unusedSimpArgs false

/-- below B nothing but block b has changed -/
structure Keep (B b : Nat) (W W' : World) : Prop where
  os : W'.os = W.os
  tape : W'.tape = W.tape
  output : W'.output = W.output
  size : W.heap.size ≤ W'.heap.size
  block : ∀ k, k < B → k ≠ b → W'.heap[k]? = W.heap[k]?
theorem Keep.refl (B b : Nat) (W : World) : Keep B b W W := ⟨rfl, rfl, rfl, Nat.le_refl _, fun _ _ _ => rfl⟩
theorem Keep.trans {B b : Nat} {A C D : World} (h : Keep B b A C) (k : Keep B b C D) : Keep B b A D :=
  ⟨k.os.trans h.os, k.tape.trans h.tape, k.output.trans h.output, Nat.le_trans h.size k.size, fun i hi hne => (k.block i hi hne).trans (h.block i hi hne)⟩
theorem Keep.only {B b : Nat} {W W' : World} (h : Only b W W') (hB : B ≤ W.heap.size) : Keep B b W W' := ⟨h.os, h.tape, h.output, h.size, fun k hk hne => h.block k (by omega) hne⟩
theorem Keep.of_below {B b : Nat} {W W' : World} (h : Below B W W') : Keep B b W W' := ⟨h.os, h.tape, h.output, h.size, fun k hk _ => h.block k hk⟩
theorem Keep.below {B b : Nat} {W W' : World} (h : Keep B b W W') (C : Nat) (hC : C ≤ B) (hb : C ≤ b) : Below C W W' := ⟨h.os, h.tape, h.output, h.size, fun k hk => h.block k (by omega) (by omega)⟩
theorem Keep.drewN {B b : Nat} {W W' : World} (h : Keep B b W W') (n : Nat) : Keep B b W (W'.drewN n) := h.trans ⟨rfl, rfl, rfl, Nat.le_refl _, fun _ _ _ => rfl⟩
theorem Keep.set {B b : Nat} {W W' : World} (h : Keep B b W W') (o : Nat) (v : Value) : Keep B b W (W'.setCell ⟨b, o, none⟩ v) := h.trans ⟨rfl, rfl, rfl, by simp, fun k _ hne => Below.heap_setCell _ _ v k hne⟩
theorem Keep.drew {B b : Nat} {W W' : World} (h : Keep B b W W') : Keep B b W W'.drew := h.trans ⟨rfl, rfl, rfl, Nat.le_refl _, fun _ _ _ => rfl⟩

/-- the model's reader stands at p -/
def Rm (W : World) (b : Nat) (n : Int) (s : ByteArray) (p : Nat) (v : Value) (bad : Int) : Prop := RowAt W b 70 #[.int .i64 n, .string s, .int .i64 p, v, .int .i64 bad]
theorem Rm.next {W : World} {b : Nat} {n : Int} {s : ByteArray} {p : Nat} {v : Value} {bad : Int} (h : Rm W b n s p v bad) : Rm (W.setCell ⟨b, 2, none⟩ (.int .i64 ((p : Int) + 1))) b n s (p + 1) v bad := by
  rw [show ((p : Int) + 1) = ((p + 1 : Nat) : Int) by omega]
  exact RowAt.set h 2 _
theorem Rm.bads {W : World} {b : Nat} {n : Int} {s : ByteArray} {p : Nat} {v : Value} {bad : Int} (h : Rm W b n s p v bad) (x : Int) : Rm (W.setCell ⟨b, 4, none⟩ (.int .i64 x)) b n s p v x := RowAt.set h 4 _
theorem Rm.outs {W : World} {b : Nat} {n : Int} {s : ByteArray} {p : Nat} {v : Value} {bad : Int} (h : Rm W b n s p v bad) (u : Value) : Rm (W.setCell ⟨b, 3, none⟩ u) b n s p u bad := RowAt.set h 3 _
theorem New.set {B b : Nat} {W : World} {e : TypeId} {v : Value} {xs : List Value} (h : New B W e v xs) (hlt : b < B) (o : Nat) (u : Value) : New B (W.setCell ⟨b, o, none⟩ u) e v xs := h.onlyU hlt (Only.set W o u)

/-- a change is read: the list is longer by it; or its place is told -/
def WdRes (b B : Nat) (n : Nat) (s : ByteArray) (p : Nat) (acc : List (List Nat)) (w : World) (e : Ending) (w' : World) : Prop :=
  e = .returned (.tuple #[]) ∧ Keep B b w w' ∧ ∃ v', if wordP n (lets s) p = [] then ∃ p', p' ≤ s.size ∧ Rm w' b n s p' v' p
  else New B w' 9 v' (strs (acc ++ [wordP n (lets s) p])) ∧ Rm w' b n s (p + spanW ((lets s).drop p)) v' (-1)
theorem WdRes.no {b B n : Nat} {s : ByteArray} {p p' : Nat} {acc : List (List Nat)} {v : Value} {w w' : World} {e : Ending} (h : wordP n (lets s) p = []) (hk : Keep B b w w') (he : e = .returned (.tuple #[])) (hp : p' ≤ s.size) (hr : Rm w' b n s p' v p) : WdRes b B n s p acc w e w' := ⟨he, hk, v, by rw [if_pos h]; exact ⟨p', hp, hr⟩⟩
theorem WdRes.yes {b B n : Nat} {s : ByteArray} {p q : Nat} {acc : List (List Nat)} {r : List Nat} {v : Value} {w w' : World} {e : Ending} (h : wordP n (lets s) p = r) (h0 : r ≠ []) (hq : p + spanW ((lets s).drop p) = q) (hk : Keep B b w w') (he : e = .returned (.tuple #[])) (hn : New B w' 9 v (strs (acc ++ [r]))) (hr : Rm w' b n s q v (-1)) : WdRes b B n s p acc w e w' :=
  ⟨he, hk, v, by rw [if_neg (by rw [h]; exact h0), h, hq]; exact ⟨hn, hr⟩⟩

set_option maxRecDepth 100000 in
set_option maxHeartbeats 1000000 in
theorem word_in (n : Nat) (h3 : 3 ≤ n) (h8 : n ≤ 8) (b B : Nat) (s : ByteArray) (p : Nat) (acc : List (List Nat)) (v : Value) (w : World) (hs : s.size ≤ 1000) (hp : p ≤ s.size) (hal : acc.length ≤ 1000) (hbB : b < B) (hBw : B ≤ w.heap.size) (hv : New B w 9 v (strs acc)) (h : Rm w b n s p v (-1)) :
    Calls Tryd.prog 69 #[.pointer (some ⟨b, 0, none⟩)] w (WdRes b B n s p acc w) := by
  have HR := Lib.hid h
  have HV := Lib.hid hv
  have c1 := h.cell 1 rfl
  have c2 := h.cell 2 rfl
  have f2 : ∀ k, (w.drewN k).frozen? ⟨b, 2, none⟩ = false := fun k => RowAt.free (RowAt.drewN h k) 2
  have hsi : (s.size : Int) ≤ 1000 := by omega
  have hpi : (p : Int) ≤ s.size := by omega
  obtain ⟨i0, hi0, hz0, hz1, hz2⟩ := info_parts infoText
  have I0 := Lib.hid (⟨hi0, hz0, hz1, hz2⟩ : _ ∧ _ ∧ _ ∧ _)
  clear h hv hi0 hz0 hz1 hz2
  by_cases hx : p < s.size ∧ isX (dg s p) = true
  · have hlt := hx.1
    have hd1 : decide ((p : Int) < s.size) = true := by rw [decide_eq_true_eq]; omega
    have hpl : (p : Int) < s.size := by omega
    have hdg : s[p].toNat = dg s p := by simp [dg, hlt]
    have hsw : spanW ((lets s).drop p) = 1 := by
      rw [drop_lets s p hlt]
      show (if isX (dg s p) = true then 1 else spanD _) = 1
      rw [hx.2]
      rfl
    obtain ⟨q, hq⟩ : ∃ q, p + 1 = q := ⟨_, rfl⟩
    have HQ : Hid (p + spanW ((lets s).drop p) = q) := Lib.hid (by rw [hsw]; exact hq)
    have HPQ : Hid (p ≤ q ∧ q ≤ s.size) := Lib.hid (by omega)
    have HRX0 : Hid (∀ k, Rm ((w.drewN k).setCell ⟨b, 2, none⟩ (.int .i64 ((p : Int) + 1))) b n s q v (-1) ∧ Keep B b w ((w.drewN k).setCell ⟨b, 2, none⟩ (.int .i64 ((p : Int) + 1))) ∧ New B ((w.drewN k).setCell ⟨b, 2, none⟩ (.int .i64 ((p : Int) + 1))) 9 v (strs acc)) :=
      Lib.hid (fun k => ⟨by rw [← hq]; exact Rm.next (RowAt.drewN HR.out k), ((Keep.refl B b w).drewN k).set 2 _, (HV.out.drewN k).set hbB 2 _⟩)
    clear hsw hq HR HV
    rcases (show dg s p = 45 ∨ dg s p = 120 by have := hx.2; unfold isX at this; simpa using this) with h45 | h45
    · rw [h45] at hdg
      clear hx h45
      go_enter Tryd.func69, Tryd.ntmps69
      go_wp2
      go_quiet (fail)
      have f3 := f2 nq
      go_wp2
      have HRX := Lib.hid (HRX0.out nq)
      generalize (w.drewN nq).setCell ⟨b, 2, none⟩ (.int .i64 ((p : Int) + 1)) = w2 at *
      clear c1 c2 f2 f3 HRX0 hd1 hdg
      have HTD : Hid (∀ W, Rm W b n s q v (-1) ∧ Keep B b w W ∧ New B W 9 v (strs acc) → Calls Tryd.prog 40 #[.int .i64 n, .string (s.extract p q)] W fun e w' => e = .returned (.string (txt (tidyL n (lets (s.extract p q))))) ∧ Rm w' b n s q v (-1) ∧ Keep B b w w' ∧ New B w' 9 v (strs acc)) :=
        Lib.hid (fun W hW => (l3Tidy_any n h3 h8 (s.extract p q) (by rw [ByteArray.size_extract]; omega) W).mono fun e w' ⟨h1, h2⟩ => ⟨h1, RowAt.kept hW.1 h2, hW.2.1.trans (Keep.only (Only.of_below h2) (Nat.le_trans hBw hW.2.1.size)), hW.2.2.kept h2⟩)
      have HWN : Hid (q ≠ p → wordP n (lets s) p = tidyL n (lets (s.extract p q))) := Lib.hid (wordP_part HQ.out)
      have HW0 : Hid (q = p → wordP n (lets s) p = []) := Lib.hid (fun e => wordP_nil (by rw [HQ.out, e]))
      generalize tidyL n (lets (s.extract p q)) = r at *
      have hpq : (p : Int) ≤ q := by have := HPQ.out; omega
      have hqs : (q : Int) ≤ s.size := by have := HPQ.out; omega
      have h0p : (0 : Int) ≤ p := by omega
      have HRX2 : Hid (Rm w2.drew b n s q v (-1) ∧ Keep B b w w2.drew ∧ New B w2.drew 9 v (strs acc)) := Lib.hid ⟨HRX.out.1, HRX.out.2.1.drew, HRX.out.2.2.drewN 1⟩
      have d0 := HRX2.out.1.cell 0 rfl
      have d1 := HRX2.out.1.cell 1 rfl
      have d2 := HRX2.out.1.cell 2 rfl
      go_wp2
      go_region_held3 (fun w' => w'.cell? ⟨b, 0, none⟩ = some (.int .i64 n) ∧ w'.cell? ⟨b, 1, none⟩ = some (.string s) ∧ w'.cell? ⟨b, 2, none⟩ = some (.int .i64 q) ∧ Rm w' b n s q v (-1) ∧ Keep B b w w' ∧ New B w' 9 v (strs acc)) (first | exact ⟨d0, d1, d2, HRX2.out.1, HRX2.out.2.1, HRX2.out.2.2⟩ | exact ⟨hq5.cell 0 rfl, hq5.cell 1 rfl, hq5.cell 2 rfl, hq5, hq6, hq7⟩ | assumption) (first | (go_at_call 40; refine (HTD.out _ HRX2.out).mono ?_; rintro e5 w5 ⟨rfl, hq5, hq6, hq7⟩) | fail)
      have HRY := Lib.hid hq5
      have HOY := Lib.hid hq6
      have HNY := Lib.hid hq7
      have g2 := hq5.cell 2 rfl
      have g3 := hq5.cell 3 rfl
      have g4 := hq5.cell 4 rfl
      have z3 := hq5.free 3
      have z4 := hq5.free 4
      clear hq5 hq6 hq7 d0 d1 d2
      by_cases hqp : q = p
      · have HN := Lib.hid (HW0.out hqp)
        have heq : ((p : Int) == (q : Int)) = true := by rw [beq_iff_eq]; omega
        clear hqp
        go_wp2
        first | go_end0 | refine bodyPost_ret (results_none rfl _ _ _) rfl ?_
        exact WdRes.no HN.out (HOY.out.set 4 _) rfl HPQ.out.2 (HRY.out.bads _)
      · have HWP := Lib.hid (HWN.out hqp)
        have heq : ((p : Int) == (q : Int)) = false := by rw [beq_eq_false_iff_ne]; omega
        have hemp := empty_txt r
        clear hqp
        by_cases hr : r = []
        · have HN := Lib.hid (HWP.out.trans hr)
          rw [decide_eq_true hr] at hemp
          clear hr
          go_wp2
          first | go_end0 | refine bodyPost_ret (results_none rfl _ _ _) rfl ?_
          exact WdRes.no HN.out (HOY.out.set 4 _) rfl HPQ.out.2 (HRY.out.bads _)
        · have HRN := Lib.hid hr
          rw [decide_eq_false hr] at hemp
          have hal9 : (strs acc).length ≤ 100000 := by rw [strs_len]; omega
          clear hr
          go_wp2_with (at_builtin; refine wpList_app1 rfl (.tmp 123) (.tmp 125) 24 rfl 9 i0 (.string ⟨#[]⟩) 16 Tryd.underlying24 I0.out.1 I0.out.2.1 I0.out.2.2.1 I0.out.2.2.2 rfl B _ _ (strs acc) rfl HNY.out rfl rfl (Nat.le_trans hBw HOY.out.size) (Below.refl _ _) hal9 (by omega) ?_)
          intro v7 w7 hn7 _ hb7 _
          rw [strs_snoc] at hn7
          have HN7 := Lib.hid hn7
          have HR7 : Hid (Rm w7 b n s q v (-1)) := Lib.hid (RowAt.keep HRY.out hb7 hbB)
          have HK7 := Lib.hid (HOY.out.trans (Keep.of_below hb7))
          have y3 := HR7.out.free 3
          have y4 := HR7.out.cell 3 rfl
          obtain ⟨a7, cap7, hv7, _⟩ := hn7.own.view
          rw [strs_len, List.length_append, List.length_singleton] at hv7
          subst hv7
          clear hn7 hb7
          go_wp2
          first | go_end0 | refine bodyPost_ret (results_none rfl _ _ _) rfl ?_
          exact WdRes.yes HWP.out HRN.out HQ.out (HK7.out.set 3 _) rfl (HN7.out.set hbB 3 _) (HR7.out.outs _)
    · rw [h45] at hdg
      clear hx h45
      go_enter Tryd.func69, Tryd.ntmps69
      go_wp2
      go_quiet (fail)
      have f3 := f2 nq
      go_wp2
      have HRX := Lib.hid (HRX0.out nq)
      generalize (w.drewN nq).setCell ⟨b, 2, none⟩ (.int .i64 ((p : Int) + 1)) = w2 at *
      clear c1 c2 f2 f3 HRX0 hd1 hdg
      have HTD : Hid (∀ W, Rm W b n s q v (-1) ∧ Keep B b w W ∧ New B W 9 v (strs acc) → Calls Tryd.prog 40 #[.int .i64 n, .string (s.extract p q)] W fun e w' => e = .returned (.string (txt (tidyL n (lets (s.extract p q))))) ∧ Rm w' b n s q v (-1) ∧ Keep B b w w' ∧ New B w' 9 v (strs acc)) :=
        Lib.hid (fun W hW => (l3Tidy_any n h3 h8 (s.extract p q) (by rw [ByteArray.size_extract]; omega) W).mono fun e w' ⟨h1, h2⟩ => ⟨h1, RowAt.kept hW.1 h2, hW.2.1.trans (Keep.only (Only.of_below h2) (Nat.le_trans hBw hW.2.1.size)), hW.2.2.kept h2⟩)
      have HWN : Hid (q ≠ p → wordP n (lets s) p = tidyL n (lets (s.extract p q))) := Lib.hid (wordP_part HQ.out)
      have HW0 : Hid (q = p → wordP n (lets s) p = []) := Lib.hid (fun e => wordP_nil (by rw [HQ.out, e]))
      generalize tidyL n (lets (s.extract p q)) = r at *
      have hpq : (p : Int) ≤ q := by have := HPQ.out; omega
      have hqs : (q : Int) ≤ s.size := by have := HPQ.out; omega
      have h0p : (0 : Int) ≤ p := by omega
      have HRX2 : Hid (Rm w2.drew b n s q v (-1) ∧ Keep B b w w2.drew ∧ New B w2.drew 9 v (strs acc)) := Lib.hid ⟨HRX.out.1, HRX.out.2.1.drew, HRX.out.2.2.drewN 1⟩
      have d0 := HRX2.out.1.cell 0 rfl
      have d1 := HRX2.out.1.cell 1 rfl
      have d2 := HRX2.out.1.cell 2 rfl
      go_wp2
      go_region_held3 (fun w' => w'.cell? ⟨b, 0, none⟩ = some (.int .i64 n) ∧ w'.cell? ⟨b, 1, none⟩ = some (.string s) ∧ w'.cell? ⟨b, 2, none⟩ = some (.int .i64 q) ∧ Rm w' b n s q v (-1) ∧ Keep B b w w' ∧ New B w' 9 v (strs acc)) (first | exact ⟨d0, d1, d2, HRX2.out.1, HRX2.out.2.1, HRX2.out.2.2⟩ | exact ⟨hq5.cell 0 rfl, hq5.cell 1 rfl, hq5.cell 2 rfl, hq5, hq6, hq7⟩ | assumption) (first | (go_at_call 40; refine (HTD.out _ HRX2.out).mono ?_; rintro e5 w5 ⟨rfl, hq5, hq6, hq7⟩) | fail)
      have HRY := Lib.hid hq5
      have HOY := Lib.hid hq6
      have HNY := Lib.hid hq7
      have g2 := hq5.cell 2 rfl
      have g3 := hq5.cell 3 rfl
      have g4 := hq5.cell 4 rfl
      have z3 := hq5.free 3
      have z4 := hq5.free 4
      clear hq5 hq6 hq7 d0 d1 d2
      by_cases hqp : q = p
      · have HN := Lib.hid (HW0.out hqp)
        have heq : ((p : Int) == (q : Int)) = true := by rw [beq_iff_eq]; omega
        clear hqp
        go_wp2
        first | go_end0 | refine bodyPost_ret (results_none rfl _ _ _) rfl ?_
        exact WdRes.no HN.out (HOY.out.set 4 _) rfl HPQ.out.2 (HRY.out.bads _)
      · have HWP := Lib.hid (HWN.out hqp)
        have heq : ((p : Int) == (q : Int)) = false := by rw [beq_eq_false_iff_ne]; omega
        have hemp := empty_txt r
        clear hqp
        by_cases hr : r = []
        · have HN := Lib.hid (HWP.out.trans hr)
          rw [decide_eq_true hr] at hemp
          clear hr
          go_wp2
          first | go_end0 | refine bodyPost_ret (results_none rfl _ _ _) rfl ?_
          exact WdRes.no HN.out (HOY.out.set 4 _) rfl HPQ.out.2 (HRY.out.bads _)
        · have HRN := Lib.hid hr
          rw [decide_eq_false hr] at hemp
          have hal9 : (strs acc).length ≤ 100000 := by rw [strs_len]; omega
          clear hr
          go_wp2_with (at_builtin; refine wpList_app1 rfl (.tmp 123) (.tmp 125) 24 rfl 9 i0 (.string ⟨#[]⟩) 16 Tryd.underlying24 I0.out.1 I0.out.2.1 I0.out.2.2.1 I0.out.2.2.2 rfl B _ _ (strs acc) rfl HNY.out rfl rfl (Nat.le_trans hBw HOY.out.size) (Below.refl _ _) hal9 (by omega) ?_)
          intro v7 w7 hn7 _ hb7 _
          rw [strs_snoc] at hn7
          have HN7 := Lib.hid hn7
          have HR7 : Hid (Rm w7 b n s q v (-1)) := Lib.hid (RowAt.keep HRY.out hb7 hbB)
          have HK7 := Lib.hid (HOY.out.trans (Keep.of_below hb7))
          have y3 := HR7.out.free 3
          have y4 := HR7.out.cell 3 rfl
          obtain ⟨a7, cap7, hv7, _⟩ := hn7.own.view
          rw [strs_len, List.length_append, List.length_singleton] at hv7
          subst hv7
          clear hn7 hb7
          go_wp2
          first | go_end0 | refine bodyPost_ret (results_none rfl _ _ _) rfl ?_
          exact WdRes.yes HWP.out HRN.out HQ.out (HK7.out.set 3 _) rfl (HN7.out.set hbB 3 _) (HR7.out.outs _)
  · have hsw : spanW ((lets s).drop p) = spanD ((lets s).drop p) := by
      by_cases hlt : p < s.size
      · have hxx : isX (dg s p) = false := by
          cases h9 : isX (dg s p)
          · rfl
          · exact absurd ⟨hlt, h9⟩ hx
        rw [drop_lets s p hlt]
        show (if isX (dg s p) = true then 1 else spanD (dg s p :: _)) = _
        rw [hxx]
        rfl
      · rw [drop_end s p (by omega)]
        rfl
    have HSW := Lib.hid hsw
    have hcond : (p < s.size ∧ dg s p ≠ 45 ∧ dg s p ≠ 120) ∨ ¬ p < s.size := by
      by_cases hlt : p < s.size
      · left
        refine ⟨hlt, fun h9 => hx ⟨hlt, by unfold isX; simp [h9]⟩, fun h9 => hx ⟨hlt, by unfold isX; simp [h9]⟩⟩
      · exact .inr hlt
    clear hx hsw
    rcases hcond with ⟨hlt, n45, n120⟩ | hlt
    · have hd1 : decide ((p : Int) < s.size) = true := by rw [decide_eq_true_eq]; omega
      have hpl : (p : Int) < s.size := by omega
      have hdg : s[p].toNat = dg s p := by simp [dg, hlt]
      have e45 : ((dg s p : Int) == 45) = false := by rw [beq_eq_false_iff_ne]; omega
      have e120 : ((dg s p : Int) == 120) = false := by rw [beq_eq_false_iff_ne]; omega
      go_enter Tryd.func69, Tryd.ntmps69
      go_wp2
      go_quiet (fail)
      go_wp2
      clear hd1 hpl hdg e45 e120 n45 n120 hlt f2
      have HR0 : Hid (Rm (w.drewN nq) b n s p v (-1) ∧ Keep B b w (w.drewN nq) ∧ New B (w.drewN nq) 9 v (strs acc)) := Lib.hid ⟨RowAt.drewN HR.out _, (Keep.refl B b w).drewN _, HV.out.drewN _⟩
      generalize w.drewN nq = wl at *
      go_loopg [] (spanD ((lets s).drop p)) (fun q0 wr => ∃ q : Nat, q0 = spanD ((lets s).drop q) ∧ p ≤ q ∧ q ≤ s.size ∧ q + spanD ((lets s).drop q) = p + spanD ((lets s).drop p) ∧ Rm wr b n s q v (-1) ∧ Keep B b w wr ∧ New B wr 9 v (strs acc))
      case atStart => exact ⟨p, rfl, Nat.le_refl _, hp, rfl, HR0.out.1, HR0.out.2.1, HR0.out.2.2⟩
      case round =>
        obtain ⟨q, hqm, hpq9, hqs9, hspan, hrd, hon, hnv⟩ := hrel
        clear c1 c2
        have HRX := Lib.hid (And.intro hrd (And.intro hon hnv))
        have HSP := Lib.hid hspan
        have HM := Lib.hid hqm
        have c1 := hrd.cell 1 rfl
        have c2 := hrd.cell 2 rfl
        have f2 : ∀ k, (wr.drewN k).frozen? ⟨b, 2, none⟩ = false := fun k => RowAt.free (RowAt.drewN hrd k) 2
        have hqi : (q : Int) ≤ s.size := by omega
        clear hspan hrd hon hnv hqm HR0
        by_cases hdd : q < s.size ∧ isD (dg s q) = true
        · have hlt := hdd.1
          have hstep : spanD ((lets s).drop q) = spanD ((lets s).drop (q + 1)) + 1 := by
            rw [drop_lets s q hlt, spanD, hdd.2]
            rfl
          have hge : 48 ≤ dg s q ∧ dg s q ≤ 57 := by have := hdd.2; unfold isD at this; simpa using this
          have hd1 : decide ((q : Int) < s.size) = true := by rw [decide_eq_true_eq]; omega
          have hpl : (q : Int) < s.size := by omega
          have hdg : s[q].toNat = dg s q := by simp [dg, hlt]
          have e48 : decide ((48 : Int) ≤ dg s q) = true := by rw [decide_eq_true_eq]; omega
          have e57 : decide ((dg s q : Int) ≤ 57) = true := by rw [decide_eq_true_eq]; omega
          have HNX : Hid (∀ k, Rm ((wr.drewN k).setCell ⟨b, 2, none⟩ (.int .i64 ((q : Int) + 1))) b n s (q + 1) v (-1) ∧ Keep B b w ((wr.drewN k).setCell ⟨b, 2, none⟩ (.int .i64 ((q : Int) + 1))) ∧ New B ((wr.drewN k).setCell ⟨b, 2, none⟩ (.int .i64 ((q : Int) + 1))) 9 v (strs acc)) :=
            Lib.hid (fun k => ⟨Rm.next (RowAt.drewN HRX.out.1 k), (HRX.out.2.1.drewN k).set 2 _, (HRX.out.2.2.drewN k).set hbB 2 _⟩)
          have HST := Lib.hid hstep
          clear hdd hstep hge
          go_wp2
          go_quiet (fail)
          have f3 := f2 nq
          go_wp2
          go_roundg (spanD ((lets s).drop (q + 1)))
          case measure => have h1 := HST.out; have h2 := HM.out; omega
          case rel => exact ⟨q + 1, rfl, by omega, by omega, by have h1 := HST.out; have h2 := HSP.out; omega, (HNX.out _).1, (HNX.out _).2.1, (HNX.out _).2.2⟩
        · have hz : spanD ((lets s).drop q) = 0 := by
            by_cases hlt : q < s.size
            · have hxx : isD (dg s q) = false := by
                cases h9 : isD (dg s q)
                · rfl
                · exact absurd ⟨hlt, h9⟩ hdd
              rw [drop_lets s q hlt, spanD, hxx]
              rfl
            · rw [drop_end s q (by omega)]
              rfl
          have HQ : Hid (p + spanW ((lets s).drop p) = q) := Lib.hid (by
            have h2 := HSP.out
            rw [HSW.out]
            omega)
          have HPQ : Hid (p ≤ q ∧ q ≤ s.size) := Lib.hid ⟨hpq9, hqs9⟩
          have HRX0 : Hid (∀ k, Rm (wr.drewN k) b n s q v (-1) ∧ Keep B b w (wr.drewN k) ∧ New B (wr.drewN k) 9 v (strs acc)) := Lib.hid (fun k => ⟨RowAt.drewN HRX.out.1 k, HRX.out.2.1.drewN k, HRX.out.2.2.drewN k⟩)
          have hcond : (q < s.size ∧ (dg s q < 48 ∨ 57 < dg s q)) ∨ ¬ q < s.size := by
            by_cases hlt : q < s.size
            · left
              refine ⟨hlt, ?_⟩
              rcases Nat.lt_or_ge (dg s q) 48 with h9 | h9
              · exact .inl h9
              · rcases Nat.lt_or_ge 57 (dg s q) with h8 | h8
                · exact .inr h8
                · exact absurd ⟨hlt, by unfold isD; simp [h9, h8]⟩ hdd
            · exact .inr hlt
          clear hdd hz HSP HM HR HV HRX f2 hpq9 hqs9
          rcases hcond with ⟨hlt, hlo | hhi⟩ | hlt
          · have hd1 : decide ((q : Int) < s.size) = true := by rw [decide_eq_true_eq]; omega
            have hpl : (q : Int) < s.size := by omega
            have hdg : s[q].toNat = dg s q := by simp [dg, hlt]
            have e48 : decide ((48 : Int) ≤ dg s q) = false := by rw [decide_eq_false_iff_not]; omega
            go_wp2
            go_quiet (fail)
            go_wp2
            have HRX := Lib.hid (HRX0.out nq)
            generalize wr.drewN nq = w2 at *
            clear c1 c2 HRX0 hd1 hdg e48 hlo hlt hpl
            have HTD : Hid (∀ W, Rm W b n s q v (-1) ∧ Keep B b w W ∧ New B W 9 v (strs acc) → Calls Tryd.prog 40 #[.int .i64 n, .string (s.extract p q)] W fun e w' => e = .returned (.string (txt (tidyL n (lets (s.extract p q))))) ∧ Rm w' b n s q v (-1) ∧ Keep B b w w' ∧ New B w' 9 v (strs acc)) :=
              Lib.hid (fun W hW => (l3Tidy_any n h3 h8 (s.extract p q) (by rw [ByteArray.size_extract]; omega) W).mono fun e w' ⟨h1, h2⟩ => ⟨h1, RowAt.kept hW.1 h2, hW.2.1.trans (Keep.only (Only.of_below h2) (Nat.le_trans hBw hW.2.1.size)), hW.2.2.kept h2⟩)
            have HWN : Hid (q ≠ p → wordP n (lets s) p = tidyL n (lets (s.extract p q))) := Lib.hid (wordP_part HQ.out)
            have HW0 : Hid (q = p → wordP n (lets s) p = []) := Lib.hid (fun e => wordP_nil (by rw [HQ.out, e]))
            generalize tidyL n (lets (s.extract p q)) = r at *
            have hpq : (p : Int) ≤ q := by have := HPQ.out; omega
            have hqs : (q : Int) ≤ s.size := by have := HPQ.out; omega
            have h0p : (0 : Int) ≤ p := by omega
            have HRX2 : Hid (Rm w2.drew b n s q v (-1) ∧ Keep B b w w2.drew ∧ New B w2.drew 9 v (strs acc)) := Lib.hid ⟨HRX.out.1, HRX.out.2.1.drew, HRX.out.2.2.drewN 1⟩
            have d0 := HRX2.out.1.cell 0 rfl
            have d1 := HRX2.out.1.cell 1 rfl
            have d2 := HRX2.out.1.cell 2 rfl
            go_wp2
            go_region_held3 (fun w' => w'.cell? ⟨b, 0, none⟩ = some (.int .i64 n) ∧ w'.cell? ⟨b, 1, none⟩ = some (.string s) ∧ w'.cell? ⟨b, 2, none⟩ = some (.int .i64 q) ∧ Rm w' b n s q v (-1) ∧ Keep B b w w' ∧ New B w' 9 v (strs acc)) (first | exact ⟨d0, d1, d2, HRX2.out.1, HRX2.out.2.1, HRX2.out.2.2⟩ | exact ⟨hq5.cell 0 rfl, hq5.cell 1 rfl, hq5.cell 2 rfl, hq5, hq6, hq7⟩ | assumption) (first | (go_at_call 40; refine (HTD.out _ HRX2.out).mono ?_; rintro e5 w5 ⟨rfl, hq5, hq6, hq7⟩) | fail)
            have HRY := Lib.hid hq5
            have HOY := Lib.hid hq6
            have HNY := Lib.hid hq7
            have g2 := hq5.cell 2 rfl
            have g3 := hq5.cell 3 rfl
            have g4 := hq5.cell 4 rfl
            have z3 := hq5.free 3
            have z4 := hq5.free 4
            clear hq5 hq6 hq7 d0 d1 d2
            by_cases hqp : q = p
            · have HN := Lib.hid (HW0.out hqp)
              have heq : ((p : Int) == (q : Int)) = true := by rw [beq_iff_eq]; omega
              clear hqp
              go_wp2
              first | go_end0 | refine bodyPost_ret (results_none rfl _ _ _) rfl ?_
              exact WdRes.no HN.out (HOY.out.set 4 _) rfl HPQ.out.2 (HRY.out.bads _)
            · have HWP := Lib.hid (HWN.out hqp)
              have heq : ((p : Int) == (q : Int)) = false := by rw [beq_eq_false_iff_ne]; omega
              have hemp := empty_txt r
              clear hqp
              by_cases hr : r = []
              · have HN := Lib.hid (HWP.out.trans hr)
                rw [decide_eq_true hr] at hemp
                clear hr
                go_wp2
                first | go_end0 | refine bodyPost_ret (results_none rfl _ _ _) rfl ?_
                exact WdRes.no HN.out (HOY.out.set 4 _) rfl HPQ.out.2 (HRY.out.bads _)
              · have HRN := Lib.hid hr
                rw [decide_eq_false hr] at hemp
                have hal9 : (strs acc).length ≤ 100000 := by rw [strs_len]; omega
                clear hr
                go_wp2_with (at_builtin; refine wpList_app1 rfl (.tmp 123) (.tmp 125) 24 rfl 9 i0 (.string ⟨#[]⟩) 16 Tryd.underlying24 I0.out.1 I0.out.2.1 I0.out.2.2.1 I0.out.2.2.2 rfl B _ _ (strs acc) rfl HNY.out rfl rfl (Nat.le_trans hBw HOY.out.size) (Below.refl _ _) hal9 (by omega) ?_)
                intro v7 w7 hn7 _ hb7 _
                rw [strs_snoc] at hn7
                have HN7 := Lib.hid hn7
                have HR7 : Hid (Rm w7 b n s q v (-1)) := Lib.hid (RowAt.keep HRY.out hb7 hbB)
                have HK7 := Lib.hid (HOY.out.trans (Keep.of_below hb7))
                have y3 := HR7.out.free 3
                have y4 := HR7.out.cell 3 rfl
                obtain ⟨a7, cap7, hv7, _⟩ := hn7.own.view
                rw [strs_len, List.length_append, List.length_singleton] at hv7
                subst hv7
                clear hn7 hb7
                go_wp2
                first | go_end0 | refine bodyPost_ret (results_none rfl _ _ _) rfl ?_
                exact WdRes.yes HWP.out HRN.out HQ.out (HK7.out.set 3 _) rfl (HN7.out.set hbB 3 _) (HR7.out.outs _)
          · have hd1 : decide ((q : Int) < s.size) = true := by rw [decide_eq_true_eq]; omega
            have hpl : (q : Int) < s.size := by omega
            have hdg : s[q].toNat = dg s q := by simp [dg, hlt]
            have e48 : decide ((48 : Int) ≤ dg s q) = true := by rw [decide_eq_true_eq]; omega
            have e57 : decide ((dg s q : Int) ≤ 57) = false := by rw [decide_eq_false_iff_not]; omega
            go_wp2
            go_quiet (fail)
            go_wp2
            have HRX := Lib.hid (HRX0.out nq)
            generalize wr.drewN nq = w2 at *
            clear c1 c2 HRX0 hd1 hdg e48 e57 hhi hlt hpl
            have HTD : Hid (∀ W, Rm W b n s q v (-1) ∧ Keep B b w W ∧ New B W 9 v (strs acc) → Calls Tryd.prog 40 #[.int .i64 n, .string (s.extract p q)] W fun e w' => e = .returned (.string (txt (tidyL n (lets (s.extract p q))))) ∧ Rm w' b n s q v (-1) ∧ Keep B b w w' ∧ New B w' 9 v (strs acc)) :=
              Lib.hid (fun W hW => (l3Tidy_any n h3 h8 (s.extract p q) (by rw [ByteArray.size_extract]; omega) W).mono fun e w' ⟨h1, h2⟩ => ⟨h1, RowAt.kept hW.1 h2, hW.2.1.trans (Keep.only (Only.of_below h2) (Nat.le_trans hBw hW.2.1.size)), hW.2.2.kept h2⟩)
            have HWN : Hid (q ≠ p → wordP n (lets s) p = tidyL n (lets (s.extract p q))) := Lib.hid (wordP_part HQ.out)
            have HW0 : Hid (q = p → wordP n (lets s) p = []) := Lib.hid (fun e => wordP_nil (by rw [HQ.out, e]))
            generalize tidyL n (lets (s.extract p q)) = r at *
            have hpq : (p : Int) ≤ q := by have := HPQ.out; omega
            have hqs : (q : Int) ≤ s.size := by have := HPQ.out; omega
            have h0p : (0 : Int) ≤ p := by omega
            have HRX2 : Hid (Rm w2.drew b n s q v (-1) ∧ Keep B b w w2.drew ∧ New B w2.drew 9 v (strs acc)) := Lib.hid ⟨HRX.out.1, HRX.out.2.1.drew, HRX.out.2.2.drewN 1⟩
            have d0 := HRX2.out.1.cell 0 rfl
            have d1 := HRX2.out.1.cell 1 rfl
            have d2 := HRX2.out.1.cell 2 rfl
            go_wp2
            go_region_held3 (fun w' => w'.cell? ⟨b, 0, none⟩ = some (.int .i64 n) ∧ w'.cell? ⟨b, 1, none⟩ = some (.string s) ∧ w'.cell? ⟨b, 2, none⟩ = some (.int .i64 q) ∧ Rm w' b n s q v (-1) ∧ Keep B b w w' ∧ New B w' 9 v (strs acc)) (first | exact ⟨d0, d1, d2, HRX2.out.1, HRX2.out.2.1, HRX2.out.2.2⟩ | exact ⟨hq5.cell 0 rfl, hq5.cell 1 rfl, hq5.cell 2 rfl, hq5, hq6, hq7⟩ | assumption) (first | (go_at_call 40; refine (HTD.out _ HRX2.out).mono ?_; rintro e5 w5 ⟨rfl, hq5, hq6, hq7⟩) | fail)
            have HRY := Lib.hid hq5
            have HOY := Lib.hid hq6
            have HNY := Lib.hid hq7
            have g2 := hq5.cell 2 rfl
            have g3 := hq5.cell 3 rfl
            have g4 := hq5.cell 4 rfl
            have z3 := hq5.free 3
            have z4 := hq5.free 4
            clear hq5 hq6 hq7 d0 d1 d2
            by_cases hqp : q = p
            · have HN := Lib.hid (HW0.out hqp)
              have heq : ((p : Int) == (q : Int)) = true := by rw [beq_iff_eq]; omega
              clear hqp
              go_wp2
              first | go_end0 | refine bodyPost_ret (results_none rfl _ _ _) rfl ?_
              exact WdRes.no HN.out (HOY.out.set 4 _) rfl HPQ.out.2 (HRY.out.bads _)
            · have HWP := Lib.hid (HWN.out hqp)
              have heq : ((p : Int) == (q : Int)) = false := by rw [beq_eq_false_iff_ne]; omega
              have hemp := empty_txt r
              clear hqp
              by_cases hr : r = []
              · have HN := Lib.hid (HWP.out.trans hr)
                rw [decide_eq_true hr] at hemp
                clear hr
                go_wp2
                first | go_end0 | refine bodyPost_ret (results_none rfl _ _ _) rfl ?_
                exact WdRes.no HN.out (HOY.out.set 4 _) rfl HPQ.out.2 (HRY.out.bads _)
              · have HRN := Lib.hid hr
                rw [decide_eq_false hr] at hemp
                have hal9 : (strs acc).length ≤ 100000 := by rw [strs_len]; omega
                clear hr
                go_wp2_with (at_builtin; refine wpList_app1 rfl (.tmp 123) (.tmp 125) 24 rfl 9 i0 (.string ⟨#[]⟩) 16 Tryd.underlying24 I0.out.1 I0.out.2.1 I0.out.2.2.1 I0.out.2.2.2 rfl B _ _ (strs acc) rfl HNY.out rfl rfl (Nat.le_trans hBw HOY.out.size) (Below.refl _ _) hal9 (by omega) ?_)
                intro v7 w7 hn7 _ hb7 _
                rw [strs_snoc] at hn7
                have HN7 := Lib.hid hn7
                have HR7 : Hid (Rm w7 b n s q v (-1)) := Lib.hid (RowAt.keep HRY.out hb7 hbB)
                have HK7 := Lib.hid (HOY.out.trans (Keep.of_below hb7))
                have y3 := HR7.out.free 3
                have y4 := HR7.out.cell 3 rfl
                obtain ⟨a7, cap7, hv7, _⟩ := hn7.own.view
                rw [strs_len, List.length_append, List.length_singleton] at hv7
                subst hv7
                clear hn7 hb7
                go_wp2
                first | go_end0 | refine bodyPost_ret (results_none rfl _ _ _) rfl ?_
                exact WdRes.yes HWP.out HRN.out HQ.out (HK7.out.set 3 _) rfl (HN7.out.set hbB 3 _) (HR7.out.outs _)
          · have hd1 : decide ((q : Int) < s.size) = false := by rw [decide_eq_false_iff_not]; omega
            go_wp2
            go_quiet (fail)
            go_wp2
            have HRX := Lib.hid (HRX0.out nq)
            generalize wr.drewN nq = w2 at *
            clear c1 c2 HRX0 hd1 hlt
            have HTD : Hid (∀ W, Rm W b n s q v (-1) ∧ Keep B b w W ∧ New B W 9 v (strs acc) → Calls Tryd.prog 40 #[.int .i64 n, .string (s.extract p q)] W fun e w' => e = .returned (.string (txt (tidyL n (lets (s.extract p q))))) ∧ Rm w' b n s q v (-1) ∧ Keep B b w w' ∧ New B w' 9 v (strs acc)) :=
              Lib.hid (fun W hW => (l3Tidy_any n h3 h8 (s.extract p q) (by rw [ByteArray.size_extract]; omega) W).mono fun e w' ⟨h1, h2⟩ => ⟨h1, RowAt.kept hW.1 h2, hW.2.1.trans (Keep.only (Only.of_below h2) (Nat.le_trans hBw hW.2.1.size)), hW.2.2.kept h2⟩)
            have HWN : Hid (q ≠ p → wordP n (lets s) p = tidyL n (lets (s.extract p q))) := Lib.hid (wordP_part HQ.out)
            have HW0 : Hid (q = p → wordP n (lets s) p = []) := Lib.hid (fun e => wordP_nil (by rw [HQ.out, e]))
            generalize tidyL n (lets (s.extract p q)) = r at *
            have hpq : (p : Int) ≤ q := by have := HPQ.out; omega
            have hqs : (q : Int) ≤ s.size := by have := HPQ.out; omega
            have h0p : (0 : Int) ≤ p := by omega
            have HRX2 : Hid (Rm w2.drew b n s q v (-1) ∧ Keep B b w w2.drew ∧ New B w2.drew 9 v (strs acc)) := Lib.hid ⟨HRX.out.1, HRX.out.2.1.drew, HRX.out.2.2.drewN 1⟩
            have d0 := HRX2.out.1.cell 0 rfl
            have d1 := HRX2.out.1.cell 1 rfl
            have d2 := HRX2.out.1.cell 2 rfl
            go_wp2
            go_region_held3 (fun w' => w'.cell? ⟨b, 0, none⟩ = some (.int .i64 n) ∧ w'.cell? ⟨b, 1, none⟩ = some (.string s) ∧ w'.cell? ⟨b, 2, none⟩ = some (.int .i64 q) ∧ Rm w' b n s q v (-1) ∧ Keep B b w w' ∧ New B w' 9 v (strs acc)) (first | exact ⟨d0, d1, d2, HRX2.out.1, HRX2.out.2.1, HRX2.out.2.2⟩ | exact ⟨hq5.cell 0 rfl, hq5.cell 1 rfl, hq5.cell 2 rfl, hq5, hq6, hq7⟩ | assumption) (first | (go_at_call 40; refine (HTD.out _ HRX2.out).mono ?_; rintro e5 w5 ⟨rfl, hq5, hq6, hq7⟩) | fail)
            have HRY := Lib.hid hq5
            have HOY := Lib.hid hq6
            have HNY := Lib.hid hq7
            have g2 := hq5.cell 2 rfl
            have g3 := hq5.cell 3 rfl
            have g4 := hq5.cell 4 rfl
            have z3 := hq5.free 3
            have z4 := hq5.free 4
            clear hq5 hq6 hq7 d0 d1 d2
            by_cases hqp : q = p
            · have HN := Lib.hid (HW0.out hqp)
              have heq : ((p : Int) == (q : Int)) = true := by rw [beq_iff_eq]; omega
              clear hqp
              go_wp2
              first | go_end0 | refine bodyPost_ret (results_none rfl _ _ _) rfl ?_
              exact WdRes.no HN.out (HOY.out.set 4 _) rfl HPQ.out.2 (HRY.out.bads _)
            · have HWP := Lib.hid (HWN.out hqp)
              have heq : ((p : Int) == (q : Int)) = false := by rw [beq_eq_false_iff_ne]; omega
              have hemp := empty_txt r
              clear hqp
              by_cases hr : r = []
              · have HN := Lib.hid (HWP.out.trans hr)
                rw [decide_eq_true hr] at hemp
                clear hr
                go_wp2
                first | go_end0 | refine bodyPost_ret (results_none rfl _ _ _) rfl ?_
                exact WdRes.no HN.out (HOY.out.set 4 _) rfl HPQ.out.2 (HRY.out.bads _)
              · have HRN := Lib.hid hr
                rw [decide_eq_false hr] at hemp
                have hal9 : (strs acc).length ≤ 100000 := by rw [strs_len]; omega
                clear hr
                go_wp2_with (at_builtin; refine wpList_app1 rfl (.tmp 123) (.tmp 125) 24 rfl 9 i0 (.string ⟨#[]⟩) 16 Tryd.underlying24 I0.out.1 I0.out.2.1 I0.out.2.2.1 I0.out.2.2.2 rfl B _ _ (strs acc) rfl HNY.out rfl rfl (Nat.le_trans hBw HOY.out.size) (Below.refl _ _) hal9 (by omega) ?_)
                intro v7 w7 hn7 _ hb7 _
                rw [strs_snoc] at hn7
                have HN7 := Lib.hid hn7
                have HR7 : Hid (Rm w7 b n s q v (-1)) := Lib.hid (RowAt.keep HRY.out hb7 hbB)
                have HK7 := Lib.hid (HOY.out.trans (Keep.of_below hb7))
                have y3 := HR7.out.free 3
                have y4 := HR7.out.cell 3 rfl
                obtain ⟨a7, cap7, hv7, _⟩ := hn7.own.view
                rw [strs_len, List.length_append, List.length_singleton] at hv7
                subst hv7
                clear hn7 hb7
                go_wp2
                first | go_end0 | refine bodyPost_ret (results_none rfl _ _ _) rfl ?_
                exact WdRes.yes HWP.out HRN.out HQ.out (HK7.out.set 3 _) rfl (HN7.out.set hbB 3 _) (HR7.out.outs _)
    · have hd1 : decide ((p : Int) < s.size) = false := by rw [decide_eq_false_iff_not]; omega
      go_enter Tryd.func69, Tryd.ntmps69
      go_wp2
      go_quiet (fail)
      go_wp2
      clear hd1 hlt f2
      have HR0 : Hid (Rm (w.drewN nq) b n s p v (-1) ∧ Keep B b w (w.drewN nq) ∧ New B (w.drewN nq) 9 v (strs acc)) := Lib.hid ⟨RowAt.drewN HR.out _, (Keep.refl B b w).drewN _, HV.out.drewN _⟩
      generalize w.drewN nq = wl at *
      go_loopg [] (spanD ((lets s).drop p)) (fun q0 wr => ∃ q : Nat, q0 = spanD ((lets s).drop q) ∧ p ≤ q ∧ q ≤ s.size ∧ q + spanD ((lets s).drop q) = p + spanD ((lets s).drop p) ∧ Rm wr b n s q v (-1) ∧ Keep B b w wr ∧ New B wr 9 v (strs acc))
      case atStart => exact ⟨p, rfl, Nat.le_refl _, hp, rfl, HR0.out.1, HR0.out.2.1, HR0.out.2.2⟩
      case round =>
        obtain ⟨q, hqm, hpq9, hqs9, hspan, hrd, hon, hnv⟩ := hrel
        clear c1 c2
        have HRX := Lib.hid (And.intro hrd (And.intro hon hnv))
        have HSP := Lib.hid hspan
        have HM := Lib.hid hqm
        have c1 := hrd.cell 1 rfl
        have c2 := hrd.cell 2 rfl
        have f2 : ∀ k, (wr.drewN k).frozen? ⟨b, 2, none⟩ = false := fun k => RowAt.free (RowAt.drewN hrd k) 2
        have hqi : (q : Int) ≤ s.size := by omega
        clear hspan hrd hon hnv hqm HR0
        by_cases hdd : q < s.size ∧ isD (dg s q) = true
        · have hlt := hdd.1
          have hstep : spanD ((lets s).drop q) = spanD ((lets s).drop (q + 1)) + 1 := by
            rw [drop_lets s q hlt, spanD, hdd.2]
            rfl
          have hge : 48 ≤ dg s q ∧ dg s q ≤ 57 := by have := hdd.2; unfold isD at this; simpa using this
          have hd1 : decide ((q : Int) < s.size) = true := by rw [decide_eq_true_eq]; omega
          have hpl : (q : Int) < s.size := by omega
          have hdg : s[q].toNat = dg s q := by simp [dg, hlt]
          have e48 : decide ((48 : Int) ≤ dg s q) = true := by rw [decide_eq_true_eq]; omega
          have e57 : decide ((dg s q : Int) ≤ 57) = true := by rw [decide_eq_true_eq]; omega
          have HNX : Hid (∀ k, Rm ((wr.drewN k).setCell ⟨b, 2, none⟩ (.int .i64 ((q : Int) + 1))) b n s (q + 1) v (-1) ∧ Keep B b w ((wr.drewN k).setCell ⟨b, 2, none⟩ (.int .i64 ((q : Int) + 1))) ∧ New B ((wr.drewN k).setCell ⟨b, 2, none⟩ (.int .i64 ((q : Int) + 1))) 9 v (strs acc)) :=
            Lib.hid (fun k => ⟨Rm.next (RowAt.drewN HRX.out.1 k), (HRX.out.2.1.drewN k).set 2 _, (HRX.out.2.2.drewN k).set hbB 2 _⟩)
          have HST := Lib.hid hstep
          clear hdd hstep hge
          go_wp2
          go_quiet (fail)
          have f3 := f2 nq
          go_wp2
          go_roundg (spanD ((lets s).drop (q + 1)))
          case measure => have h1 := HST.out; have h2 := HM.out; omega
          case rel => exact ⟨q + 1, rfl, by omega, by omega, by have h1 := HST.out; have h2 := HSP.out; omega, (HNX.out _).1, (HNX.out _).2.1, (HNX.out _).2.2⟩
        · have hz : spanD ((lets s).drop q) = 0 := by
            by_cases hlt : q < s.size
            · have hxx : isD (dg s q) = false := by
                cases h9 : isD (dg s q)
                · rfl
                · exact absurd ⟨hlt, h9⟩ hdd
              rw [drop_lets s q hlt, spanD, hxx]
              rfl
            · rw [drop_end s q (by omega)]
              rfl
          have HQ : Hid (p + spanW ((lets s).drop p) = q) := Lib.hid (by
            have h2 := HSP.out
            rw [HSW.out]
            omega)
          have HPQ : Hid (p ≤ q ∧ q ≤ s.size) := Lib.hid ⟨hpq9, hqs9⟩
          have HRX0 : Hid (∀ k, Rm (wr.drewN k) b n s q v (-1) ∧ Keep B b w (wr.drewN k) ∧ New B (wr.drewN k) 9 v (strs acc)) := Lib.hid (fun k => ⟨RowAt.drewN HRX.out.1 k, HRX.out.2.1.drewN k, HRX.out.2.2.drewN k⟩)
          have hcond : (q < s.size ∧ (dg s q < 48 ∨ 57 < dg s q)) ∨ ¬ q < s.size := by
            by_cases hlt : q < s.size
            · left
              refine ⟨hlt, ?_⟩
              rcases Nat.lt_or_ge (dg s q) 48 with h9 | h9
              · exact .inl h9
              · rcases Nat.lt_or_ge 57 (dg s q) with h8 | h8
                · exact .inr h8
                · exact absurd ⟨hlt, by unfold isD; simp [h9, h8]⟩ hdd
            · exact .inr hlt
          clear hdd hz HSP HM HR HV HRX f2 hpq9 hqs9
          rcases hcond with ⟨hlt, hlo | hhi⟩ | hlt
          · have hd1 : decide ((q : Int) < s.size) = true := by rw [decide_eq_true_eq]; omega
            have hpl : (q : Int) < s.size := by omega
            have hdg : s[q].toNat = dg s q := by simp [dg, hlt]
            have e48 : decide ((48 : Int) ≤ dg s q) = false := by rw [decide_eq_false_iff_not]; omega
            go_wp2
            go_quiet (fail)
            go_wp2
            have HRX := Lib.hid (HRX0.out nq)
            generalize wr.drewN nq = w2 at *
            clear c1 c2 HRX0 hd1 hdg e48 hlo hlt hpl
            have HTD : Hid (∀ W, Rm W b n s q v (-1) ∧ Keep B b w W ∧ New B W 9 v (strs acc) → Calls Tryd.prog 40 #[.int .i64 n, .string (s.extract p q)] W fun e w' => e = .returned (.string (txt (tidyL n (lets (s.extract p q))))) ∧ Rm w' b n s q v (-1) ∧ Keep B b w w' ∧ New B w' 9 v (strs acc)) :=
              Lib.hid (fun W hW => (l3Tidy_any n h3 h8 (s.extract p q) (by rw [ByteArray.size_extract]; omega) W).mono fun e w' ⟨h1, h2⟩ => ⟨h1, RowAt.kept hW.1 h2, hW.2.1.trans (Keep.only (Only.of_below h2) (Nat.le_trans hBw hW.2.1.size)), hW.2.2.kept h2⟩)
            have HWN : Hid (q ≠ p → wordP n (lets s) p = tidyL n (lets (s.extract p q))) := Lib.hid (wordP_part HQ.out)
            have HW0 : Hid (q = p → wordP n (lets s) p = []) := Lib.hid (fun e => wordP_nil (by rw [HQ.out, e]))
            generalize tidyL n (lets (s.extract p q)) = r at *
            have hpq : (p : Int) ≤ q := by have := HPQ.out; omega
            have hqs : (q : Int) ≤ s.size := by have := HPQ.out; omega
            have h0p : (0 : Int) ≤ p := by omega
            have HRX2 : Hid (Rm w2.drew b n s q v (-1) ∧ Keep B b w w2.drew ∧ New B w2.drew 9 v (strs acc)) := Lib.hid ⟨HRX.out.1, HRX.out.2.1.drew, HRX.out.2.2.drewN 1⟩
            have d0 := HRX2.out.1.cell 0 rfl
            have d1 := HRX2.out.1.cell 1 rfl
            have d2 := HRX2.out.1.cell 2 rfl
            go_wp2
            go_region_held3 (fun w' => w'.cell? ⟨b, 0, none⟩ = some (.int .i64 n) ∧ w'.cell? ⟨b, 1, none⟩ = some (.string s) ∧ w'.cell? ⟨b, 2, none⟩ = some (.int .i64 q) ∧ Rm w' b n s q v (-1) ∧ Keep B b w w' ∧ New B w' 9 v (strs acc)) (first | exact ⟨d0, d1, d2, HRX2.out.1, HRX2.out.2.1, HRX2.out.2.2⟩ | exact ⟨hq5.cell 0 rfl, hq5.cell 1 rfl, hq5.cell 2 rfl, hq5, hq6, hq7⟩ | assumption) (first | (go_at_call 40; refine (HTD.out _ HRX2.out).mono ?_; rintro e5 w5 ⟨rfl, hq5, hq6, hq7⟩) | fail)
            have HRY := Lib.hid hq5
            have HOY := Lib.hid hq6
            have HNY := Lib.hid hq7
            have g2 := hq5.cell 2 rfl
            have g3 := hq5.cell 3 rfl
            have g4 := hq5.cell 4 rfl
            have z3 := hq5.free 3
            have z4 := hq5.free 4
            clear hq5 hq6 hq7 d0 d1 d2
            by_cases hqp : q = p
            · have HN := Lib.hid (HW0.out hqp)
              have heq : ((p : Int) == (q : Int)) = true := by rw [beq_iff_eq]; omega
              clear hqp
              go_wp2
              first | go_end0 | refine bodyPost_ret (results_none rfl _ _ _) rfl ?_
              exact WdRes.no HN.out (HOY.out.set 4 _) rfl HPQ.out.2 (HRY.out.bads _)
            · have HWP := Lib.hid (HWN.out hqp)
              have heq : ((p : Int) == (q : Int)) = false := by rw [beq_eq_false_iff_ne]; omega
              have hemp := empty_txt r
              clear hqp
              by_cases hr : r = []
              · have HN := Lib.hid (HWP.out.trans hr)
                rw [decide_eq_true hr] at hemp
                clear hr
                go_wp2
                first | go_end0 | refine bodyPost_ret (results_none rfl _ _ _) rfl ?_
                exact WdRes.no HN.out (HOY.out.set 4 _) rfl HPQ.out.2 (HRY.out.bads _)
              · have HRN := Lib.hid hr
                rw [decide_eq_false hr] at hemp
                have hal9 : (strs acc).length ≤ 100000 := by rw [strs_len]; omega
                clear hr
                go_wp2_with (at_builtin; refine wpList_app1 rfl (.tmp 123) (.tmp 125) 24 rfl 9 i0 (.string ⟨#[]⟩) 16 Tryd.underlying24 I0.out.1 I0.out.2.1 I0.out.2.2.1 I0.out.2.2.2 rfl B _ _ (strs acc) rfl HNY.out rfl rfl (Nat.le_trans hBw HOY.out.size) (Below.refl _ _) hal9 (by omega) ?_)
                intro v7 w7 hn7 _ hb7 _
                rw [strs_snoc] at hn7
                have HN7 := Lib.hid hn7
                have HR7 : Hid (Rm w7 b n s q v (-1)) := Lib.hid (RowAt.keep HRY.out hb7 hbB)
                have HK7 := Lib.hid (HOY.out.trans (Keep.of_below hb7))
                have y3 := HR7.out.free 3
                have y4 := HR7.out.cell 3 rfl
                obtain ⟨a7, cap7, hv7, _⟩ := hn7.own.view
                rw [strs_len, List.length_append, List.length_singleton] at hv7
                subst hv7
                clear hn7 hb7
                go_wp2
                first | go_end0 | refine bodyPost_ret (results_none rfl _ _ _) rfl ?_
                exact WdRes.yes HWP.out HRN.out HQ.out (HK7.out.set 3 _) rfl (HN7.out.set hbB 3 _) (HR7.out.outs _)
          · have hd1 : decide ((q : Int) < s.size) = true := by rw [decide_eq_true_eq]; omega
            have hpl : (q : Int) < s.size := by omega
            have hdg : s[q].toNat = dg s q := by simp [dg, hlt]
            have e48 : decide ((48 : Int) ≤ dg s q) = true := by rw [decide_eq_true_eq]; omega
            have e57 : decide ((dg s q : Int) ≤ 57) = false := by rw [decide_eq_false_iff_not]; omega
            go_wp2
            go_quiet (fail)
            go_wp2
            have HRX := Lib.hid (HRX0.out nq)
            generalize wr.drewN nq = w2 at *
            clear c1 c2 HRX0 hd1 hdg e48 e57 hhi hlt hpl
            have HTD : Hid (∀ W, Rm W b n s q v (-1) ∧ Keep B b w W ∧ New B W 9 v (strs acc) → Calls Tryd.prog 40 #[.int .i64 n, .string (s.extract p q)] W fun e w' => e = .returned (.string (txt (tidyL n (lets (s.extract p q))))) ∧ Rm w' b n s q v (-1) ∧ Keep B b w w' ∧ New B w' 9 v (strs acc)) :=
              Lib.hid (fun W hW => (l3Tidy_any n h3 h8 (s.extract p q) (by rw [ByteArray.size_extract]; omega) W).mono fun e w' ⟨h1, h2⟩ => ⟨h1, RowAt.kept hW.1 h2, hW.2.1.trans (Keep.only (Only.of_below h2) (Nat.le_trans hBw hW.2.1.size)), hW.2.2.kept h2⟩)
            have HWN : Hid (q ≠ p → wordP n (lets s) p = tidyL n (lets (s.extract p q))) := Lib.hid (wordP_part HQ.out)
            have HW0 : Hid (q = p → wordP n (lets s) p = []) := Lib.hid (fun e => wordP_nil (by rw [HQ.out, e]))
            generalize tidyL n (lets (s.extract p q)) = r at *
            have hpq : (p : Int) ≤ q := by have := HPQ.out; omega
            have hqs : (q : Int) ≤ s.size := by have := HPQ.out; omega
            have h0p : (0 : Int) ≤ p := by omega
            have HRX2 : Hid (Rm w2.drew b n s q v (-1) ∧ Keep B b w w2.drew ∧ New B w2.drew 9 v (strs acc)) := Lib.hid ⟨HRX.out.1, HRX.out.2.1.drew, HRX.out.2.2.drewN 1⟩
            have d0 := HRX2.out.1.cell 0 rfl
            have d1 := HRX2.out.1.cell 1 rfl
            have d2 := HRX2.out.1.cell 2 rfl
            go_wp2
            go_region_held3 (fun w' => w'.cell? ⟨b, 0, none⟩ = some (.int .i64 n) ∧ w'.cell? ⟨b, 1, none⟩ = some (.string s) ∧ w'.cell? ⟨b, 2, none⟩ = some (.int .i64 q) ∧ Rm w' b n s q v (-1) ∧ Keep B b w w' ∧ New B w' 9 v (strs acc)) (first | exact ⟨d0, d1, d2, HRX2.out.1, HRX2.out.2.1, HRX2.out.2.2⟩ | exact ⟨hq5.cell 0 rfl, hq5.cell 1 rfl, hq5.cell 2 rfl, hq5, hq6, hq7⟩ | assumption) (first | (go_at_call 40; refine (HTD.out _ HRX2.out).mono ?_; rintro e5 w5 ⟨rfl, hq5, hq6, hq7⟩) | fail)
            have HRY := Lib.hid hq5
            have HOY := Lib.hid hq6
            have HNY := Lib.hid hq7
            have g2 := hq5.cell 2 rfl
            have g3 := hq5.cell 3 rfl
            have g4 := hq5.cell 4 rfl
            have z3 := hq5.free 3
            have z4 := hq5.free 4
            clear hq5 hq6 hq7 d0 d1 d2
            by_cases hqp : q = p
            · have HN := Lib.hid (HW0.out hqp)
              have heq : ((p : Int) == (q : Int)) = true := by rw [beq_iff_eq]; omega
              clear hqp
              go_wp2
              first | go_end0 | refine bodyPost_ret (results_none rfl _ _ _) rfl ?_
              exact WdRes.no HN.out (HOY.out.set 4 _) rfl HPQ.out.2 (HRY.out.bads _)
            · have HWP := Lib.hid (HWN.out hqp)
              have heq : ((p : Int) == (q : Int)) = false := by rw [beq_eq_false_iff_ne]; omega
              have hemp := empty_txt r
              clear hqp
              by_cases hr : r = []
              · have HN := Lib.hid (HWP.out.trans hr)
                rw [decide_eq_true hr] at hemp
                clear hr
                go_wp2
                first | go_end0 | refine bodyPost_ret (results_none rfl _ _ _) rfl ?_
                exact WdRes.no HN.out (HOY.out.set 4 _) rfl HPQ.out.2 (HRY.out.bads _)
              · have HRN := Lib.hid hr
                rw [decide_eq_false hr] at hemp
                have hal9 : (strs acc).length ≤ 100000 := by rw [strs_len]; omega
                clear hr
                go_wp2_with (at_builtin; refine wpList_app1 rfl (.tmp 123) (.tmp 125) 24 rfl 9 i0 (.string ⟨#[]⟩) 16 Tryd.underlying24 I0.out.1 I0.out.2.1 I0.out.2.2.1 I0.out.2.2.2 rfl B _ _ (strs acc) rfl HNY.out rfl rfl (Nat.le_trans hBw HOY.out.size) (Below.refl _ _) hal9 (by omega) ?_)
                intro v7 w7 hn7 _ hb7 _
                rw [strs_snoc] at hn7
                have HN7 := Lib.hid hn7
                have HR7 : Hid (Rm w7 b n s q v (-1)) := Lib.hid (RowAt.keep HRY.out hb7 hbB)
                have HK7 := Lib.hid (HOY.out.trans (Keep.of_below hb7))
                have y3 := HR7.out.free 3
                have y4 := HR7.out.cell 3 rfl
                obtain ⟨a7, cap7, hv7, _⟩ := hn7.own.view
                rw [strs_len, List.length_append, List.length_singleton] at hv7
                subst hv7
                clear hn7 hb7
                go_wp2
                first | go_end0 | refine bodyPost_ret (results_none rfl _ _ _) rfl ?_
                exact WdRes.yes HWP.out HRN.out HQ.out (HK7.out.set 3 _) rfl (HN7.out.set hbB 3 _) (HR7.out.outs _)
          · have hd1 : decide ((q : Int) < s.size) = false := by rw [decide_eq_false_iff_not]; omega
            go_wp2
            go_quiet (fail)
            go_wp2
            have HRX := Lib.hid (HRX0.out nq)
            generalize wr.drewN nq = w2 at *
            clear c1 c2 HRX0 hd1 hlt
            have HTD : Hid (∀ W, Rm W b n s q v (-1) ∧ Keep B b w W ∧ New B W 9 v (strs acc) → Calls Tryd.prog 40 #[.int .i64 n, .string (s.extract p q)] W fun e w' => e = .returned (.string (txt (tidyL n (lets (s.extract p q))))) ∧ Rm w' b n s q v (-1) ∧ Keep B b w w' ∧ New B w' 9 v (strs acc)) :=
              Lib.hid (fun W hW => (l3Tidy_any n h3 h8 (s.extract p q) (by rw [ByteArray.size_extract]; omega) W).mono fun e w' ⟨h1, h2⟩ => ⟨h1, RowAt.kept hW.1 h2, hW.2.1.trans (Keep.only (Only.of_below h2) (Nat.le_trans hBw hW.2.1.size)), hW.2.2.kept h2⟩)
            have HWN : Hid (q ≠ p → wordP n (lets s) p = tidyL n (lets (s.extract p q))) := Lib.hid (wordP_part HQ.out)
            have HW0 : Hid (q = p → wordP n (lets s) p = []) := Lib.hid (fun e => wordP_nil (by rw [HQ.out, e]))
            generalize tidyL n (lets (s.extract p q)) = r at *
            have hpq : (p : Int) ≤ q := by have := HPQ.out; omega
            have hqs : (q : Int) ≤ s.size := by have := HPQ.out; omega
            have h0p : (0 : Int) ≤ p := by omega
            have HRX2 : Hid (Rm w2.drew b n s q v (-1) ∧ Keep B b w w2.drew ∧ New B w2.drew 9 v (strs acc)) := Lib.hid ⟨HRX.out.1, HRX.out.2.1.drew, HRX.out.2.2.drewN 1⟩
            have d0 := HRX2.out.1.cell 0 rfl
            have d1 := HRX2.out.1.cell 1 rfl
            have d2 := HRX2.out.1.cell 2 rfl
            go_wp2
            go_region_held3 (fun w' => w'.cell? ⟨b, 0, none⟩ = some (.int .i64 n) ∧ w'.cell? ⟨b, 1, none⟩ = some (.string s) ∧ w'.cell? ⟨b, 2, none⟩ = some (.int .i64 q) ∧ Rm w' b n s q v (-1) ∧ Keep B b w w' ∧ New B w' 9 v (strs acc)) (first | exact ⟨d0, d1, d2, HRX2.out.1, HRX2.out.2.1, HRX2.out.2.2⟩ | exact ⟨hq5.cell 0 rfl, hq5.cell 1 rfl, hq5.cell 2 rfl, hq5, hq6, hq7⟩ | assumption) (first | (go_at_call 40; refine (HTD.out _ HRX2.out).mono ?_; rintro e5 w5 ⟨rfl, hq5, hq6, hq7⟩) | fail)
            have HRY := Lib.hid hq5
            have HOY := Lib.hid hq6
            have HNY := Lib.hid hq7
            have g2 := hq5.cell 2 rfl
            have g3 := hq5.cell 3 rfl
            have g4 := hq5.cell 4 rfl
            have z3 := hq5.free 3
            have z4 := hq5.free 4
            clear hq5 hq6 hq7 d0 d1 d2
            by_cases hqp : q = p
            · have HN := Lib.hid (HW0.out hqp)
              have heq : ((p : Int) == (q : Int)) = true := by rw [beq_iff_eq]; omega
              clear hqp
              go_wp2
              first | go_end0 | refine bodyPost_ret (results_none rfl _ _ _) rfl ?_
              exact WdRes.no HN.out (HOY.out.set 4 _) rfl HPQ.out.2 (HRY.out.bads _)
            · have HWP := Lib.hid (HWN.out hqp)
              have heq : ((p : Int) == (q : Int)) = false := by rw [beq_eq_false_iff_ne]; omega
              have hemp := empty_txt r
              clear hqp
              by_cases hr : r = []
              · have HN := Lib.hid (HWP.out.trans hr)
                rw [decide_eq_true hr] at hemp
                clear hr
                go_wp2
                first | go_end0 | refine bodyPost_ret (results_none rfl _ _ _) rfl ?_
                exact WdRes.no HN.out (HOY.out.set 4 _) rfl HPQ.out.2 (HRY.out.bads _)
              · have HRN := Lib.hid hr
                rw [decide_eq_false hr] at hemp
                have hal9 : (strs acc).length ≤ 100000 := by rw [strs_len]; omega
                clear hr
                go_wp2_with (at_builtin; refine wpList_app1 rfl (.tmp 123) (.tmp 125) 24 rfl 9 i0 (.string ⟨#[]⟩) 16 Tryd.underlying24 I0.out.1 I0.out.2.1 I0.out.2.2.1 I0.out.2.2.2 rfl B _ _ (strs acc) rfl HNY.out rfl rfl (Nat.le_trans hBw HOY.out.size) (Below.refl _ _) hal9 (by omega) ?_)
                intro v7 w7 hn7 _ hb7 _
                rw [strs_snoc] at hn7
                have HN7 := Lib.hid hn7
                have HR7 : Hid (Rm w7 b n s q v (-1)) := Lib.hid (RowAt.keep HRY.out hb7 hbB)
                have HK7 := Lib.hid (HOY.out.trans (Keep.of_below hb7))
                have y3 := HR7.out.free 3
                have y4 := HR7.out.cell 3 rfl
                obtain ⟨a7, cap7, hv7, _⟩ := hn7.own.view
                rw [strs_len, List.length_append, List.length_singleton] at hv7
                subst hv7
                clear hn7 hb7
                go_wp2
                first | go_end0 | refine bodyPost_ret (results_none rfl _ _ _) rfl ?_
                exact WdRes.yes HWP.out HRN.out HQ.out (HK7.out.set 3 _) rfl (HN7.out.set hbB 3 _) (HR7.out.outs _)
end Go.Proofs.YtdflpkkcjbdpfaaDoor
