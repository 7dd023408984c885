/- Lists of lists of numbers, each in a block of its own: compared, marked, held. -/
import Derived.Test.YtkjdldidgijloaaO2
namespace Go.Proofs.Ytkjdldidgijloaa
open Go.RowKit
set_option linter.unusedSimpArgs false

def nilV : Value := .slice none 0 0
/-- v is a slice of n slices that read as F; the inner slices are vs; no two lie in one block; all blocks lie from B on -/
structure Lists (B : Nat) (W : World) (v : Value) (vs : List Value) (n : Nat) (F : Nat → List Int) : Prop where
  outer : Own W 44 v vs
  len : vs.length = n
  inner : ∀ i, i < n → Own W 3 (vs.getD i nilV) (ints (F i))
  apart : ∀ i j g, i < j → j < n → (vs.getD i nilV).ownBlock = some g → (vs.getD j nilV).ownBlock ≠ some g
  base : ∀ g, v.ownBlock = some g → B ≤ g
  ibase : ∀ i g, i < n → (vs.getD i nilV).ownBlock = some g → B ≤ g
theorem Lists.kept {B : Nat} {W W' : World} {v : Value} {vs : List Value} {n : Nat} {F : Nat → List Int} (h : Lists B W v vs n F) (hb : Below W.heap.size W W') : Lists B W' v vs n F :=
  ⟨h.outer.kept hb, h.len, fun i hi => (h.inner i hi).kept hb, h.apart, h.base, h.ibase⟩
/-- where the blocks below C alone are known to stay, and all of ours lie below C -/
theorem Lists.keptTo {B C : Nat} {W W' : World} {v : Value} {vs : List Value} {n : Nat} {F : Nat → List Int} (h : Lists B W v vs n F) (hC : W.heap.size ≤ C) (hb : Below C W W') : Lists B W' v vs n F :=
  h.kept (hb.mono hC)
theorem Lists.congr {B : Nat} {W : World} {v : Value} {vs : List Value} {n : Nat} {F G : Nat → List Int} (h : Lists B W v vs n F) (e : ∀ i, i < n → F i = G i) : Lists B W v vs n G :=
  ⟨h.outer, h.len, fun i hi => by rw [← e i hi]; exact h.inner i hi, h.apart, h.base, h.ibase⟩
theorem Lists.nil (B : Nat) (W : World) (F : Nat → List Int) : Lists B W nilV [] 0 F :=
  ⟨Own.nil W _, rfl, fun i hi => absurd hi (by omega), fun i j g _ hj => absurd hj (by omega), fun g hg => by simp [nilV, Value.ownBlock] at hg, fun i g hi => absurd hi (by omega)⟩
theorem Lists.at {B : Nat} {W : World} {v : Value} {vs : List Value} {n : Nat} {F : Nat → List Int} (h : Lists B W v vs n F) (i : Nat) (hi : i < n) : vs[i]? = some (vs.getD i nilV) := by
  have := h.len
  rw [List.getD_eq_getElem?_getD, List.getElem?_eq_getElem (by omega)]; rfl
theorem Lists.view {B : Nat} {W : World} {v : Value} {vs : List Value} {n : Nat} {F : Nat → List Int} (h : Lists B W v vs n F) : ∃ a cap, v = .slice a n cap ∧ (0 < n → ∃ g, a = some ⟨g, 0, none⟩) := by
  have := h.outer.view
  rw [h.len] at this
  exact this
/-- one inner slice turned, all else as it was -/
theorem Lists.turn {B : Nat} {W W' : World} {v : Value} {vs : List Value} {n : Nat} {F G : Nat → List Int} (h : Lists B W v vs n F) (k : Nat) (hk : k < n) (hg : W.grownBy W' (vs.getD k nilV).ownBlock)
    (hnew : Own W' 3 (vs.getD k nilV) (ints (G k))) (hold : ∀ i, i < n → i ≠ k → G i = F i) : Lists B W' v vs n G := by
  refine ⟨h.outer.grown hg fun g hv e => ?_, h.len, fun i hi => ?_, h.apart, h.base, h.ibase⟩
  · exact (h.outer.apart (h.inner k hk) (by decide) g hv) e.symm
  · by_cases e : i = k
    · subst e; exact hnew
    · rw [hold i hi e]
      refine (h.inner i hi).grown hg fun g hv q => ?_
      by_cases hlt : i < k
      · exact h.apart i k g hlt hk hv q.symm
      · exact h.apart k i g (by omega) hi q.symm hv

set_option maxRecDepth 100000 in
set_option maxHeartbeats 1000000 in
theorem eqIntSS_same (B B' : Nat) (v v' : Value) (vs vs' : List Value) (n : Nat) (F : Nat → List Int) (w : World) (h : Lists B w v vs n F) (h' : Lists B' w v' vs' n F) (hb : n ≤ 1000000) (hbi : ∀ i, i < n → (F i).length ≤ 1000000) :
    Calls Try.prog 46 #[v, v'] w fun e w' => e = .returned (.bool true) ∧ ∃ m, w' = w.drewN m := by
  obtain ⟨a, cap, rfl, ha⟩ := h.view
  obtain ⟨a', cap', rfl, ha'⟩ := h'.view
  have HL := Lib.hid h
  have HL' := Lib.hid h'
  have HA := Lib.hid ha
  have HA' := Lib.hid ha'
  have HBI := Lib.hid hbi
  clear h h' ha ha' hbi
  go_enter Try.func46, Try.ntmps46
  go_wp2
  go_loopg [5] n (fun q i wr => ∃ k : Nat, k ≤ n ∧ q + k = n ∧ i = .int .i64 k ∧ ∃ d, wr = w.drewN d)
  case atStart => exact ⟨0, Nat.zero_le _, rfl, rfl, 0, rfl⟩
  case round =>
    obtain ⟨k, hk, hq, rfl, hd⟩ := hrel
    have HD := Lib.hid hd
    have HQ := Lib.hid hq
    have L1 : Hid (Lists B wr (.slice a n cap) vs n F) := by obtain ⟨d, rfl⟩ := hd; exact HL.out.kept (below_drewN (Below.refl _ _) _)
    have L2 : Hid (Lists B' wr (.slice a' n cap') vs' n F) := by obtain ⟨d, rfl⟩ := hd; exact HL'.out.kept (below_drewN (Below.refl _ _) _)
    clear hq hd
    by_cases hlt : k < n
    · obtain ⟨g, rfl⟩ := HA.out (by omega)
      obtain ⟨g', rfl⟩ := HA'.out (by omega)
      have c1 := L1.out.outer.cell k _ (L1.out.at k hlt)
      have c2 := L2.out.outer.cell k _ (L2.out.at k hlt)
      have I1 := Lib.hid (L1.out.inner k hlt)
      have I2 := Lib.hid (L2.out.inner k hlt)
      have hki : (k : Int) < n := by omega
      obtain ⟨a1, cap1, e1, _⟩ := I1.out.viewI rfl
      obtain ⟨a2, cap2, e2, _⟩ := I2.out.viewI rfl
      rw [e1] at c1
      rw [e2] at c2
      have I1' : Hid (Own wr 3 (.slice a1 (F k).length cap1) (ints (F k))) := by rw [← e1]; exact I1
      have I2' : Hid (Own wr 3 (.slice a2 (F k).length cap2) (ints (F k))) := by rw [← e2]; exact I2
      clear e1 e2 I1 I2 L1 L2
      have hbk := HBI.out k hlt
      generalize hxk : F k = xk at c1 c2 I1' I2' hbk
      generalize hlk : xk.length = lk at c1 c2 I1' I2' hbk
      have HLK := Lib.hid hlk
      clear hlk hxk
      go_wp2
      go_quiet ((go_at_call 79; exact Calls.quiet_of (eqIntS_same _ _ xk _ I1'.out I2'.out (by rw [HLK.out]; exact hbk))))
      go_wp2
      go_roundg (n - (k + 1))
      case measure => have := HQ.out; omega
      case rel => exact ⟨k + 1, by omega, by have := HQ.out; omega, by go_num, (by obtain ⟨d, hd⟩ := HD.out; exact ⟨_, by rw [hd, World.drewN_drewN]⟩)⟩
    · obtain rfl : k = n := by omega
      go_wp2
      go_ret
      exact ⟨rfl, HD.out⟩

/-- how many numbers stand ahead of list i -/
def offL (L : Nat → Nat) : Nat → Nat
  | 0 => 0
  | i + 1 => offL L i + L i
theorem offL_mono (L : Nat → Nat) : ∀ {i j : Nat}, i ≤ j → offL L i ≤ offL L j
  | i, j, h => by
    induction h with
    | refl => exact Nat.le_refl _
    | step _ ih => exact Nat.le_trans ih (Nat.le_add_right _ _)
def markF (F : Nat → List Int) (k : Int) (j : Nat) (i : Nat) : List Int := if i < j then marks (k + (offL (fun i => (F i).length) i : Nat)) (F i).length else F i

set_option maxRecDepth 100000 in
set_option maxHeartbeats 1000000 in
theorem markIntSS_any (B : Nat) (v : Value) (vs : List Value) (n : Nat) (F : Nat → List Int) (k : Int) (w : World) (h : Lists B w v vs n F) (hb : n ≤ 1000) (hB : B ≤ w.heap.size) (hoff : offL (fun i => (F i).length) n ≤ 100000) (hk0 : 0 ≤ k) (hk1 : k ≤ 1000) :
    Calls Try.prog 47 #[v, .int .i64 k] w fun e w' => e = .returned (.int .i64 (k + (offL (fun i => (F i).length) n : Nat))) ∧ Lists B w' v vs n (markF F k n) ∧ Below B w w' := by
  obtain ⟨a, cap, rfl, ha⟩ := h.view
  have HL := Lib.hid h
  have HA := Lib.hid ha
  have HOFF := Lib.hid hoff
  clear h ha
  generalize hLen : (fun i => (F i).length) = L at *
  have HLEN := Lib.hid hLen
  clear hLen
  go_enter Try.func47, Try.ntmps47
  go_wp2
  go_loopg [1, 5] n (fun q kk i wr => ∃ j : Nat, j ≤ n ∧ q + j = n ∧ i = .int .i64 j ∧ kk = .int .i64 (k + (offL L j : Nat)) ∧ Lists B wr (.slice a n cap) vs n (markF F k j) ∧ Below B w wr)
  case atStart => exact ⟨0, Nat.zero_le _, rfl, rfl, by simp [offL], HL.out.congr (fun i _ => by simp [markF]), Below.refl _ _⟩
  case round =>
    obtain ⟨j, hj, hq, rfl, rfl, hl, hbel⟩ := hrel
    have HQ := Lib.hid hq
    have HL2 := Lib.hid hl
    have HB := Lib.hid hbel
    clear hq hl hbel
    by_cases hlt : j < n
    · obtain ⟨g, rfl⟩ := HA.out (by omega)
      have c1 := HL2.out.outer.cell j _ (HL2.out.at j hlt)
      have I1 := HL2.out.inner j hlt
      have hmj : markF F k j j = F j := by simp [markF]
      rw [hmj] at I1
      have hlj : (F j).length = L j := by rw [← HLEN.out]
      obtain ⟨a1, cap1, e1, _⟩ := I1.viewI hlj
      rw [e1] at c1 I1
      have hoj : offL L j + L j ≤ 100000 := Nat.le_trans (offL_mono L (show j + 1 ≤ n by omega)) HOFF.out
      have I1' := Lib.hid I1
      have E1 := Lib.hid e1
      have HLJ := Lib.hid hlj
      clear I1 e1 hlj hmj
      have hki : (j : Int) < n := by omega
      go_wp2_with fail
      refine (markIntS_any (.slice a1 (L j) cap1) (F j) (k + (offL L j : Nat)) _ I1'.out (by rw [HLJ.out]; omega) (by omega) (by omega)).mono ?_
      rintro e w1 ⟨rfl, ho1, hg1⟩
      rw [HLJ.out] at ho1 ⊢
      have hl3 : Lists B w1 (.slice (some ⟨g, 0, none⟩) n cap) vs n (markF F k (j + 1)) := by
        refine HL2.out.turn j hlt (by rw [E1.out]; exact hg1) (by rw [E1.out]; simp only [markF, show j < j + 1 by omega, if_true, HLEN.out, HLJ.out]; exact ho1) (fun i hi hne => ?_)
        unfold markF
        by_cases h1 : i < j
        · rw [if_pos h1, if_pos (by omega)]
        · rw [if_neg h1, if_neg (by omega)]
      have hb3 : Below B w w1 := HB.out.grown hg1 (Nat.le_trans hB HB.out.size) (fun b hbk => HL2.out.ibase j b hlt (by rw [E1.out]; exact hbk))
      have HL3 := Lib.hid hl3
      have HB3 := Lib.hid hb3
      clear hl3 hb3 ho1 hg1
      go_wp2
      go_roundg (n - (j + 1))
      case measure => have := HQ.out; omega
      case rel => exact ⟨j + 1, by omega, by have := HQ.out; omega, by go_num, by simp only [offL]; go_num, HL3.out, HB3.out⟩
    · obtain rfl : j = n := by omega
      go_wp2
      go_ret
      exact ⟨rfl, HL2.out, HB.out⟩

set_option maxRecDepth 100000 in
set_option maxHeartbeats 1000000 in
theorem heldIntSS_any (B : Nat) (v : Value) (vs : List Value) (n : Nat) (L : Nat → Nat) (k : Int) (w : World) (h : Lists B w v vs n (fun i => marks (k + (offL L i : Nat)) (L i))) (hb : n ≤ 1000) (hoff : offL L n ≤ 100000) (hk0 : 0 ≤ k) (hk1 : k ≤ 1000) :
    Calls Try.prog 48 #[v, .int .i64 k] w fun e w' => e = .returned (.int .i64 (k + (offL L n : Nat))) ∧ w = w' := by
  obtain ⟨a, cap, rfl, ha⟩ := h.view
  have HL := Lib.hid h
  have HA := Lib.hid ha
  have HOFF := Lib.hid hoff
  clear h ha
  go_enter Try.func48, Try.ntmps48
  go_wp2
  go_loopg [1, 5] n (fun q kk i wr => ∃ j : Nat, j ≤ n ∧ q + j = n ∧ i = .int .i64 j ∧ kk = .int .i64 (k + (offL L j : Nat)) ∧ w = wr)
  case atStart => exact ⟨0, Nat.zero_le _, rfl, rfl, by simp [offL], rfl⟩
  case round =>
    obtain ⟨j, hj, hq, rfl, rfl, rfl⟩ := hrel
    have HQ := Lib.hid hq
    clear hq
    by_cases hlt : j < n
    · obtain ⟨g, rfl⟩ := HA.out (by omega)
      have c1 := HL.out.outer.cell j _ (HL.out.at j hlt)
      have I1 := HL.out.inner j hlt
      obtain ⟨a1, cap1, e1, _⟩ := I1.viewI (marks_len _ _)
      rw [e1] at c1 I1
      have hoj : offL L j + L j ≤ 100000 := Nat.le_trans (offL_mono L (show j + 1 ≤ n by omega)) HOFF.out
      have I1' := Lib.hid I1
      clear I1 e1
      have hki : (j : Int) < n := by omega
      go_wp2_with fail
      refine (heldIntS_any (.slice a1 (L j) cap1) (L j) (k + (offL L j : Nat)) _ I1'.out (by omega) (by omega) (by omega)).mono ?_
      rintro e w1 ⟨rfl, rfl⟩
      have hnn : ¬ (k + (offL L j : Nat) + (L j : Nat) < 0) := by omega
      go_wp2
      go_roundg (n - (j + 1))
      case measure => have := HQ.out; omega
      case rel => exact ⟨j + 1, by omega, by have := HQ.out; omega, by go_num, by simp only [offL]; go_num, rfl⟩
    · obtain rfl : j = n := by omega
      go_wp2
      go_ret
      exact ⟨rfl, rfl⟩
end Go.Proofs.Ytkjdldidgijloaa
