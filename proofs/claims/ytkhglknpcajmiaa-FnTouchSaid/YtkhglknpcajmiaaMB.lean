/- Methods in the program: GoodMethod, LeadHead, LeadsIn, HuntBells. Rows as texts and courses, in the program. LeadRows and CourseRows in the program. -/
import Derived.Test.YtkhglknpcajmiaaMA
namespace Go.Proofs.Ytkhglknpcajmiaa
open Go.RowKit
set_option linter.unusedSimpArgs false
set_option linter.unusedVariables false

theorem lead_range {W : World} {b : Nat} {T : TypeId} {u : Value} {f : Nat → Nat} (h : RowAt W b T (leadV u f)) : W.rangeAt b 1 (cells8 f) := by
  intro j v hv
  have hj : j < 8 := (List.getElem?_eq_some_iff.1 hv).1
  refine h.cell (1 + j) ?_
  have : j = 0 ∨ j = 1 ∨ j = 2 ∨ j = 3 ∨ j = 4 ∨ j = 5 ∨ j = 6 ∨ j = 7 := by omega
  rcases this with rfl | rfl | rfl | rfl | rfl | rfl | rfl | rfl <;> exact hv

theorem goodM_nat {s : ByteArray} {n : Nat} {L : List (List Nat)} (h : goodM s n L = true) : 3 ≤ n ∧ n ≤ 8 ∧ Rows n (chR n L) ∧ (chR n L).length ≤ 40 ∧ 1 ≤ (chR n L).length := by
  have h1 := (goodM_parts h).1
  have h2 := goodAll_range h1
  have h3 := goodAll_len h1
  rw [chR_len]
  exact ⟨by omega, by omega, goodAll_rows h1, h3.2, h3.1⟩

end Go.Proofs.Ytkhglknpcajmiaa
namespace Go.Proofs.Ytkhglknpcajmiaa
open Go.RowKit
set_option linter.unusedSimpArgs false
set_option linter.unusedVariables false

/-- a slice of texts of its own -/
def TextsOut (L : List (List Nat)) (w : World) (e : Ending) (w' : World) : Prop := ∃ v, e = .returned v ∧ New w.heap.size w' 9 v (strs L) ∧ Below w.heap.size w w'
def blanks (k : Nat) : List Value := List.replicate k (.string ⟨#[]⟩)
theorem blanks_set (A : List (List Nat)) (l : List Nat) (k : Nat) : (strs A ++ blanks (k + 1)).set A.length (.string (txt l)) = strs (A ++ [l]) ++ blanks k := by
  unfold blanks
  rw [List.set_append_right _ _ (by rw [strs_len]; exact Nat.le_refl _), strs_len, Nat.sub_self, List.replicate_succ]
  simp [strs]

set_option maxRecDepth 100000 in
set_option maxHeartbeats 1000000 in
theorem rowTexts_any (n : Nat) (v : Value) (fs : List (Nat → Nat)) (hf : Rows n fs) (hl : fs.length ≤ 1000) (w : World) (h : Digs w v fs) :
    Calls Try.prog 106 #[v] w (TextsOut (rowsL n fs) w) := by
  obtain ⟨m, hm⟩ : ∃ m, fs.length = m := ⟨_, rfl⟩
  obtain ⟨a, cap, rfl, hcap, ha⟩ := h
  have ha : 0 < m → ∃ g off, a = some ⟨g, off, none⟩ ∧ g < w.heap.size ∧ ∀ i (h : i < fs.length), w.rangeAt g (off + i * 8) (cells8 fs[i]) := fun h0 => ha (by rw [hm]; exact h0)
  rw [hm] at hl ⊢
  have hl' : (m : Int) ≤ 1000 := by omega
  have HA := Lib.hid ha
  have HM := Lib.hid hm
  have HF := Lib.hid hf
  generalize hres : rowsL n fs = res
  have HRES := Lib.hid hres
  obtain ⟨i0, hi0, hz0, hz1, hz2⟩ := info_parts infoText
  have I0 := Lib.hid (⟨hi0, hz0, hz1, hz2⟩ : _ ∧ _ ∧ _ ∧ _)
  clear ha hm hcap hf hres hi0 hz0 hz1 hz2
  go_enter Try.func106, Try.ntmps106
  go_wp2_with (first | (at_make; refine wpList_make_full _ rfl _ _ 23 rfl w.heap.size 9 i0 (.string ⟨#[]⟩) 1 Try.underlying23 I0.out.1 I0.out.2.1 I0.out.2.2.1 .i64 .i64 _ _ m rfl rfl rfl rfl (by rw [I0.out.2.2.2]; omega) (by unfold maxLen; omega) (Nat.le_refl _) ?_) | fail)
  intro w1 hown hgrow
  have HB1 := Lib.hid ((Below.refl _ w).grown hgrow (Nat.le_refl _) (fun k hk => by cases hk))
  have HN1 : Hid (New w.heap.size w1 9 (.slice (some ⟨w.heap.size, 0, none⟩) m m) (strs [] ++ blanks m)) := Lib.hid (by
    have := hown
    rw [toList_madeCells_one] at this
    exact New.of_row this (by simp [strs, blanks]))
  clear hown hgrow
  go_wp2
  go_loopg [11] m (fun q i wr => ∃ (j : Nat) (A : List (List Nat)), q + j = m ∧ i = .int .i64 j ∧ A.length = j ∧ A ++ rowsL n (fs.drop j) = res ∧ New w.heap.size wr 9 (.slice (some ⟨w.heap.size, 0, none⟩) m m) (strs A ++ blanks q) ∧ Below w.heap.size w wr)
  case atStart => exact ⟨0, [], by omega, rfl, rfl, HRES.out, HN1.out, HB1.out⟩
  case round =>
    clear HRES HN1 HB1
    obtain ⟨j, A, hq, rfl, hA, hr, hn, hb⟩ := hrel
    have HAL := Lib.hid hA
    have HRR := Lib.hid hr
    have HN := Lib.hid hn
    have HB := Lib.hid hb
    clear hA hr hn hb
    by_cases hlt : j < m
    · obtain ⟨q', rfl⟩ : ∃ q', gk = q' + 1 := ⟨gk - 1, by omega⟩
      obtain ⟨gb, off, rfl, hgb, hc⟩ := HA.out (by omega)
      have hjx : j < fs.length := by rw [HM.out]; exact hlt
      have hr := HRR.out
      rw [List.drop_eq_getElem_cons hjx] at hr
      have hrow := HF.out _ (List.getElem_mem hjx)
      have hload := hc j hjx
      generalize fs[j] = x at *
      have HL : Hid (wr.rangeAt gb (off + j * 8) (cells8 x)) := Lib.hid (fun k u hu => (HB.out.cell (p := ⟨gb, off + j * 8 + k, none⟩) hgb).trans (hload k u hu))
      have HR2 := Lib.hid (show (A ++ [rowL n x]) ++ rowsL n (fs.drop (j + 1)) = res from by rw [← hr]; simp [rowsL])
      have hji : (j : Int) < m := by omega
      have HBX := Lib.hid (HB.out.alloc HB.out.size (.cells (dig8 x) 87))
      have HXX := Lib.hid (RowAt.new wr 87 (dig8 x))
      have HNX := Lib.hid (HN.out.kept ((Below.refl _ _).alloc (Nat.le_refl _) (.cells (dig8 x) 87)))
      have HRC := Lib.hid (row_any n x (isDig_of hrow))
      have hset := blanks_set A (rowL n x) q'
      rw [HAL.out, txt_rowL] at hset
      have HSET := Lib.hid hset
      have HLEN : Hid (A.length + q' + 1 = m) := Lib.hid (by rw [HAL.out]; omega)
      generalize strOf n x = sx at *
      clear hc hr hload hrow HRR hset
      go_wp2_with (first | (refine wpList_store_row rfl 87 _ _ rfl _ _ rfl rfl 87 _ (heap_at _ _ _ (by simp)) (by kernel_rfl) rfl (by kernel_rfl) ?_; rw [setRow_at _ _ _ _ _ (by simp)]) | (refine wpList_load8 rfl _ rfl gb (off + j * 8) rfl x HL.out ?_) | (refine wpList_load_row rfl 87 _ rfl _ rfl 87 _ _ _ (HXX.out) Try.underlying87 rfl (by kernel_rfl) ?_) | fail)
      refine (HRC.out _).mono ?_
      rintro e w5 ⟨rfl, hb5⟩
      have HB5 := Lib.hid (HBX.out.trans (hb5.mono HBX.out.size))
      have HN5 := Lib.hid (HNX.out.kept hb5)
      obtain ⟨u, hu⟩ : ∃ u, (strs A ++ blanks (q' + 1))[j]? = some u := ⟨_, List.getElem?_eq_getElem (by rw [List.length_append, strs_len, HAL.out]; simp [blanks])⟩
      have c2 := HN5.out.own.cell j u hu
      have f2 := HN5.out.own.free j
      have HN6 := Lib.hid (HN5.out.own.set j (.string sx))
      clear hb5 HBX HNX HXX HL HN HB hu
      go_wp2
      go_roundg q'
      case measure => omega
      case rel => exact ⟨j + 1, A ++ [rowL n x], by omega, by go_num, by rw [List.length_append, HAL.out]; rfl, HR2.out, ⟨by have := HN6.out; rw [HSET.out] at this; exact this, HN5.out.base⟩, HB5.out.setCell (Nat.le_refl _) _⟩
    · obtain rfl : gk = 0 := by omega
      obtain rfl : j = m := by omega
      have hr := HRR.out
      rw [List.drop_eq_nil_of_le (by rw [HM.out]; exact Nat.le_refl _)] at hr
      have hr : A = res := by rw [← hr]; simp [rowsL]
      subst hr
      have hn := HN.out
      rw [show blanks 0 = [] from rfl, List.append_nil] at hn
      have HN2 := Lib.hid hn
      clear hn HN
      go_wp2
      go_ret
      exact ⟨_, rfl, HN2.out, HB.out⟩

end Go.Proofs.Ytkhglknpcajmiaa
namespace Go.Proofs.Ytkhglknpcajmiaa
open Go.RowKit
set_option linter.unusedSimpArgs false
set_option linter.unusedVariables false

/-- what leadOf gives, whether the method is good or not -/
def LeadAny (s : ByteArray) (n : Int) (L : List (List Nat)) (w : World) (e : Ending) (w' : World) : Prop :=
  ∃ a m c f, e = .returned (.tuple #[.agg (leadV (.slice a m c) f), .bool (goodM s n L)]) ∧ (goodM s n L = true → f = rdf n.toNat ∧ NewD w.heap.size w' (.slice a m c) (chR n L)) ∧ Below w.heap.size w w'
theorem leadOf_any (s : ByteArray) (hs : s.size ≤ maxLen) (n : Int) (v : Value) (L : List (List Nat)) (w : World) (h : Txts w v L) (hl : L.length ≤ 2000000) :
    Calls Try.prog 135 #[.agg #[.string s, .int .i64 n, v]] w (LeadAny s n L w) := by
  unfold LeadAny
  cases hg : goodM s n L
  · refine (leadOf_no s hs n v L w h hl hg).mono ?_
    rintro e w' ⟨rfl, hb⟩
    exact ⟨none, 0, 0, fun _ => 0, rfl, fun h => (Bool.noConfusion h), hb⟩
  · have hr := goodAll_range (goodM_parts hg).1
    obtain ⟨n, rfl⟩ := Int.eq_ofNat_of_zero_le (show 0 ≤ n by omega)
    refine (leadOf_yes s hs n v L w h hl hg).mono ?_
    rintro e w' ⟨u, rfl, hn, hb⟩
    obtain ⟨a, c, rfl, -, -⟩ := hn.view rfl
    exact ⟨a, _, c, _, rfl, fun _ => ⟨rfl, hn⟩, hb⟩

/-- whether a method's lead can be rung from a row -/
noncomputable def leadB (s : ByteArray) (n : Int) (L : List (List Nat)) (r : ByteArray) : Bool := goodM s n L && goodB r && decide ((r.size : Int) = n)
noncomputable def leadL (s : ByteArray) (n : Int) (L : List (List Nat)) (r : ByteArray) : List (List Nat) := if leadB s n L r = true then rowsL n.toNat (leadF n.toNat (chR n L) (dg r)) else []

/-- a course's texts, where there are such -/
theorem courseF_rows {n : Nat} {cs : List (Nat → Nat)} (hc : Rows n cs) : ∀ (k : Nat) (f : Nat → Nat), IsRow n f → Rows n (courseF n cs k f)
  | 0, f, hf => fun x hx => by simp [courseF] at hx
  | k + 1, f, hf => (rows_lead hc hf).app (courseF_rows hc k (endF n cs f) (isRow_end hc hf))

end Go.Proofs.Ytkhglknpcajmiaa
