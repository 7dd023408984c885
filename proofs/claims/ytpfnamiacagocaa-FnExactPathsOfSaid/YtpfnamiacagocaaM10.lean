/- LeadRows and CourseRows in the program. -/
import Derived.Test.YtpfnamiacagocaaM9
namespace Go.Proofs.Ytpfnamiacagocaa
open Go.RowKit
set_option linter.unusedSimpArgs false
set_option linter.unusedVariables false

/-- what leadOf gives, whether the method is good or not -/
def LeadAny (s : ByteArray) (n : Int) (L : List (List Nat)) (w : World) (e : Ending) (w' : World) : Prop :=
  ∃ a m c f, e = .returned (.tuple #[.agg (leadV (.slice a m c) f), .bool (goodM s n L)]) ∧ (goodM s n L = true → f = rdf n.toNat ∧ NewD w.heap.size w' (.slice a m c) (chR n L)) ∧ Below w.heap.size w w'
theorem leadOf_any (s : ByteArray) (hs : s.size ≤ maxLen) (n : Int) (v : Value) (L : List (List Nat)) (w : World) (h : Txts w v L) (hl : L.length ≤ 2000000) :
    Calls Try.prog 60 #[.agg #[.string s, .int .i64 n, v]] w (LeadAny s n L w) := by
  unfold LeadAny
  cases hg : goodM s n L
  · refine (leadOf_no s hs n v L w h hl hg).mono ?_
    rintro e w' ⟨rfl, hb⟩
    exact ⟨none, 0, 0, fun _ => 0, rfl, fun h => (Bool.noConfusion h), hb⟩
  · have hr := goodAll_range (goodM_parts hg).1
    obtain ⟨n, rfl⟩ := Int.eq_ofNat_of_zero_le (show 0 ≤ n by omega)
    refine (leadOf_yes s hs n v L w h hl hg).mono ?_
    rintro e w' ⟨u, rfl, hn, hb⟩
    obtain ⟨a, c, rfl, -, -⟩ := hn.view rfl
    exact ⟨a, _, c, _, rfl, fun _ => ⟨rfl, hn⟩, hb⟩

/-- whether a method's lead can be rung from a row -/
noncomputable def leadB (s : ByteArray) (n : Int) (L : List (List Nat)) (r : ByteArray) : Bool := goodM s n L && goodB r && decide ((r.size : Int) = n)
noncomputable def leadL (s : ByteArray) (n : Int) (L : List (List Nat)) (r : ByteArray) : List (List Nat) := if leadB s n L r = true then rowsL n.toNat (leadF n.toNat (chR n L) (dg r)) else []

set_option maxRecDepth 100000 in
set_option maxHeartbeats 1000000 in
theorem iLeadRows_any (s : ByteArray) (hs : s.size ≤ maxLen) (n : Int) (v : Value) (L : List (List Nat)) (r : ByteArray) (hr : r.size ≤ maxLen) (w : World) (h : Txts w v L) (hl : L.length ≤ 2000000) :
    Calls Try.prog 20 #[.agg #[.string s, .int .i64 n, v], .string r] w (TextsAny (leadL s n L r) (leadB s n L r) w) := by
  obtain ⟨a, cap, rfl, hcap, -⟩ := id h
  have HT := Lib.hid h
  have HR0 := Lib.hid (RowAt.new w 26 #[.string s, .int .i64 n, .slice a L.length cap])
  have HB0 := Lib.hid ((Below.refl _ w).alloc (Nat.le_refl _) (.cells #[.string s, .int .i64 n, .slice a L.length cap] 26))
  have HC := Lib.hid (fun w h => leadOf_any s hs n (.slice a L.length cap) L w h hl)
  have HDG := Lib.hid (digitsOf_any r hr)
  have hr' : (r.size : Int) ≤ 9223372036854775807 := by simp only [maxLen] at hr; omega
  clear h hcap hl hr
  unfold LeadAny at HC
  generalize L.length = m at *
  by_cases hok : leadB s n L r = true
  · have hb := hok
    unfold leadB at hb
    rw [Bool.and_eq_true, Bool.and_eq_true, decide_eq_true_eq] at hb
    obtain ⟨⟨hg, hgr⟩, hsz⟩ := hb
    subst hsz
    obtain ⟨h3, h8, hrows, h40, h1⟩ := goodM_nat hg
    have hL : leadL s r.size L r = rowsL r.size (leadF r.size (chR r.size L) (dg r)) := by unfold leadL; rw [if_pos hok]; rfl
    rw [hL, hok]
    rw [hg] at HC
    rw [hgr, dgF_yes hgr] at HDG
    have hrow := goodB_row hgr
    have hleads := rows_lead hrows hrow
    have hll : (leadF r.size (chR r.size L) (dg r)).length ≤ 40 := by rw [leadF_len]; exact h40
    have HRC := Lib.hid (fun v w h => rows_any r.size v (chR r.size L) (dg r) hrow hrows h40 w h)
    generalize chR r.size L = cs at *
    generalize dg r = f at *
    generalize leadF r.size cs f = lf at *
    clear hok hL hg hgr hrows h40 h1
    go_enter Try.func20, Try.ntmps20
    go_wp2_with (first | (refine wpList_load_row rfl 26 _ rfl _ rfl 26 _ _ _ (HR0.out) Try.underlying26 rfl (by kernel_rfl) ?_) | fail)
    refine (HC.out _ (HT.out.kept HB0.out)).mono ?_
    rintro e w1 ⟨a1, m1, c1, f1, rfl, hn1, hb1⟩
    replace hn1 := (hn1 trivial).2
    have HM1 := Lib.hid (HR0.out.kept hb1)
    have HB1 := Lib.hid (HB0.out.trans (hb1.mono HB0.out.size))
    have HL2 := Lib.hid (RowAt.new w1 70 (leadV (.slice a1 m1 c1) f1))
    have HM2 := Lib.hid (HM1.out.push (.cells (leadV (.slice a1 m1 c1) f1) 70))
    have HB2 := Lib.hid (HB1.out.alloc HB1.out.size (.cells (leadV (.slice a1 m1 c1) f1) 70))
    have HN2 := Lib.hid (hn1.kept ((Below.refl _ _).alloc (Nat.le_refl _) (.cells (leadV (.slice a1 m1 c1) f1) 70)))
    clear hn1 hb1 HM1 HB1 HC HB0
    simp only [leadV] at HL2 HM2 HB2 HN2 ⊢
    go_wp2_with (first | (refine wpList_store_row rfl 70 _ _ rfl _ _ rfl rfl 70 _ (heap_at _ _ _ (by simp)) (by kernel_rfl) rfl (by kernel_rfl) ?_; rw [setRow_at _ _ _ _ _ (by simp)]) | fail)
    refine (HDG.out _).mono ?_
    rintro e w3 ⟨rfl, hb3⟩
    have HM4 := Lib.hid ((HM2.out.kept hb3).push (.cells (dig8 f) 68))
    have HL4 := Lib.hid ((HL2.out.kept hb3).push (.cells (dig8 f) 68))
    have HD4 := Lib.hid (RowAt.new w3 68 (dig8 f))
    have HB3 := Lib.hid (HB2.out.trans (hb3.mono HB2.out.size))
    have HB4 := Lib.hid (HB3.out.alloc HB3.out.size (.cells (dig8 f) 68))
    have HN4 := Lib.hid ((HN2.out.kept hb3).kept ((Below.refl _ _).alloc (Nat.le_refl _) (.cells (dig8 f) 68)))
    have c1' := HM4.out.cell 1 rfl
    have c0' := HL4.out.cell 0 rfl
    clear hb3 HM2 HL2 HB2 HN2 HB3
    go_wp2_with (first | (refine wpList_store_row rfl 68 _ _ rfl _ _ rfl rfl 68 _ (heap_at _ _ _ (by simp)) (by kernel_rfl) rfl (by kernel_rfl) ?_; rw [setRow_at _ _ _ _ _ (by simp)]) | (refine wpList_load_row rfl 68 _ rfl _ rfl 68 _ _ _ (HD4.out) Try.underlying68 rfl (by kernel_rfl) ?_) | fail)
    refine (HRC.out _ _ HN4.out.digs).mono ?_
    rintro e w5 ⟨v5, rfl, hn5, hb5⟩
    have HB5 := Lib.hid (HB4.out.trans (hb5.mono HB4.out.size))
    have HV5 := Lib.hid hn5.digs
    clear hn5 hb5 HB4
    go_wp2_with fail
    refine (rowTexts_any r.size v5 lf hleads (by omega) w5 HV5.out).mono ?_
    rintro e w6 ⟨v6, rfl, hn6, hb6⟩
    have HB6 := Lib.hid (HB5.out.trans (hb6.mono HB5.out.size))
    have HN6 := Lib.hid (hn6.lower HB5.out.size)
    clear hn6 hb6
    go_wp2
    go_ret2
    exact ⟨_, rfl, HN6.out, HB6.out⟩
  · have hno : leadB s n L r = false := by simpa using hok
    have hL : leadL s n L r = [] := by unfold leadL; rw [if_neg hok]
    rw [hL, hno]
    clear hL hok
    have hcase : goodM s n L = false ∨ (goodM s n L = true ∧ goodB r = false) ∨ (goodM s n L = true ∧ goodB r = true ∧ ¬ (r.size : Int) = n) := by
      unfold leadB at hno
      cases h1 : goodM s n L
      · exact .inl rfl
      · cases h2 : goodB r
        · exact .inr (.inl ⟨rfl, rfl⟩)
        · rw [h1, h2] at hno
          exact .inr (.inr ⟨rfl, rfl, by simpa using hno⟩)
    clear hno
    generalize goodM s n L = gm at *
    generalize goodB r = gb at *
    generalize dgF r = f at *
    go_enter Try.func20, Try.ntmps20
    go_wp2_with (first | (refine wpList_load_row rfl 26 _ rfl _ rfl 26 _ _ _ (HR0.out) Try.underlying26 rfl (by kernel_rfl) ?_) | fail)
    refine (HC.out _ (HT.out.kept HB0.out)).mono ?_
    rintro e w1 ⟨a1, m1, c1, f1, rfl, -, hb1⟩
    have HM1 := Lib.hid (HR0.out.kept hb1)
    have HB1 := Lib.hid (HB0.out.trans (hb1.mono HB0.out.size))
    have HM2 := Lib.hid (HM1.out.push (.cells (leadV (.slice a1 m1 c1) f1) 70))
    have HB2 := Lib.hid (HB1.out.alloc HB1.out.size (.cells (leadV (.slice a1 m1 c1) f1) 70))
    clear hb1 HM1 HB1 HC HB0
    simp only [leadV] at HM2 HB2 ⊢
    go_wp2_with (first | (refine wpList_store_row rfl 70 _ _ rfl _ _ rfl rfl 70 _ (heap_at _ _ _ (by simp)) (by kernel_rfl) rfl (by kernel_rfl) ?_; rw [setRow_at _ _ _ _ _ (by simp)]) | fail)
    refine (HDG.out _).mono ?_
    rintro e w3 ⟨rfl, hb3⟩
    have HM4 := Lib.hid ((HM2.out.kept hb3).push (.cells (dig8 f) 68))
    have HB3 := Lib.hid (HB2.out.trans (hb3.mono HB2.out.size))
    have HB4 := Lib.hid (HB3.out.alloc HB3.out.size (.cells (dig8 f) 68))
    have c1' := HM4.out.cell 1 rfl
    clear hb3 HM2 HB2 HB3
    rcases hcase with rfl | ⟨rfl, rfl⟩ | ⟨rfl, rfl, hne⟩
    · go_wp2_with (first | (refine wpList_store_row rfl 68 _ _ rfl _ _ rfl rfl 68 _ (heap_at _ _ _ (by simp)) (by kernel_rfl) rfl (by kernel_rfl) ?_; rw [setRow_at _ _ _ _ _ (by simp)]) | fail)
      go_ret2
      exact ⟨_, rfl, New.nil _ _ _, HB4.out⟩
    · go_wp2_with (first | (refine wpList_store_row rfl 68 _ _ rfl _ _ rfl rfl 68 _ (heap_at _ _ _ (by simp)) (by kernel_rfl) rfl (by kernel_rfl) ?_; rw [setRow_at _ _ _ _ _ (by simp)]) | fail)
      go_ret2
      exact ⟨_, rfl, New.nil _ _ _, HB4.out⟩
    · have hne' : ((r.size : Int) == n) = false := by rw [beq_eq_false_iff_ne]; exact hne
      go_wp2_with (first | (refine wpList_store_row rfl 68 _ _ rfl _ _ rfl rfl 68 _ (heap_at _ _ _ (by simp)) (by kernel_rfl) rfl (by kernel_rfl) ?_; rw [setRow_at _ _ _ _ _ (by simp)]) | fail)
      go_ret2
      exact ⟨_, rfl, New.nil _ _ _, HB4.out⟩

/-- a course's texts, where there are such -/
theorem courseF_rows {n : Nat} {cs : List (Nat → Nat)} (hc : Rows n cs) : ∀ (k : Nat) (f : Nat → Nat), IsRow n f → Rows n (courseF n cs k f)
  | 0, f, hf => fun x hx => by simp [courseF] at hx
  | k + 1, f, hf => (rows_lead hc hf).app (courseF_rows hc k (endF n cs f) (isRow_end hc hf))

end Go.Proofs.Ytpfnamiacagocaa
