/- Bells at home, in the program. -/
import Derived.Test.YtdflpkkcjbdpfaaM2
import Derived.Test.YtdflpkkcjbdpfaaW2
namespace Go.Proofs.Ytdflpkkcjbdpfaa
open Go.RowKit
set_option linter.unusedSimpArgs false
set_option linter.unusedVariables false

set_option maxRecDepth 100000 in
set_option maxHeartbeats 1000000 in
theorem isHome_any (f : Nat → Nat) (q : Nat) (hq : q < 8) (hlo : 48 ≤ f q) (hhi : f q ≤ 255) (x : Int) (hx : x = q + 1) (w : World) :
    Calls Try.prog 71 #[.agg (dig8 f), .int .i64 x] w fun e w' => e = .returned (.bool (f q == 49 + q)) ∧ Below w.heap.size w w' := by
  subst hx
  have HB := Lib.hid ((Below.refl _ w).alloc (Nat.le_refl _) (.cells (dig8 f) 49))
  have c1 := (RowAt.new w 49 (dig8 f)).cell q (dig8_get f q hq)
  have h1 : (48 : Int) ≤ f q := by omega
  have h2 : (f q : Int) ≤ 255 := by omega
  have hb : ((f q : Int) - 48 == (q : Int) + 1) = (f q == 49 + q) := by
    rw [Bool.eq_iff_iff, beq_iff_eq, beq_iff_eq]; omega
  have HR := Lib.hid hb
  have hq' : (q : Int) < 8 := by omega
  generalize f q = z at *
  clear hb
  go_enter Try.func71, Try.ntmps71
  go_wp2
  go_ret
  exact ⟨by rw [HR.out]; rfl, HB.out⟩

/-- bells at home from place i on, k places -/
def homeR (f : Nat → Nat) (i k : Nat) : List Nat := ((List.range' i k).filter fun i => f i == 49 + i).map (· + 1)
theorem homeR_all (n : Nat) (f : Nat → Nat) : homeR f 0 n = home n f := by unfold homeR home; rw [List.range_eq_range']
theorem homeR_yes {f : Nat → Nat} {i k : Nat} (h : (f i == 49 + i) = true) : homeR f i (k + 1) = (i + 1) :: homeR f (i + 1) k := by
  unfold homeR
  rw [List.range'_succ, List.filter_cons_of_pos (by exact h)]
  rfl
theorem homeR_no {f : Nat → Nat} {i k : Nat} (h : (f i == 49 + i) = false) : homeR f i (k + 1) = homeR f (i + 1) k := by
  unfold homeR
  rw [List.range'_succ, List.filter_cons_of_neg (by simp [h])]

set_option maxRecDepth 100000 in
set_option maxHeartbeats 1000000 in
theorem homeBells_any (n : Nat) (f : Nat → Nat) (hf : IsRow n f) (w : World) :
    Calls Try.prog 41 #[.agg (dig8 f)] w fun e w' => ∃ v, e = .returned v ∧ New w.heap.size w' 3 v (nums (home n f)) ∧ Below w.heap.size w w' := by
  have h8 := hf.eight
  have HF := Lib.hid hf
  have hlen := home_len n f
  obtain ⟨i0, hi0, hz0, hz1, hz2⟩ := info_parts infoInt
  have I0 := Lib.hid (⟨hi0, hz0, hz1, hz2⟩ : _ ∧ _ ∧ _ ∧ _)
  have hall := homeR_all n f
  generalize home n f = res at *
  have HALL := Lib.hid hall
  clear hf hall hi0 hz0 hz1 hz2
  have HR0 := Lib.hid (RowAt.new w 49 (dig8 f))
  have HB0 := Lib.hid ((Below.refl _ w).alloc (Nat.le_refl _) (.cells (dig8 f) 49))
  go_enter Try.func41, Try.ntmps41
  go_wp2
  go_loopg [3, 4] n (fun q bl x wr => ∃ (i : Nat) (acc : List Nat), q + i = n ∧ x = .int .i64 ((i : Int) + 1) ∧ New w.heap.size wr 3 bl (nums acc) ∧ acc ++ homeR f i q = res ∧ acc.length ≤ 8 ∧ RowAt wr w.heap.size 49 (dig8 f) ∧ Below w.heap.size w wr)
  case atStart => exact ⟨0, [], by omega, rfl, New.nil _ _ _, by simpa using HALL.out, by simp, HR0.out, HB0.out⟩
  case round =>
    clear HR0 HB0 HALL
    obtain ⟨i, acc, hq, rfl, hn, hacc, hal, hr, hb⟩ := hrel
    have HN := Lib.hid hn
    have HACC := Lib.hid hacc
    have HR := Lib.hid hr
    have HB := Lib.hid hb
    obtain ⟨a9, c9, hv9, -⟩ := hn.own.view
    rw [nums_len] at hv9
    subst hv9
    clear hn hacc hr hb
    go_wp2_with (first | (refine wpList_load_row rfl 49 _ rfl _ rfl 49 _ _ _ (HR.out) Try.underlying49 rfl (by kernel_rfl) ?_) | fail)
    refine (stage_any n f (isDig_of HF.out) _).mono ?_
    rintro e w1 ⟨rfl, hb1⟩
    have HR1 := Lib.hid (HR.out.kept hb1)
    have HB1 := Lib.hid (HB.out.trans (hb1.mono HB.out.size))
    have HN1 := Lib.hid (HN.out.kept hb1)
    clear hb1 HR HB HN
    by_cases hlt : i < n
    · obtain ⟨q', rfl⟩ : ∃ q', gk = q' + 1 := ⟨gk - 1, by omega⟩
      have hli : (i : Int) + 1 ≤ n := by omega
      go_wp2_with (first | (refine wpList_load_row rfl 49 _ rfl _ rfl 49 _ _ _ (HR1.out) Try.underlying49 rfl (by kernel_rfl) ?_) | fail)
      refine (isHome_any f i (by omega) (by have := HF.out.lo i hlt; omega) (by have := HF.out.hi i hlt; omega) _ rfl _).mono ?_
      rintro e w2 ⟨rfl, hb2⟩
      have HR2 := Lib.hid (HR1.out.kept hb2)
      have HB2 := Lib.hid (HB1.out.trans (hb2.mono HB1.out.size))
      have HN2 := Lib.hid (HN1.out.kept hb2)
      clear hb2 HR1 HB1 HN1
      cases hh : (f i == 49 + i)
      · have hacc := HACC.out
        rw [homeR_no hh] at hacc
        have HACC2 := Lib.hid hacc
        clear hh hacc HACC
        go_wp2
        go_roundg q'
        case measure => omega
        case rel => exact ⟨i + 1, acc, by omega, by go_num, HN2.out, HACC2.out, hal, HR2.out, HB2.out⟩
      · have hacc := HACC.out
        rw [homeR_yes hh] at hacc
        have hle : (acc ++ ((i + 1) :: homeR f (i + 1) q')).length ≤ 8 := by rw [hacc]; omega
        simp only [List.length_append, List.length_cons] at hle
        have hacc2 : (acc ++ [i + 1]) ++ homeR f (i + 1) q' = res := by rw [← hacc]; simp
        have HACC2 := Lib.hid hacc2
        clear hh hacc hacc2 HACC
        go_wp2_with (at_builtin; refine wpList_app1 rfl (.tmp 14) (.tmp 16) 22 rfl 3 i0 (.int .i64 0) 8 Try.underlying22 I0.out.1 I0.out.2.1 I0.out.2.2.1 I0.out.2.2.2 rfl w.heap.size w _ (nums acc) rfl HN2.out rfl rfl HB2.out.size HB2.out (by rw [nums_len]; omega) (by omega) ?_)
        intro v4 w4 hn4 hk4 hb4 _
        have e4 : nums acc ++ [.int .i64 ((i : Int) + 1)] = nums (acc ++ [i + 1]) := nums_snoc acc (i + 1)
        rw [e4] at hn4
        have HN4 := Lib.hid hn4
        have HB4 := Lib.hid hb4
        have HR4 := Lib.hid (hk4.row HR2.out (HN2.out.apartRow HR2.out (by decide)))
        clear hn4 hk4 hb4 HN2 HB2 HR2
        go_wp2
        go_roundg q'
        case measure => omega
        case rel => exact ⟨i + 1, acc ++ [i + 1], by omega, by go_num, HN4.out, HACC2.out, by simp; omega, HR4.out, HB4.out⟩
    · obtain rfl : gk = 0 := by omega
      obtain rfl : i = n := by omega
      have hli : ¬ ((i : Int) + 1 ≤ i) := by omega
      have hacc := HACC.out
      have e0 : homeR f i 0 = [] := rfl
      rw [e0, List.append_nil] at hacc
      subst hacc
      go_wp2
      go_ret
      exact ⟨_, rfl, HN1.out, HB1.out⟩
end Go.Proofs.Ytdflpkkcjbdpfaa
