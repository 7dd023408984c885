/- The place of a bell and its path, in the model. -/
import Derived.Test.YtpfnamiacagocaaE9
import Derived.Test.YtpfnamiacagocaaN3
namespace Go.Proofs.Ytpfnamiacagocaa
open Go.RowKit
set_option linter.unusedSimpArgs false
set_option linter.unusedVariables false

set_option maxRecDepth 100000 in
set_option maxHeartbeats 1000000 in
theorem l5Place_any (n : Nat) (f : Nat → Nat) (hf : IsRow n f) (b : Nat) (h1 : 1 ≤ b) (hb : b ≤ n) (w : World) :
    Calls Try.prog 105 #[.string (strOf n f), .int .i64 b] w fun e w' => e = .returned (.int .i64 (plc n f b)) ∧ w = w' := by
  have h8 := hf.eight
  obtain ⟨p1, p2, p3⟩ := plc_spec hf h1 hb
  have HF := Lib.hid hf
  have HAT := Lib.hid (fun p a1 a2 a48 w => l1At_any n f (strOf n f) (isStr_row hf) p a1 a2 h8 a48 w)
  have HP : Hid (∀ i, i < n → f i = 48 + b → plc n f b = i + 1) := Lib.hid (fun i hi e => plc_uniq hf h1 hb hi e)
  have hsz := strOf_size n f
  have HP3 := Lib.hid p3
  generalize plc n f b = pp at *
  generalize strOf n f = th at *
  subst hsz
  clear hf p3
  go_enter Try.func105, Try.ntmps105
  go_wp2
  go_loopg [5] pp (fun q x wr => ∃ i : Nat, q + i = pp + 1 ∧ 1 ≤ i ∧ i ≤ pp ∧ x = .int .i64 i ∧ w = wr)
  case atStart => exact ⟨1, rfl, by omega, by omega, rfl, rfl⟩
  case round =>
    obtain ⟨i, hq, hi1, hip, rfl, rfl⟩ := hrel
    have hii : (i : Int) ≤ th.size := by omega
    have hlo := HF.out.lo (i - 1) (by omega)
    have HA := Lib.hid (HAT.out (i : Int) (by omega) (by omega) (by rw [show ((i : Int)).toNat - 1 = i - 1 by omega]; omega) w)
    rw [show ((i : Int)).toNat - 1 = i - 1 by omega] at HA
    by_cases he : i = pp
    · subst he
      have e3 : ((f (i - 1) : Int) - 48 == (b : Int)) = true := by rw [HP3.out]; simp; omega
      go_wp2_with (first | (go_at_call 124; refine HA.out.mono ?_; rintro e w1 ⟨rfl, rfl⟩) | fail)
      go_ret
      exact ⟨rfl, rfl⟩
    · have e3 : ((f (i - 1) : Int) - 48 == (b : Int)) = false := by
        rw [beq_eq_false_iff_ne]
        intro e
        have := HP.out (i - 1) (by omega) (by omega)
        omega
      go_wp2_with (first | (go_at_call 124; refine HA.out.mono ?_; rintro e w1 ⟨rfl, rfl⟩) | fail)
      go_roundg (pp - i)
      case measure => omega
      case rel => exact ⟨i + 1, by omega, by omega, by omega, by go_num, rfl⟩

set_option maxRecDepth 100000 in
set_option maxHeartbeats 1000000 in
theorem l5Asked_any (s : ByteArray) (hs : s.size ≤ maxLen) (n : Int) (v : Value) (L : List (List Nat)) (b : Int) (w : World) (h : Txts w v L) (hl : L.length ≤ 2000000) (hsm : Small L) :
    Calls Try.prog 81 #[.agg #[.string s, .int .i64 n, v], .int .i64 b] w fun e w' => e = .returned (.bool (askB s n L b)) ∧ Below w.heap.size w w' := by
  obtain ⟨a, cap, rfl, hcap, -⟩ := id h
  have HT := Lib.hid h
  have HR0 := Lib.hid (RowAt.new w 26 #[.string s, .int .i64 n, .slice a L.length cap])
  have HB0 := Lib.hid ((Below.refl _ w).alloc (Nat.le_refl _) (.cells #[.string s, .int .i64 n, .slice a L.length cap] 26))
  have HG := Lib.hid (fun w h => l4Good_any s hs n (.slice a L.length cap) L w h hl hsm)
  unfold askB
  clear h hcap hl hsm
  generalize goodM s n L = gm at *
  generalize L.length = m at *
  have HIN := Lib.hid (fun w => l1In_any b 1 n w)
  generalize (decide (1 ≤ b) && decide (b ≤ n)) = ib at *
  cases gm
  · rw [Bool.false_and]
    go_enter Try.func81, Try.ntmps81
    go_wp2_with (first | (refine wpList_load_row rfl 26 _ rfl _ rfl 26 _ _ _ (HR0.out) Try.underlying26 rfl (by kernel_rfl) ?_) | fail)
    refine (HG.out _ (HT.out.kept HB0.out)).mono ?_
    rintro e w1 ⟨rfl, hb1⟩
    have HB1 := Lib.hid (HB0.out.trans (hb1.mono HB0.out.size))
    go_wp2
    go_ret
    exact ⟨rfl, HB1.out⟩
  · rw [Bool.true_and]
    go_enter Try.func81, Try.ntmps81
    go_wp2_with (first | (refine wpList_load_row rfl 26 _ rfl _ rfl 26 _ _ _ (HR0.out) Try.underlying26 rfl (by kernel_rfl) ?_) | fail)
    refine (HG.out _ (HT.out.kept HB0.out)).mono ?_
    rintro e w1 ⟨rfl, hb1⟩
    have HB1 := Lib.hid (HB0.out.trans (hb1.mono HB0.out.size))
    have c1 := (HR0.out.kept hb1).cell 1 rfl
    go_wp2_with (first | (go_at_call 77; refine (HIN.out _).mono ?_; rintro e w2 ⟨rfl, rfl⟩) | fail)
    go_ret
    exact ⟨rfl, HB1.out⟩
end Go.Proofs.Ytpfnamiacagocaa
