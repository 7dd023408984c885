/- The law on CyclesOf. -/
import Derived.Test.YtkjdldidgijloaaA30
namespace Go.Proofs.Ytkjdldidgijloaa
open Go.RowKit
set_option linter.unusedSimpArgs false

set_option maxRecDepth 100000 in
set_option maxHeartbeats 1000000 in
theorem sCyclesOf_no (s : ByteArray) (hs : s.size ≤ maxLen) (hb : goodB s = false) (w : World) :
    Calls Try.prog 40 #[.string s] w fun e w' => e = .returned (.tuple #[.slice none 0 0, .bool false]) ∧ Below w.heap.size w w' := by
  have H := Lib.hid hb
  clear hb
  go_enter Try.func40, Try.ntmps40
  go_wp2_with fail
  refine (l1Row_any s hs _).mono ?_
  rintro e w1 ⟨rfl, hb1⟩
  rw [H.out]
  go_wp2
  go_ret2
  exact ⟨rfl, hb1⟩
set_option maxRecDepth 100000 in
set_option maxHeartbeats 1000000 in
theorem iCyclesOf_no (s : ByteArray) (hs : s.size ≤ maxLen) (hb : goodB s = false) (w : World) :
    Calls Try.prog 39 #[.string s] w fun e w' => e = .returned (.tuple #[.slice none 0 0, .bool false]) ∧ Below w.heap.size w w' := by
  have H := Lib.hid hb
  clear hb
  go_enter Try.func39, Try.ntmps39
  go_wp2_with fail
  refine (digitsOf_no s hs H.out _).mono ?_
  rintro e w1 ⟨rfl, hb1⟩
  go_wp2_with (refine wpList_store_row rfl 60 _ _ rfl _ _ rfl rfl 60 _ (heap_at _ _ _ (by simp)) (by kernel_rfl) rfl (by kernel_rfl) ?_; rw [setRow_at _ _ _ _ _ (by simp)])
  go_ret2
  exact ⟨rfl, hb1.alloc hb1.size _⟩

theorem at'_len {n : Nat} {f : Nat → Nat} (h : IsRow n f) (i : Nat) : (at' (cycs n f n) i).length ≤ 8 := by
  unfold at'
  by_cases hi : i < (cycs n f n).length
  · rw [List.getD_eq_getElem?_getD, List.getElem?_eq_getElem hi]
    obtain ⟨s, hs, e⟩ := cycs_all h n (Nat.le_refl _) _ (List.getElem_mem hi)
    show ((cycs n f n)[i]).length ≤ 8
    rw [e]; exact cyc_len_le h hs
  · rw [List.getD_eq_getElem?_getD, List.getElem?_eq_none (by omega)]; simp
theorem offL_le (L : Nat → Nat) (h : ∀ i, L i ≤ 8) : ∀ n, offL L n ≤ 8 * n
  | 0 => Nat.le_refl _
  | n + 1 => by have := offL_le L h n; have := h n; show offL L n + L n ≤ _; omega

/-- lists that read as F, n of them, and whether the text was a row -/
def CycAny (N : Nat) (F : Nat → List Int) (b : Bool) (w : World) (e : Ending) (w' : World) : Prop :=
  ∃ v vs, e = .returned (.tuple #[v, .bool b]) ∧ Lists w.heap.size w' v vs N F ∧ Below w.heap.size w w'
theorem cyc_any (s : ByteArray) (hs : s.size ≤ maxLen) : ∃ (N : Nat) (F : Nat → List Int), N ≤ 8 ∧ (∀ i, (F i).length ≤ 8) ∧
    (∀ w, Calls Try.prog 40 #[.string s] w (CycAny N F (goodB s) w)) ∧ ∀ w, Calls Try.prog 39 #[.string s] w (CycAny N F (goodB s) w) := by
  cases hb : goodB s
  · refine ⟨0, fun _ => [], by omega, fun _ => by simp, fun w => ?_, fun w => ?_⟩
    · exact (sCyclesOf_no s hs hb w).mono fun e w' ⟨h1, h2⟩ => ⟨_, [], h1, Lists.nil _ _ _, h2⟩
    · exact (iCyclesOf_no s hs hb w).mono fun e w' ⟨h1, h2⟩ => ⟨_, [], h1, Lists.nil _ _ _, h2⟩
  · obtain ⟨n, f, hf, rfl⟩ := str_of_good hb
    have := cycs_len n f n
    have := hf.eight
    refine ⟨(cycs n f n).length, at' (cycs n f n), by omega, at'_len hf, fun w => ?_, fun w => ?_⟩
    · exact (sCyclesOf_yes n f hf w).mono fun e w' ⟨v, vs, h1, h2, h3⟩ => ⟨v, vs, h1, h2, h3⟩
    · exact (iCyclesOf_yes n f hf w).mono fun e w' ⟨v, vs, h1, h2, h3⟩ => ⟨v, vs, h1, h2, h3⟩

set_option maxRecDepth 100000 in
set_option maxHeartbeats 1000000 in
theorem lawCyclesOf (s : ByteArray) (w : World) (hs : s.size ≤ maxLen) :
    Calls Try.prog 13 #[.string s] w fun e w' => e = .returned (.bool true) ∧ Below w.heap.size w w' := by
  by_cases hbig : 1048576 < s.size
  · have hbig' : (1048576 : Int) < s.size := by omega
    go_enter Try.func13, Try.ntmps13
    go_wp2
    go_ret
    exact ⟨rfl, Below.refl _ _⟩
  · have hbig' : (s.size : Int) ≤ 1048576 := by omega
    obtain ⟨N, F, hN, hF, hS, hI⟩ := cyc_any s hs
    generalize goodB s = b at hS hI
    have HS := Lib.hid hS
    have HI := Lib.hid hI
    have HF := Lib.hid hF
    have hoff : offL (fun i => (F i).length) N ≤ 64 := by have := offL_le (fun i => (F i).length) hF N; omega
    have HFL := Lib.hid (fun i (_ : i < N) => Nat.le_trans (hF i) (show 8 ≤ 1000000 by omega))
    clear hS hI hF
    go_enter Try.func13, Try.ntmps13
    go_wp2_with fail
    refine (HS.out _).mono ?_
    rintro e w1 ⟨v1, vs1, rfl, hl1, hb1⟩
    have L1 := Lib.hid hl1
    have B1 := Lib.hid hb1
    clear hl1 hb1
    go_wp2_with fail
    refine (HI.out _).mono ?_
    rintro e w2 ⟨v2, vs2, rfl, hl2, hb2⟩
    have L2 := Lib.hid hl2
    have B2 := Lib.hid hb2
    clear hl2 hb2
    go_wp2_with fail
    refine (eqIntSS_same _ _ v2 v1 vs2 vs1 N F _ L2.out (L1.out.kept B2.out) (by omega) HFL.out).mono ?_
    rintro e w3 ⟨rfl, d3, hd3⟩
    have L3 : Hid (Lists w1.heap.size w3 v2 vs2 N F) := by rw [hd3]; exact L2.out.kept (below_drewN (Below.refl _ _) _)
    have B3 : Hid (Below w1.heap.size w1 w3) := by rw [hd3]; exact below_drewN B2.out _
    clear hd3
    go_wp2_with fail
    refine (markIntSS_any _ v2 vs2 N F 1 _ L3.out (by omega) B3.out.size (by omega) (by omega) (by omega)).mono ?_
    rintro e w4 ⟨rfl, hl4, hb4⟩
    have hl4' := hl4.congr (G := fun i => marks (1 + (offL (fun i => (F i).length) i : Nat)) (F i).length) (fun i hi => by simp [markF, hi])
    have L4 := Lib.hid hl4'
    have B4 := Lib.hid (B3.out.trans hb4)
    clear hl4 hb4 hl4'
    generalize hoffN : offL (fun i => (F i).length) N = off at hoff ⊢
    have HOFF := Lib.hid hoffN
    clear hoffN
    go_wp2_with fail
    refine (heldIntSS_any _ v2 vs2 N (fun i => (F i).length) 1 _ L4.out (by omega) (by rw [HOFF.out]; omega) (by omega) (by omega)).mono ?_
    rintro e w' ⟨rfl, rfl⟩
    rw [HOFF.out]
    have hnn : ¬ ((1 : Int) + (off : Nat) < 0) := by omega
    go_wp2_with fail
    refine (HI.out _).mono ?_
    rintro e w5 ⟨v5, vs5, rfl, hl5, hb5⟩
    have L5 := Lib.hid hl5
    have L4' := Lib.hid (L4.out.kept hb5)
    have B5 := Lib.hid (B4.out.trans (hb5.mono B4.out.size))
    clear hl5 hb5
    go_wp2_with fail
    refine (eqIntSS_same _ _ v5 v1 vs5 vs1 N F _ L5.out (L1.out.kept B5.out) (by omega) HFL.out).mono ?_
    rintro e w6 ⟨rfl, d6, hd6⟩
    have L6 : Hid (Lists w1.heap.size w6 v2 vs2 N (fun i => marks (1 + (offL (fun i => (F i).length) i : Nat)) (F i).length)) := by rw [hd6]; exact L4'.out.kept (below_drewN (Below.refl _ _) _)
    have B6 : Hid (Below w1.heap.size w1 w6) := by rw [hd6]; exact below_drewN B5.out _
    clear hd6
    go_wp2_with fail
    refine (heldIntSS_any _ v2 vs2 N (fun i => (F i).length) 1 _ L6.out (by omega) (by rw [HOFF.out]; omega) (by omega) (by omega)).mono ?_
    rintro e w' ⟨rfl, rfl⟩
    rw [HOFF.out]
    go_wp2
    go_ret
    exact ⟨rfl, B1.out.trans (B6.out.mono B1.out.size)⟩
end Go.Proofs.Ytkjdldidgijloaa
