/- The law on CyclesOf. -/
import Derived.Test.YtnildepdpkbekaaA30
namespace Go.Proofs.Ytnildepdpkbekaa
open Go.RowKit
set_option linter.unusedSimpArgs false

set_option maxRecDepth 100000 in
set_option maxHeartbeats 1000000 in
theorem sCyclesOf_no (s : ByteArray) (hs : s.size ≤ maxLen) (hb : goodB s = false) (w : World) :
    Calls Try.prog 15 #[.string s] w fun e w' => e = .returned (.tuple #[.slice none 0 0, .bool false]) ∧ Below w.heap.size w w' := by
  have H := Lib.hid hb
  clear hb
  go_enter Try.func15, Try.ntmps15
  go_wp2_with fail
  refine (l1Row_any s hs _).mono ?_
  rintro e w1 ⟨rfl, hb1⟩
  rw [H.out]
  go_wp2
  go_ret2
  exact ⟨rfl, hb1⟩
set_option maxRecDepth 100000 in
set_option maxHeartbeats 1000000 in
theorem iCyclesOf_no (s : ByteArray) (hs : s.size ≤ maxLen) (hb : goodB s = false) (w : World) :
    Calls Try.prog 14 #[.string s] w fun e w' => e = .returned (.tuple #[.slice none 0 0, .bool false]) ∧ Below w.heap.size w w' := by
  have H := Lib.hid hb
  clear hb
  go_enter Try.func14, Try.ntmps14
  go_wp2_with fail
  refine (digitsOf_no s hs H.out _).mono ?_
  rintro e w1 ⟨rfl, hb1⟩
  go_wp2_with (refine wpList_store_row rfl 56 _ _ rfl _ _ rfl rfl 56 _ (heap_at _ _ _ (by simp)) (by kernel_rfl) rfl (by kernel_rfl) ?_; rw [setRow_at _ _ _ _ _ (by simp)])
  go_ret2
  exact ⟨rfl, hb1.alloc hb1.size _⟩

theorem at'_len {n : Nat} {f : Nat → Nat} (h : IsRow n f) (i : Nat) : (at' (cycs n f n) i).length ≤ 8 := by
  unfold at'
  by_cases hi : i < (cycs n f n).length
  · rw [List.getD_eq_getElem?_getD, List.getElem?_eq_getElem hi]
    obtain ⟨s, hs, e⟩ := cycs_all h n (Nat.le_refl _) _ (List.getElem_mem hi)
    show ((cycs n f n)[i]).length ≤ 8
    rw [e]; exact cyc_len_le h hs
  · rw [List.getD_eq_getElem?_getD, List.getElem?_eq_none (by omega)]; simp
theorem offL_le (L : Nat → Nat) (h : ∀ i, L i ≤ 8) : ∀ n, offL L n ≤ 8 * n
  | 0 => Nat.le_refl _
  | n + 1 => by have := offL_le L h n; have := h n; show offL L n + L n ≤ _; omega

/-- lists that read as F, n of them, and whether the text was a row -/
def CycAny (N : Nat) (F : Nat → List Int) (b : Bool) (w : World) (e : Ending) (w' : World) : Prop :=
  ∃ v vs, e = .returned (.tuple #[v, .bool b]) ∧ Lists w.heap.size w' v vs N F ∧ Below w.heap.size w w'
theorem cyc_any (s : ByteArray) (hs : s.size ≤ maxLen) : ∃ (N : Nat) (F : Nat → List Int), N ≤ 8 ∧ (∀ i, (F i).length ≤ 8) ∧
    (∀ w, Calls Try.prog 15 #[.string s] w (CycAny N F (goodB s) w)) ∧ ∀ w, Calls Try.prog 14 #[.string s] w (CycAny N F (goodB s) w) := by
  cases hb : goodB s
  · refine ⟨0, fun _ => [], by omega, fun _ => by simp, fun w => ?_, fun w => ?_⟩
    · exact (sCyclesOf_no s hs hb w).mono fun e w' ⟨h1, h2⟩ => ⟨_, [], h1, Lists.nil _ _ _, h2⟩
    · exact (iCyclesOf_no s hs hb w).mono fun e w' ⟨h1, h2⟩ => ⟨_, [], h1, Lists.nil _ _ _, h2⟩
  · obtain ⟨n, f, hf, rfl⟩ := str_of_good hb
    have := cycs_len n f n
    have := hf.eight
    refine ⟨(cycs n f n).length, at' (cycs n f n), by omega, at'_len hf, fun w => ?_, fun w => ?_⟩
    · exact (sCyclesOf_yes n f hf w).mono fun e w' ⟨v, vs, h1, h2, h3⟩ => ⟨v, vs, h1, h2, h3⟩
    · exact (iCyclesOf_yes n f hf w).mono fun e w' ⟨v, vs, h1, h2, h3⟩ => ⟨v, vs, h1, h2, h3⟩

end Go.Proofs.Ytnildepdpkbekaa
