/- PlacesOf in the program, and its law. -/
import Derived.Test.YtnildepdpkbekaaMA
namespace Go.Proofs.Ytnildepdpkbekaa
open Go.RowKit
set_option linter.unusedSimpArgs false
set_option linter.unusedVariables false

theorem homeR_iP (n : Nat) (f : Nat → Nat) : ∀ q i, i + q ≤ n → homeR f i q = iP n f q i
  | 0, i, _ => by simp [homeR, iP]
  | q + 1, i, h => by
    have ih := homeR_iP n f q (i + 1) (by omega)
    unfold iP
    rw [if_pos (by omega)]
    by_cases h1 : f i = 49 + i
    · rw [if_pos h1, homeR_yes (by rw [h1]; simp), ih]
    · rw [if_neg h1, homeR_no (by rw [beq_eq_false_iff_ne]; exact h1), ih]

set_option maxRecDepth 100000 in
set_option maxHeartbeats 1000000 in
theorem iPlacesOf_yes (n : Nat) (s : ByteArray) (hg : goodL n (lets s) = true) (w : World) :
    Calls Try.prog 25 #[.int .i64 n, .string s] w fun e w' => ∃ v, e = .returned (.tuple #[v, .bool true]) ∧ New w.heap.size w' 3 v (nums (placesOf n (lets s))) ∧ Below w.heap.size w w' := by
  have h3 := goodL_three hg
  have h8 := goodL_eight hg
  obtain ⟨_, hsw, _, _, _⟩ := chs_roads n h3 h8 _ (mem_chs hg)
  have hrow := isRow_cf hg
  have hres : home n (cf n (lets s)) = placesOf n (lets s) := by rw [← homeR_all, homeR_iP n _ n 0 (by omega), hsw]
  rw [← hres]
  have HG := Lib.hid hg
  have HHB := Lib.hid (fun w => homeBells_any n _ hrow w)
  have HCD := Lib.hid (fun w => changeDigits_yes n s HG.out w)
  clear HG hg hsw hrow hres h3 h8
  generalize cf n (lets s) = f at *
  go_enter Try.func25, Try.ntmps25
  go_wp2_with fail
  refine (HCD.out _).mono ?_
  rintro e w1 ⟨rfl, hb1⟩
  have hR1 := RowAt.new w1 56 (dig8 f)
  have HB1 := Lib.hid (hb1.alloc hb1.size (.cells (dig8 f) 56))
  clear hb1
  go_wp2_with (first | (refine wpList_store_row rfl 56 _ _ rfl _ _ rfl rfl 56 _ (heap_alloc_new _ _) (by kernel_rfl) rfl (by kernel_rfl) ?_; rw [World.setRow_alloc_new]) | (refine wpList_load_row rfl 56 _ rfl _ rfl 56 _ _ _ (hR1) Try.underlying56 rfl (by kernel_rfl) ?_) | fail)
  refine (HHB.out _).mono ?_
  rintro e w2 ⟨v, rfl, hn, hb2⟩
  go_wp2
  go_ret2
  exact ⟨_, rfl, hn.lower HB1.out.size, HB1.out.trans (hb2.mono HB1.out.size)⟩

set_option maxRecDepth 100000 in
set_option maxHeartbeats 1000000 in
theorem iPlacesOf_any (n : Int) (s : ByteArray) (w : World) :
    Calls Try.prog 25 #[.int .i64 n, .string s] w (NumsAny (anyPlacesOf n s) (goodC n s) w) := by
  cases h : goodC n s
  · have H := Lib.hid h
    have e : anyPlacesOf n s = [] := by unfold anyPlacesOf; rw [if_neg (by rw [h]; simp)]
    rw [e]
    clear h e
    go_enter Try.func25, Try.ntmps25
    go_wp2_with fail
    refine (changeDigits_no n s H.out _).mono ?_
    rintro e w1 ⟨rfl, hb1⟩
    go_wp2_with (refine wpList_store_row rfl 56 _ _ rfl _ _ rfl rfl 56 _ (heap_alloc_new _ _) (by kernel_rfl) rfl (by kernel_rfl) ?_; rw [World.setRow_alloc_new])
    go_ret2
    exact ⟨_, rfl, New.nil _ _ _, hb1.alloc hb1.size _⟩
  · obtain ⟨m, rfl, hg⟩ := goodC_stage h
    have e : anyPlacesOf m s = placesOf m (lets s) := by unfold anyPlacesOf; rw [if_pos h]; rfl
    rw [e]
    exact iPlacesOf_yes m s hg w

end Go.Proofs.Ytnildepdpkbekaa
