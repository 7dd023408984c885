/- PlacesOf in the program, and its law. -/
import Derived.Test.YtdflpkkcjbdpfaaM3
namespace Go.Proofs.Ytdflpkkcjbdpfaa
open Go.RowKit
set_option linter.unusedSimpArgs false
set_option linter.unusedVariables false

theorem homeR_iP (n : Nat) (f : Nat → Nat) : ∀ q i, i + q ≤ n → homeR f i q = iP n f q i
  | 0, i, _ => by simp [homeR, iP]
  | q + 1, i, h => by
    have ih := homeR_iP n f q (i + 1) (by omega)
    unfold iP
    rw [if_pos (by omega)]
    by_cases h1 : f i = 49 + i
    · rw [if_pos h1, homeR_yes (by rw [h1]; simp), ih]
    · rw [if_neg h1, homeR_no (by rw [beq_eq_false_iff_ne]; exact h1), ih]

set_option maxRecDepth 100000 in
set_option maxHeartbeats 1000000 in
theorem iPlacesOf_yes (n : Nat) (s : ByteArray) (hg : goodL n (lets s) = true) (w : World) :
    Calls Try.prog 9 #[.int .i64 n, .string s] w fun e w' => ∃ v, e = .returned (.tuple #[v, .bool true]) ∧ New w.heap.size w' 3 v (nums (placesOf n (lets s))) ∧ Below w.heap.size w w' := by
  have h3 := goodL_three hg
  have h8 := goodL_eight hg
  obtain ⟨_, hsw, _, _, _⟩ := chs_roads n h3 h8 _ (mem_chs hg)
  have hrow := isRow_cf hg
  have hres : home n (cf n (lets s)) = placesOf n (lets s) := by rw [← homeR_all, homeR_iP n _ n 0 (by omega), hsw]
  rw [← hres]
  have HG := Lib.hid hg
  have HHB := Lib.hid (fun w => homeBells_any n _ hrow w)
  have HCD := Lib.hid (fun w => changeDigits_yes n s HG.out w)
  clear HG hg hsw hrow hres h3 h8
  generalize cf n (lets s) = f at *
  go_enter Try.func9, Try.ntmps9
  go_wp2_with fail
  refine (HCD.out _).mono ?_
  rintro e w1 ⟨rfl, hb1⟩
  have hR1 := RowAt.new w1 49 (dig8 f)
  have HB1 := Lib.hid (hb1.alloc hb1.size (.cells (dig8 f) 49))
  clear hb1
  go_wp2_with (first | (refine wpList_store_row rfl 49 _ _ rfl _ _ rfl rfl 49 _ (heap_alloc_new _ _) (by kernel_rfl) rfl (by kernel_rfl) ?_; rw [World.setRow_alloc_new]) | (refine wpList_load_row rfl 49 _ rfl _ rfl 49 _ _ _ (hR1) Try.underlying49 rfl (by kernel_rfl) ?_) | fail)
  refine (HHB.out _).mono ?_
  rintro e w2 ⟨v, rfl, hn, hb2⟩
  go_wp2
  go_ret2
  exact ⟨_, rfl, hn.lower HB1.out.size, HB1.out.trans (hb2.mono HB1.out.size)⟩

set_option maxRecDepth 100000 in
set_option maxHeartbeats 1000000 in
theorem iPlacesOf_any (n : Int) (s : ByteArray) (w : World) :
    Calls Try.prog 9 #[.int .i64 n, .string s] w (NumsAny (anyPlacesOf n s) (goodC n s) w) := by
  cases h : goodC n s
  · have H := Lib.hid h
    have e : anyPlacesOf n s = [] := by unfold anyPlacesOf; rw [if_neg (by rw [h]; simp)]
    rw [e]
    clear h e
    go_enter Try.func9, Try.ntmps9
    go_wp2_with fail
    refine (changeDigits_no n s H.out _).mono ?_
    rintro e w1 ⟨rfl, hb1⟩
    go_wp2_with (refine wpList_store_row rfl 49 _ _ rfl _ _ rfl rfl 49 _ (heap_alloc_new _ _) (by kernel_rfl) rfl (by kernel_rfl) ?_; rw [World.setRow_alloc_new])
    go_ret2
    exact ⟨_, rfl, New.nil _ _ _, hb1.alloc hb1.size _⟩
  · obtain ⟨m, rfl, hg⟩ := goodC_stage h
    have e : anyPlacesOf m s = placesOf m (lets s) := by unfold anyPlacesOf; rw [if_pos h]; rfl
    rw [e]
    exact iPlacesOf_yes m s hg w

set_option maxRecDepth 100000 in
set_option maxHeartbeats 1000000 in
theorem lawPlacesOf (n : Int) (s : ByteArray) (w : World) (hs : s.size ≤ maxLen) :
    Calls Try.prog 3 #[.int .i64 n, .string s] w fun e w' => e = .returned (.bool true) ∧ Below w.heap.size w w' := by
  by_cases hbig : 1048576 < s.size
  · have hbig' : (1048576 : Int) < s.size := by omega
    go_enter Try.func3, Try.ntmps3
    go_wp2
    go_ret
    exact ⟨rfl, Below.refl _ _⟩
  · have hbig' : (s.size : Int) ≤ 1048576 := by omega
    have hlen := anyPlacesOf_len n s
    have HS := Lib.hid (sPlacesOf_any n s hs)
    have HI := Lib.hid (iPlacesOf_any n s)
    generalize anyPlacesOf n s = xs at hlen HS HI
    generalize goodC n s = b at HS HI
    have hl1 : ((xs.map fun (k : Nat) => (k : Int)).length) = xs.length := by simp
    generalize hys : (xs.map fun (k : Nat) => (k : Int)) = ys at hl1
    have hnums : nums xs = ints ys := by unfold nums; rw [hys]
    have HNM := Lib.hid hnums
    obtain ⟨m, hm⟩ : ∃ m, ys.length = m := ⟨_, rfl⟩
    have hm8 : m ≤ 8 := by omega
    have HM := Lib.hid hm
    clear hnums hys hl1 hlen hm
    go_enter Try.func3, Try.ntmps3
    go_wp2_with fail
    refine (HS.out _).mono ?_
    rintro e w1 ⟨v1, rfl, hl1, hb1⟩
    rw [HNM.out] at hl1
    have L1 := Lib.hid hl1
    have B1 := Lib.hid hb1
    clear hl1 hb1
    go_wp2_with fail
    refine (HI.out _).mono ?_
    rintro e w2 ⟨v2, rfl, hl2, hb2⟩
    rw [HNM.out] at hl2
    have L2 := Lib.hid hl2
    have B2 := Lib.hid hb2
    clear hl2 hb2
    go_wp2_with fail
    refine (eqIntS_same v2 v1 ys _ L2.out.own (L1.out.own.kept B2.out) (by rw [HM.out]; omega)).mono ?_
    rintro e w3 ⟨rfl, d3, hd3⟩
    have L3 : Hid (New w1.heap.size w3 3 v2 (ints ys)) := by rw [hd3]; exact L2.out.drewN _
    have B3 : Hid (Below w1.heap.size w1 w3) := by rw [hd3]; exact below_drewN B2.out _
    clear hd3
    go_wp2_with fail
    refine (markIntS_any v2 ys 1 _ L3.out.own (by rw [HM.out]; omega) (by omega) (by omega)).mono ?_
    rintro e w4 ⟨rfl, hl4, hg4⟩
    rw [HM.out] at hl4
    have L4 := Lib.hid hl4
    have B4 := Lib.hid (B3.out.grown hg4 B3.out.size (fun g hg => L3.out.base g hg))
    rw [HM.out]
    clear hl4 hg4
    go_wp2_with fail
    refine (heldIntS_any v2 m 1 _ L4.out (by omega) (by omega) (by omega)).mono ?_
    rintro e w' ⟨rfl, rfl⟩
    have hnn : ¬ ((1 : Int) + (m : Nat) < 0) := by omega
    go_wp2_with fail
    refine (HI.out _).mono ?_
    rintro e w5 ⟨v5, rfl, hl5, hb5⟩
    rw [HNM.out] at hl5
    have L5 := Lib.hid hl5
    have L4' := Lib.hid (L4.out.kept hb5)
    have B5 := Lib.hid (B4.out.trans (hb5.mono B4.out.size))
    clear hl5 hb5
    go_wp2_with fail
    refine (eqIntS_same v5 v1 ys _ L5.out.own (L1.out.own.kept B5.out) (by rw [HM.out]; omega)).mono ?_
    rintro e w6 ⟨rfl, d6, hd6⟩
    have L6 : Hid (Own w6 3 v2 (ints (marks 1 m))) := by rw [hd6]; exact L4'.out.drewN _
    have B6 : Hid (Below w1.heap.size w1 w6) := by rw [hd6]; exact below_drewN B5.out _
    clear hd6
    go_wp2_with fail
    refine (heldIntS_any v2 m 1 _ L6.out (by omega) (by omega) (by omega)).mono ?_
    rintro e w' ⟨rfl, rfl⟩
    go_wp2
    go_ret
    exact ⟨rfl, B1.out.trans (B6.out.mono B1.out.size)⟩
end Go.Proofs.Ytdflpkkcjbdpfaa
