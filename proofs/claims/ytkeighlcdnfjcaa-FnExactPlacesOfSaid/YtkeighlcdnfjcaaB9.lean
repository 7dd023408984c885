/- Places and swaps in the program. -/
import Derived.Test.YtkeighlcdnfjcaaB8
namespace Go.Proofs.Ytkeighlcdnfjcaa
open Go.RowKit

set_option maxRecDepth 100000 in
set_option maxHeartbeats 1000000 in
theorem iSwapsOf_yes (n : Nat) (s : ByteArray) (hg : goodL n (lets s) = true) (w : World) :
    Calls Try.prog 19 #[.int .i64 n, .string s] w fun e w' => ∃ v, e = .returned (.tuple #[v, .bool true]) ∧ New w.heap.size w' 3 v (nums (swapsOf n (lets s))) ∧ Below w.heap.size w w' := by
  have h3 := goodL_three hg
  have h8 := goodL_eight hg
  have h3' : (3 : Int) ≤ n := by omega
  have h8' : (n : Int) ≤ 8 := by omega
  obtain ⟨_, _, hsw, _, hlen⟩ := chs_roads n h3 h8 _ (mem_chs hg)
  have hrow := isRow_cf hg
  have HG := Lib.hid hg
  have HBYTE := Lib.hid hrow.byte
  obtain ⟨i0, hi0, hz0, hz1, hz2⟩ := info_parts infoInt
  have I0 := Lib.hid (⟨hi0, hz0, hz1, hz2⟩ : _ ∧ _ ∧ _ ∧ _)
  have HRES := Lib.hid hsw
  have HLEN := Lib.hid hlen
  clear hg hsw hlen hi0 hz0 hz1 hz2 hrow
  go_enter Try.func19, Try.ntmps19
  go_wp2_with fail
  refine (changeDigits_yes n s HG.out _).mono ?_
  rintro e w1 ⟨rfl, hb1⟩
  generalize hf : cf n (lets s) = f at HRES HBYTE
  have HROW := Lib.hid (RowAt.new w1 56 (dig8 f))
  have HB := Lib.hid (hb1.alloc hb1.size (.cells (dig8 f) 56))
  have hsz1 := hb1.size
  clear hb1 hf
  go_wp2_with (refine wpList_store_row rfl 56 _ _ rfl _ _ rfl rfl 56 _ (heap_alloc_new _ _) (by kernel_rfl) rfl (by kernel_rfl) ?_; rw [World.setRow_alloc_new])
  go_loopg [8, 9, 20] n (fun q v _ i wr => ∃ (k : Nat) (acc : List Nat), k ≤ n - 1 ∧ n ≤ q + k ∧ i = .int .i64 k ∧ acc ++ iS n f q k = swapsOf n (lets s) ∧ New (w1.heap.size + 1) wr 3 v (nums acc) ∧ RowAt wr w1.heap.size 56 (dig8 f) ∧ w1.heap.size + 1 ≤ wr.heap.size ∧ Below w.heap.size w wr)
  case atStart => exact ⟨0, [], by omega, by omega, rfl, HRES.out, New.nil _ _ _, HROW.out, by simp, HB.out⟩
  case round =>
    clear HRES HROW HB
    obtain ⟨k, acc, hkn, hq, rfl, hacc, hnew, hrow, hsz, hbel⟩ := hrel
    have HA := Lib.hid hacc
    have HN := Lib.hid hnew
    have HB := Lib.hid hbel
    have HROW := Lib.hid hrow
    clear hacc hnew hbel hrow
    by_cases hlt : k < n - 1
    · obtain ⟨q, rfl⟩ : ∃ q, gk = q + 1 := ⟨gk - 1, by omega⟩
      have hki : (k : Int) < (n : Int) - 1 := by omega
      have hm := HA.out
      unfold iS at hm
      rw [if_pos hlt] at hm
      have c1 := HROW.out.cell k (dig8_get f k (by omega))
      have c2 := HROW.out.cell (k + 1) (dig8_get f (k + 1) (by omega))
      have b1 : (f k : Int) < 256 := by have := HBYTE.out k; omega
      have b2 : (f (k + 1) : Int) < 256 := by have := HBYTE.out (k + 1); omega
      by_cases hgt : f (k + 1) < f k
      · rw [if_pos hgt] at hm
        have HM2 := Lib.hid hm
        have hgt' : ((f (k + 1) : Int) < f k) := by omega
        clear hm HA hgt
        go_wp2
        go_quiet (fail)
        have hN0 := HN.out.drewN nq
        have hR0 : RowAt (wr.drewN nq) w1.heap.size 56 (dig8 f) := HROW.out
        have hB0 := below_drewN HB.out nq
        have hs0 : w1.heap.size + 1 ≤ (wr.drewN nq).heap.size := hsz
        generalize wr.drewN nq = wd at *
        have HN0 := Lib.hid hN0
        have HR0 := Lib.hid hR0
        have HB0 := Lib.hid hB0
        clear hN0 hR0 hB0 HN HB HROW c1 c2
        go_wp2_with (at_builtin; refine wpList_app1 rfl (.tmp 31) (.tmp 34) 28 rfl 3 i0 (.int .i64 0) 8 Try.underlying28 I0.out.1 I0.out.2.1 I0.out.2.2.1 I0.out.2.2.2 rfl (w1.heap.size + 1) wd _ (nums acc) rfl HN0.out rfl rfl hs0 (Below.refl _ _) ?c1 ?c2 ?_)
        case c1 => rw [nums_len]; have := HLEN.out; have := congrArg List.length HM2.out; simp at this; omega
        case c2 => omega
        intro v' w' hnew' hkeep hbel' hsz'
        rw [show ((k : Int) + 1) = ((k + 1 : Nat) : Int) by omega, nums_snoc] at hnew'
        have HN' := Lib.hid hnew'
        have HR' := Lib.hid (hkeep.row HR0.out (fun e => by have := HN0.out.base _ e; omega))
        have HB' := Lib.hid (HB0.out.trans (hbel'.mono (show w.heap.size ≤ w1.heap.size + 1 by omega)))
        have hs' : w1.heap.size + 1 ≤ w'.heap.size := by omega
        clear hnew' hbel' hkeep
        go_wp2
        go_roundg q
        case measure => omega
        case rel => exact ⟨k + 1, acc ++ [k + 1], by omega, by omega, by go_num, by have := HM2.out; simpa using this, HN'.out, HR'.out, hs', HB'.out⟩
      · rw [if_neg hgt] at hm
        have HM2 := Lib.hid hm
        have hgt' : ¬ ((f (k + 1) : Int) < f k) := by omega
        clear hm HA hgt
        go_wp2
        go_quiet (fail)
        go_wp2
        go_roundg q
        case measure => omega
        case rel => exact ⟨k + 1, acc, by omega, by omega, by go_num, HM2.out, HN.out.drewN _, HROW.out, hsz, below_drewN HB.out _⟩
    · have hki : ¬ (k : Int) < (n : Int) - 1 := by omega
      have hm := HA.out
      rw [iS_end n _ _ _ hlt, List.append_nil] at hm
      go_wp2
      go_ret2
      exact ⟨_, rfl, by rw [← hm]; exact HN.out.lower (by omega), HB.out⟩

set_option maxRecDepth 100000 in
set_option maxHeartbeats 1000000 in
theorem iPlacesOf_yes (n : Nat) (s : ByteArray) (hg : goodL n (lets s) = true) (w : World) :
    Calls Try.prog 18 #[.int .i64 n, .string s] w fun e w' => ∃ v, e = .returned (.tuple #[v, .bool true]) ∧ New w.heap.size w' 3 v (nums (placesOf n (lets s))) ∧ Below w.heap.size w w' := by
  have h3 := goodL_three hg
  have h8 := goodL_eight hg
  have h3' : (3 : Int) ≤ n := by omega
  have h8' : (n : Int) ≤ 8 := by omega
  obtain ⟨_, hsw, _, hlen, _⟩ := chs_roads n h3 h8 _ (mem_chs hg)
  have hrow := isRow_cf hg
  have HG := Lib.hid hg
  have HBYTE := Lib.hid hrow.byte
  obtain ⟨i0, hi0, hz0, hz1, hz2⟩ := info_parts infoInt
  have I0 := Lib.hid (⟨hi0, hz0, hz1, hz2⟩ : _ ∧ _ ∧ _ ∧ _)
  have HRES := Lib.hid hsw
  have HLEN := Lib.hid hlen
  clear hg hsw hlen hi0 hz0 hz1 hz2 hrow
  go_enter Try.func18, Try.ntmps18
  go_wp2_with fail
  refine (changeDigits_yes n s HG.out _).mono ?_
  rintro e w1 ⟨rfl, hb1⟩
  generalize hf : cf n (lets s) = f at HRES HBYTE
  have hR1 := RowAt.new w1 56 (dig8 f)
  have hB1 := hb1.alloc hb1.size (.cells (dig8 f) 56)
  have hsz1 := hb1.size
  clear hb1 hf
  go_wp2_with (first | (refine wpList_store_row rfl 56 _ _ rfl _ _ rfl rfl 56 _ (heap_alloc_new _ _) (by kernel_rfl) rfl (by kernel_rfl) ?_; rw [World.setRow_alloc_new]) | fail)
  refine (roundsDigits_any n h8 _).mono ?_
  rintro e w2 ⟨rfl, hb2⟩
  have HROW := Lib.hid ((hR1.kept hb2).push (.cells (dig8 (rdf n)) 56))
  have HRD := Lib.hid (RowAt.new w2 56 (dig8 (rdf n)))
  have hsz2 : w1.heap.size < w2.heap.size := by have := hb2.size; simp at this; omega
  have HB := Lib.hid ((hB1.trans (hb2.mono hB1.size)).alloc (by omega) (.cells (dig8 (rdf n)) 56))
  clear hR1 hB1 hb2
  go_wp2_with (first | (refine wpList_store_row rfl 56 _ _ rfl _ _ rfl rfl 56 _ (heap_alloc_new _ _) (by kernel_rfl) rfl (by kernel_rfl) ?_; rw [World.setRow_alloc_new]) | fail)
  go_loopg [9, 10, 22] n (fun q v _ i wr => ∃ (k : Nat) (acc : List Nat), k ≤ n ∧ n ≤ q + k ∧ i = .int .i64 k ∧ acc ++ iP n f q k = placesOf n (lets s) ∧ New (w2.heap.size + 1) wr 3 v (nums acc) ∧ RowAt wr w1.heap.size 56 (dig8 f) ∧ RowAt wr w2.heap.size 56 (dig8 (rdf n)) ∧ w2.heap.size + 1 ≤ wr.heap.size ∧ Below w.heap.size w wr)
  case atStart => exact ⟨0, [], by omega, by omega, rfl, HRES.out, New.nil _ _ _, HROW.out, HRD.out, by simp, HB.out⟩
  case round =>
    clear HRES HROW HB HRD
    obtain ⟨k, acc, hkn, hq, rfl, hacc, hnew, hrow, hrd, hsz, hbel⟩ := hrel
    have HA := Lib.hid hacc
    have HN := Lib.hid hnew
    have HB := Lib.hid hbel
    have HROW := Lib.hid hrow
    have HRD := Lib.hid hrd
    clear hacc hnew hbel hrow hrd
    by_cases hlt : k < n
    · obtain ⟨q, rfl⟩ : ∃ q, gk = q + 1 := ⟨gk - 1, by omega⟩
      have hki : (k : Int) < (n : Int) := by omega
      have hm := HA.out
      unfold iP at hm
      rw [if_pos hlt] at hm
      have c1 := HROW.out.cell k (dig8_get f k (by omega))
      have c2 := HRD.out.cell k (dig8_get (rdf n) k (by omega))
      have hrk : rdf n k = 49 + k := by simp [rdf, hlt]
      rw [hrk] at c2
      have b1 : (f k : Int) < 256 := by have := HBYTE.out k; omega
      by_cases hgt : f k = 49 + k
      · rw [if_pos hgt] at hm
        have HM2 := Lib.hid hm
        have hgt' : ((f k : Int) == ((49 + k : Nat) : Int)) = true := by rw [hgt]; simp
        rw [hgt] at c1
        clear hm HA hgt
        go_wp2
        go_quiet (fail)
        have hN0 := HN.out.drewN nq
        have hR0 : RowAt (wr.drewN nq) w1.heap.size 56 (dig8 f) := HROW.out
        have hD0 : RowAt (wr.drewN nq) w2.heap.size 56 (dig8 (rdf n)) := HRD.out
        have hB0 := below_drewN HB.out nq
        have hs0 : w2.heap.size + 1 ≤ (wr.drewN nq).heap.size := hsz
        generalize wr.drewN nq = wd at *
        have HN0 := Lib.hid hN0
        have HR0 := Lib.hid hR0
        have HD0 := Lib.hid hD0
        have HB0 := Lib.hid hB0
        clear hN0 hR0 hB0 hD0 HN HB HROW HRD c1 c2
        go_wp2_with (at_builtin; refine wpList_app1 rfl (.tmp 32) (.tmp 35) 28 rfl 3 i0 (.int .i64 0) 8 Try.underlying28 I0.out.1 I0.out.2.1 I0.out.2.2.1 I0.out.2.2.2 rfl (w2.heap.size + 1) wd _ (nums acc) rfl HN0.out rfl rfl hs0 (Below.refl _ _) ?c1 ?c2 ?_)
        case c1 => rw [nums_len]; have := HLEN.out; have := congrArg List.length HM2.out; simp at this; omega
        case c2 => omega
        intro v' w' hnew' hkeep hbel' hsz'
        rw [show ((k : Int) + 1) = ((k + 1 : Nat) : Int) by omega, nums_snoc] at hnew'
        have HN' := Lib.hid hnew'
        have HR' := Lib.hid (hkeep.row HR0.out (fun e => by have := HN0.out.base _ e; omega))
        have HD' := Lib.hid (hkeep.row HD0.out (fun e => by have := HN0.out.base _ e; omega))
        have HB' := Lib.hid (HB0.out.trans (hbel'.mono (show w.heap.size ≤ w2.heap.size + 1 by omega)))
        have hs' : w2.heap.size + 1 ≤ w'.heap.size := by omega
        clear hnew' hbel' hkeep
        go_wp2
        go_roundg q
        case measure => omega
        case rel => exact ⟨k + 1, acc ++ [k + 1], by omega, by omega, by go_num, by have := HM2.out; simpa using this, HN'.out, HR'.out, HD'.out, hs', HB'.out⟩
      · rw [if_neg hgt] at hm
        have HM2 := Lib.hid hm
        have hgt' : ((f k : Int) == ((49 + k : Nat) : Int)) = false := by simp; omega
        clear hm HA hgt
        go_wp2
        go_quiet (fail)
        go_wp2
        go_roundg q
        case measure => omega
        case rel => exact ⟨k + 1, acc, by omega, by omega, by go_num, HM2.out, HN.out.drewN _, HROW.out, HRD.out, hsz, below_drewN HB.out _⟩
    · have hki : ¬ (k : Int) < (n : Int) := by omega
      have hm := HA.out
      rw [iP_end n _ _ _ hlt, List.append_nil] at hm
      go_wp2
      go_ret2
      exact ⟨_, rfl, by rw [← hm]; exact HN.out.lower (by omega), HB.out⟩
end Go.Proofs.Ytkeighlcdnfjcaa
