/- MirrorChange in the model, and the law on it. -/
import Derived.Test.YtkeighlcdnfjcaaB13
namespace Go.Proofs.Ytkeighlcdnfjcaa
open Go.RowKit

/-- the first k places mirrored -/
def mirK (n : Nat) (ps : List Nat) (k : Nat) : List Nat := ((ps.take k).map (n + 1 - ·)).reverse
theorem mirK_succ (n : Nat) (ps : List Nat) (k : Nat) (hk : k < ps.length) : mirK n ps (k + 1) = (n + 1 - ps[k]) :: mirK n ps k := by
  unfold mirK
  rw [List.take_succ_eq_append_getElem hk, List.map_append, List.reverse_append]
  rfl
theorem mirK_len (n : Nat) (ps : List Nat) (k : Nat) : (mirK n ps k).length ≤ ps.length := by
  unfold mirK
  simp; omega
theorem mirK_lt (n : Nat) (ps : List Nat) (hp : ps.Pairwise (· < ·)) (hn : ∀ p ∈ ps, 1 ≤ p ∧ p ≤ n) (k : Nat) (hk : k < ps.length) : ∀ y ∈ mirK n ps k, n + 1 - ps[k] < y := by
  intro y hy
  simp only [mirK, List.mem_reverse, List.mem_map] at hy
  obtain ⟨q, hq, rfl⟩ := hy
  obtain ⟨i, hi, rfl⟩ := List.getElem_of_mem hq
  have hi' : i < k := by simp at hi; omega
  rw [List.getElem_take]
  have := (List.pairwise_iff_getElem.1 hp) i k (by omega) hk hi'
  have := hn _ (List.getElem_mem hk)
  omega

set_option maxRecDepth 100000 in
set_option maxHeartbeats 1000000 in
theorem sMirrorChange_yes (n : Nat) (s : ByteArray) (hs : s.size ≤ maxLen) (hg : goodL n (lets s) = true) (w : World) :
    Calls Try.prog 24 #[.int .i64 n, .string s] w fun e w' => e = .returned (.tuple #[.string (txt (mirL n (lets s))), .bool true]) ∧ Below w.heap.size w w' := by
  have h3 := goodL_three hg
  have h8 := goodL_eight hg
  have h8' : (n : Int) ≤ 8 := by omega
  have hmir := mirrors n h3 h8 _ (mem_chs hg)
  simp only [mirOk, Bool.and_eq_true, beq_iff_eq, decide_eq_true_eq, List.all_eq_true] at hmir
  obtain ⟨⟨⟨_, hlen⟩, hin⟩, hpair⟩ := hmir
  have hres : mirL n (lets s) = ofPlaces (mirK n (placesOf n (lets s)) (placesOf n (lets s)).length) := by
    unfold mirL mirP mirK
    rw [List.take_length]
  rw [hres]
  have HC := Lib.hid (show goodC n s = true by rw [goodC_in]; exact hg)
  have HPL := Lib.hid (l2Places_any n s hs h8 _ rfl hlen)
  generalize placesOf n (lets s) = ps at *
  have HIN := Lib.hid hin
  have HPAIR := Lib.hid hpair
  generalize hm : ps.length = m at *
  have HM := Lib.hid hm
  have hlen' : (m : Int) ≤ 8 := by omega
  clear hg hin hpair hres hm
  go_enter Try.func24, Try.ntmps24
  go_wp2_with fail
  refine (l2Change_any n s hs _).mono ?_
  rintro e w1 ⟨rfl, rfl⟩
  rw [HC.out]
  go_wp2_with fail
  refine (HPL.out _).mono ?_
  rintro e w1 ⟨v, rfl, hn1, hb1⟩
  obtain ⟨a, cap, rfl, ha⟩ := hn1.own.view
  rw [nums_len, HM.out] at ha
  rw [nums_len, HM.out] at hn1 ⊢
  have HV := Lib.hid hn1.own
  have HA := Lib.hid ha
  have HB1 := Lib.hid hb1
  clear hn1 ha hb1
  go_wp2
  go_loopg [6, 8, 17] m (fun q pl _ i wr => ∃ k : Nat, k ≤ m ∧ q + k = m ∧ i = .int .i64 k ∧ New w1.heap.size wr 3 pl (nums (mirK n ps k)) ∧ Below w1.heap.size w1 wr)
  case atStart => exact ⟨0, Nat.zero_le _, rfl, rfl, New.nil _ _ _, Below.refl _ _⟩
  case round =>
    obtain ⟨k, hk, hq, rfl, hnew, hbel⟩ := hrel
    have HQ := Lib.hid hq
    have HN := Lib.hid hnew
    have HB := Lib.hid hbel
    have hmk := mirK_len n ps k
    rw [HM.out] at hmk
    clear hq hnew hbel
    by_cases hlt : k < m
    · obtain ⟨g, rfl⟩ := HA.out (by omega)
      have hkp : k < ps.length := by rw [HM.out]; exact hlt
      have c1 := (HV.out.kept HB.out).cell k (.int .i64 ps[k]) (by simp [nums, ints, hkp])
      have hpn := HIN.out _ (List.getElem_mem hkp)
      have HSUCC := Lib.hid (mirK_succ n ps k hkp)
      have HPUT := Lib.hid (mirK_lt n ps HPAIR.out HIN.out k hkp)
      have hki : (k : Int) < m := by omega
      generalize ps[k] = p at *
      have hp1 : (1 : Int) ≤ p := by omega
      have hp2 : (p : Int) ≤ n := by omega
      clear hpn
      go_wp2_with fail
      rw [show ((n : Int) + 1 - (p : Int)) = ((n + 1 - p : Nat) : Int) by omega]
      refine (l1Put_first _ _ (n + 1 - p) (by omega) HPUT.out _ HN.out.own).mono ?_
      rintro e w2 ⟨v2, rfl, hn2, hb2⟩
      rw [← HSUCC.out] at hn2
      have HN2 := Lib.hid (hn2.lower HB.out.size)
      have HB2 := Lib.hid (HB.out.trans (hb2.mono HB.out.size))
      clear hn2 hb2
      go_wp2
      go_roundg (m - (k + 1))
      case measure => have := HQ.out; omega
      case rel => exact ⟨k + 1, by omega, by have := HQ.out; omega, by go_num, HN2.out, HB2.out⟩
    · obtain rfl : k = m := by omega
      have hki : ¬ (k : Int) < k := by omega
      have hps : ∀ p ∈ mirK n ps k, p ≤ 9 := by
        intro p hp
        simp only [mirK, List.mem_reverse, List.mem_map] at hp
        obtain ⟨q, _, rfl⟩ := hp
        omega
      have HPS := Lib.hid hps
      clear hps
      go_wp2_with fail
      refine (l2Of_any _ _ (by omega) HPS.out _ HN.out.own).mono ?_
      rintro e w2 ⟨rfl, hb2⟩
      have HB2 := Lib.hid (HB1.out.trans ((HB.out.trans (hb2.mono HB.out.size)).mono HB1.out.size))
      clear hb2
      go_wp2
      go_ret2
      exact ⟨rfl, HB2.out⟩

set_option maxRecDepth 100000 in
set_option maxHeartbeats 1000000 in
theorem sMirrorChange_no (n : Int) (s : ByteArray) (hs : s.size ≤ maxLen) (hg : goodC n s = false) (w : World) :
    Calls Try.prog 24 #[.int .i64 n, .string s] w fun e w' => e = .returned (.tuple #[.string ⟨#[]⟩, .bool false]) ∧ w = w' := by
  go_enter Try.func24, Try.ntmps24
  go_wp2_with fail
  refine (l2Change_any n s hs _).mono ?_
  rintro e w1 ⟨rfl, rfl⟩
  rw [hg]
  go_wp2
  go_ret2
  exact ⟨rfl, rfl⟩

set_option maxRecDepth 100000 in
set_option maxHeartbeats 1000000 in
theorem iMirrorChange_no (n : Int) (s : ByteArray) (hg : goodC n s = false) (w : World) :
    Calls Try.prog 23 #[.int .i64 n, .string s] w fun e w' => e = .returned (.tuple #[.string ⟨#[]⟩, .bool false]) ∧ Below w.heap.size w w' := by
  go_enter Try.func23, Try.ntmps23
  go_wp2_with fail
  refine (changeDigits_no n s hg _).mono ?_
  rintro e w1 ⟨rfl, hb1⟩
  go_wp2_with (refine wpList_store_row rfl 56 _ _ rfl _ _ rfl rfl 56 _ (heap_at _ _ _ (by simp)) (by kernel_rfl) rfl (by kernel_rfl) ?_; rw [setRow_at _ _ _ _ _ (by simp)])
  go_ret2
  exact ⟨rfl, hb1.alloc hb1.size _⟩

set_option maxRecDepth 100000 in
set_option maxHeartbeats 1000000 in
theorem lawMirrorChange (n : Int) (s : ByteArray) (w : World) (hs : s.size ≤ maxLen) :
    Calls Try.prog 12 #[.int .i64 n, .string s] w fun e w' => e = .returned (.bool true) ∧ Below w.heap.size w w' := by
  by_cases hbig : 1048576 < s.size
  · have hbig' : (1048576 : Int) < s.size := by omega
    go_enter Try.func12, Try.ntmps12
    go_wp2
    go_ret
    exact ⟨rfl, Below.refl _ _⟩
  · have hbig' : (s.size : Int) ≤ 1048576 := by omega
    cases h : goodC n s
    · have H := Lib.hid h
      clear h
      go_enter Try.func12, Try.ntmps12
      go_wp2_with fail
      refine (sMirrorChange_no n s hs H.out _).mono ?_
      rintro e w1 ⟨rfl, rfl⟩
      go_wp2_with fail
      refine (iMirrorChange_no n s H.out _).mono ?_
      rintro e w2 ⟨rfl, hb2⟩
      go_wp2
      go_ret
      exact ⟨rfl, hb2⟩
    · obtain ⟨m, rfl, hg⟩ := goodC_stage h
      have H := Lib.hid hg
      clear h hg
      go_enter Try.func12, Try.ntmps12
      go_wp2_with fail
      refine (sMirrorChange_yes m s hs H.out _).mono ?_
      rintro e w1 ⟨rfl, hb1⟩
      go_wp2_with fail
      refine (iMirrorChange_yes m s H.out _).mono ?_
      rintro e w2 ⟨rfl, hb2⟩
      go_wp2
      go_ret
      exact ⟨rfl, hb1.trans (hb2.mono hb1.size)⟩
end Go.Proofs.Ytkeighlcdnfjcaa
