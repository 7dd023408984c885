/- TidyChange out of stage; the law on it. -/
import Derived.Test.YtdflpkkcjbdpfaaDoorR2
namespace Go.Proofs.YtdflpkkcjbdpfaaDoor
open Go.RowKit
set_option linter.unusedSimpArgs false

theorem candV_some (s d : ByteArray) (j : Nat) (hj : j < 4) : ∃ t : ByteArray, (candV s d)[j]? = some (.string t) := by
  have hc : j = 0 ∨ j = 1 ∨ j = 2 ∨ j = 3 := by omega
  rcases hc with rfl | rfl | rfl | rfl <;> exact ⟨_, rfl⟩
set_option maxRecDepth 100000 in
set_option maxHeartbeats 1000000 in
theorem iTidy_out (n : Int) (hn : ¬ (3 ≤ n ∧ n ≤ 8)) (h0 : -9223372036854775808 ≤ n) (h1 : n ≤ 9223372036854775807) (s : ByteArray) (hs : s.size ≤ 1048576) (w : World) (htab : Tab w) :
    Calls Tryd.prog 14 #[.int .i64 n, .string s] w (TidyRes [] w) := by
  have HX := x_lets s
  go_enter Tryd.func14, Tryd.ntmps14
  by_cases hx : lets s = [120]
  · have hd : decide (lets s = [120]) = true := by rw [hx]; rfl
    rw [hd] at HX
    clear hx hd
    go_wp2_with fail
    obtain ⟨s', hs', hsz⟩ : ∃ s' : ByteArray, s' = ⟨#[45]⟩ ∧ s'.size ≤ 1048576 := ⟨_, rfl, by decide⟩
    rw [← hs']
    clear hs' hs HX
    refine (itoa_any n h0 h1 _ htab).mono ?_
    rintro e w2 ⟨d, rfl, hds, hb2⟩
    have HB2 := Lib.hid (hb2.alloc hb2.size (.cells (candV s' d) 9))
    have HR := Lib.hid (RowAt.new w2 9 (candV s' d))
    have HC : Hid (∀ j, j < 4 → _) := Lib.hid (candV_some s' d)
    clear hb2 htab
    go_wp2
    change Code.wp _ _ _ _ (w2.alloc (.cells (candV s' d) 9))
    generalize w2.alloc (.cells (candV s' d) 9) = w3 at *
    generalize w2.heap.size = b at *
    have HSZ := Lib.hid (show s'.size + d.size + 1 ≤ 1048680 by omega)
    clear hsz hds
    generalize s' ++ d = x1 at *
    generalize ⟨#[49]⟩ ++ s' = x2 at *
    generalize x2 ++ d = x3 at *
    go_loopg [25] 4 (fun q i wr => ∃ j : Nat, j ≤ 4 ∧ q + j = 4 ∧ i = .int .i64 j ∧ Below w.heap.size w wr ∧ RowAt wr b 9 (candV s' d))
    case atStart => exact ⟨0, by omega, rfl, rfl, HB2.out, HR.out⟩
    case round =>
      clear HB2 HR
      obtain ⟨j, hj, hq, rfl, hb, hr⟩ := hrel
      have HB := Lib.hid hb
      have HR := Lib.hid hr
      clear hb hr
      by_cases hlt : j < 4
      · obtain ⟨t, ht1⟩ := HC.out j hlt
        have c1 := HR.out.cell j ht1
        have hji : (j : Int) < 4 := by omega
        clear ht1
        go_wp2_with fail
        refine (iGoodChange_any n t _).mono ?_
        rintro e w5 ⟨rfl, hb5⟩
        have HB5 := Lib.hid (HB.out.trans (hb5.mono HB.out.size))
        have HR5 := Lib.hid (HR.out.kept hb5)
        clear HB HR hb5
        rw [goodC_out n t hn]
        go_wp2
        go_roundg (4 - (j + 1))
        case measure => omega
        case rel => exact ⟨j + 1, by omega, by omega, by go_num, HB5.out, HR5.out⟩
      · obtain rfl : j = 4 := by omega
        go_wp2
        go_ret2
        exact ⟨rfl, HB.out⟩
  · rw [decide_eq_false hx] at HX
    clear hx
    go_wp2_with fail
    obtain ⟨s', rfl, hsz⟩ : ∃ s' : ByteArray, s' = s ∧ s'.size ≤ 1048576 := ⟨_, rfl, hs⟩
    clear hs HX
    refine (itoa_any n h0 h1 _ htab).mono ?_
    rintro e w2 ⟨d, rfl, hds, hb2⟩
    have HB2 := Lib.hid (hb2.alloc hb2.size (.cells (candV s' d) 9))
    have HR := Lib.hid (RowAt.new w2 9 (candV s' d))
    have HC : Hid (∀ j, j < 4 → _) := Lib.hid (candV_some s' d)
    clear hb2 htab
    go_wp2
    change Code.wp _ _ _ _ (w2.alloc (.cells (candV s' d) 9))
    generalize w2.alloc (.cells (candV s' d) 9) = w3 at *
    generalize w2.heap.size = b at *
    have HSZ := Lib.hid (show s'.size + d.size + 1 ≤ 1048680 by omega)
    clear hsz hds
    generalize s' ++ d = x1 at *
    generalize ⟨#[49]⟩ ++ s' = x2 at *
    generalize x2 ++ d = x3 at *
    go_loopg [25] 4 (fun q i wr => ∃ j : Nat, j ≤ 4 ∧ q + j = 4 ∧ i = .int .i64 j ∧ Below w.heap.size w wr ∧ RowAt wr b 9 (candV s' d))
    case atStart => exact ⟨0, by omega, rfl, rfl, HB2.out, HR.out⟩
    case round =>
      clear HB2 HR
      obtain ⟨j, hj, hq, rfl, hb, hr⟩ := hrel
      have HB := Lib.hid hb
      have HR := Lib.hid hr
      clear hb hr
      by_cases hlt : j < 4
      · obtain ⟨t, ht1⟩ := HC.out j hlt
        have c1 := HR.out.cell j ht1
        have hji : (j : Int) < 4 := by omega
        clear ht1
        go_wp2_with fail
        refine (iGoodChange_any n t _).mono ?_
        rintro e w5 ⟨rfl, hb5⟩
        have HB5 := Lib.hid (HB.out.trans (hb5.mono HB.out.size))
        have HR5 := Lib.hid (HR.out.kept hb5)
        clear HB HR hb5
        rw [goodC_out n t hn]
        go_wp2
        go_roundg (4 - (j + 1))
        case measure => omega
        case rel => exact ⟨j + 1, by omega, by omega, by go_num, HB5.out, HR5.out⟩
      · obtain rfl : j = 4 := by omega
        go_wp2
        go_ret2
        exact ⟨rfl, HB.out⟩

theorem iTidyChange_any (n : Int) (h0 : -9223372036854775808 ≤ n) (h1 : n ≤ 9223372036854775807) (s : ByteArray) (hs : s.size ≤ 1048576) (w : World) (htab : Tab w) :
    Calls Tryd.prog 14 #[.int .i64 n, .string s] w (TidyRes (tidyC n s) w) := by
  by_cases hn : 3 ≤ n ∧ n ≤ 8
  · obtain ⟨m, rfl⟩ : ∃ m : Nat, n = m := ⟨n.toNat, by omega⟩
    unfold tidyC
    rw [if_pos hn]
    exact iTidy_in m (by omega) (by omega) s hs w
  · unfold tidyC
    rw [if_neg hn]
    exact iTidy_out n hn h0 h1 s hs w htab

theorem empty_txt (b : List Nat) : (txt b).toList.isEmpty = decide (b = []) := by
  rw [Lib.toList_data]
  cases b <;> simp [txt]
theorem tidyC_out (n : Int) (s : ByteArray) (hn : ¬ (3 ≤ n ∧ n ≤ 8)) : tidyC n s = [] := by unfold tidyC; rw [if_neg hn]
theorem tidyC_in (n : Nat) (h3 : 3 ≤ n) (h8 : n ≤ 8) (s : ByteArray) : tidyC n s = tidyL n (lets s) := by
  unfold tidyC
  rw [if_pos ⟨by omega, by omega⟩]
  rfl
set_option maxRecDepth 100000 in
set_option maxHeartbeats 1000000 in
theorem sTidyChange_any (n : Int) (s : ByteArray) (hs : s.size ≤ 1048576) (w : World) :
    Calls Tryd.prog 15 #[.int .i64 n, .string s] w (TidyRes (tidyC n s) w) := by
  by_cases hn : 3 ≤ n ∧ n ≤ 8
  · obtain ⟨m, rfl⟩ : ∃ m : Nat, n = m := ⟨n.toNat, by omega⟩
    have hin : (decide ((3 : Int) ≤ m) && decide ((m : Int) ≤ 8)) = true := by simp; omega
    have hcall := l3Tidy_any m (by omega) (by omega) s hs
    rw [tidyC_in m (by omega) (by omega) s]
    have hcall2 := hcall
    generalize tidyL m (lets s) = r at *
    have HE := empty_txt r
    clear hn
    go_enter Tryd.func15, Tryd.ntmps15
    go_wp2_with fail
    refine (l1In_any _ _ _ _).mono ?_
    rintro e w1 ⟨rfl, rfl⟩
    rw [hin]
    go_wp2_with fail
    refine (hcall _).mono ?_
    rintro e w2 ⟨rfl, hb2⟩
    by_cases hr : r = []
    · rw [hr] at HE
      have HE2 : (txt r).toList.isEmpty = true := by rw [hr, HE]; rfl
      have HR := Lib.hid hr
      clear HE hr
      go_wp2
      go_ret2
      exact ⟨by rw [HR.out]; rfl, hb2⟩
    · have HE2 : (txt r).toList.isEmpty = false := by rw [HE]; exact decide_eq_false hr
      have HR2 := Lib.hid (show decide (r ≠ []) = true from decide_eq_true hr)
      clear HE hr
      go_wp2_with fail
      refine (hcall2 _).mono ?_
      rintro e w3 ⟨rfl, hb3⟩
      go_wp2
      go_ret2
      exact ⟨by rw [HR2.out]; rfl, hb2.trans (hb3.mono hb2.size)⟩
  · have hin : (decide ((3 : Int) ≤ n) && decide (n ≤ 8)) = false := by simp; omega
    rw [tidyC_out n s hn]
    clear hn
    go_enter Tryd.func15, Tryd.ntmps15
    go_wp2_with fail
    refine (l1In_any _ _ _ _).mono ?_
    rintro e w1 ⟨rfl, rfl⟩
    rw [hin]
    go_wp2
    go_ret2
    exact ⟨rfl, Below.refl _ _⟩

end Go.Proofs.YtdflpkkcjbdpfaaDoor
