/- A number as a text, the text of some places, a number put first: in the model. -/
import Derived.Test.YtkeighlcdnfjcaaB12
import Derived.Test.YtkeighlcdnfjcaaO6
namespace Go.Proofs.Ytkeighlcdnfjcaa
open Go.RowKit

theorem txt_app (l r : List Nat) : txt (l ++ r) = txt l ++ txt r := by
  apply ByteArray.ext
  rw [ByteArray.data_append]
  simp [txt]

set_option maxRecDepth 100000 in
set_option maxHeartbeats 1000000 in
theorem l1Num_digit (p : Nat) (hp : p ≤ 9) (w : World) :
    Calls Try.prog 81 #[.int .i64 p] w fun e w' => e = .returned (.string (txt [48 + p])) ∧ Below w.heap.size w w' := by
  have hp' : (p : Int) < 10 := by omega
  have hconv := conv_dig (w.alloc (.cells #[.int .u8 (48 + p)] 5)) w.heap.size 1 1 (fun _ => 48 + p) (fun i hi => by
    obtain rfl : i = 0 := by omega
    exact (RowAt.new w 5 #[.int .u8 (48 + p)]).cell 0 rfl)
  have e1 : strOf 1 (fun _ => 48 + p) = txt [48 + p] := by simp [strOf, txt, List.range_succ]
  rw [e1] at hconv
  go_enter Try.func81, Try.ntmps81
  go_wp2
  go_ret
  exact ⟨rfl, (Below.refl _ w).alloc (Nat.le_refl _) _⟩

set_option maxRecDepth 100000 in
set_option maxHeartbeats 1000000 in
theorem l2Of_any (v : Value) (ps : List Nat) (hl : ps.length ≤ 8) (hps : ∀ p ∈ ps, p ≤ 9) (w : World) (hv : Own w 3 v (nums ps)) :
    Calls Try.prog 60 #[v] w fun e w' => e = .returned (.string (txt (ofPlaces ps))) ∧ Below w.heap.size w w' := by
  obtain ⟨n, hn⟩ : ∃ n, ps.length = n := ⟨_, rfl⟩
  obtain ⟨a, cap, rfl, ha⟩ := hv.view
  rw [nums_len, hn] at ha
  rw [nums_len, hn] at hv ⊢
  rw [hn] at hl
  have hl' : (n : Int) ≤ 8 := by omega
  have HO := Lib.hid hv
  have HA := Lib.hid ha
  have HN := Lib.hid hn
  have HP := Lib.hid hps
  clear hv ha hn hps
  generalize hrs : ofPlaces ps = rs
  have HRS := Lib.hid hrs
  clear hrs
  go_enter Try.func60, Try.ntmps60
  go_wp2
  go_loopg [3, 5, 8] n (fun q t _ i wr => ∃ k : Nat, k ≤ n ∧ q + k = n ∧ i = .int .i64 k ∧ t = .string (txt ((ps.take k).map (48 + ·))) ∧ Below w.heap.size w wr)
  case atStart => exact ⟨0, Nat.zero_le _, rfl, rfl, rfl, Below.refl _ _⟩
  case round =>
    obtain ⟨k, hk, hq, rfl, rfl, hbel⟩ := hrel
    have HQ := Lib.hid hq
    have HB := Lib.hid hbel
    clear hq hbel
    by_cases hlt : k < n
    · obtain ⟨g, rfl⟩ := HA.out (by omega)
      have hkp : k < ps.length := by rw [HN.out]; exact hlt
      have c1 := (HO.out.kept HB.out).cell k (.int .i64 ps[k]) (by simp [nums, ints, hkp])
      have hp9 := HP.out _ (List.getElem_mem hkp)
      have htk : (ps.take (k + 1)).map (48 + ·) = (ps.take k).map (48 + ·) ++ [48 + ps[k]] := by
        rw [List.take_succ_eq_append_getElem hkp, List.map_append]; rfl
      have htx : txt ((ps.take (k + 1)).map (48 + ·)) = txt ((ps.take k).map (48 + ·)) ++ txt [48 + ps[k]] := by rw [htk, txt_app]
      have hs1 : (txt ((ps.take k).map (48 + ·))).size = k := by rw [txt_size]; simp; omega
      have hs2 : (txt [48 + ps[k]]).size = 1 := txt_size _
      have HTX := Lib.hid htx
      have hki : (k : Int) < n := by omega
      have HNUM := Lib.hid (l1Num_digit ps[k] hp9)
      generalize txt ((ps.take k).map (48 + ·)) = T at *
      generalize txt [48 + ps[k]] = U at *
      generalize ps[k] = p at *
      clear htk htx
      go_wp2_with fail
      refine (HNUM.out _).mono ?_
      rintro e w2 ⟨rfl, hb2⟩
      have HB2 := Lib.hid (HB.out.trans (hb2.mono HB.out.size))
      clear hb2
      go_wp2
      go_roundg (n - (k + 1))
      case measure => have := HQ.out; omega
      case rel => exact ⟨k + 1, by omega, by have := HQ.out; omega, by go_num, by rw [HTX.out], HB2.out⟩
    · obtain rfl : k = n := by omega
      have hall : ps.take k = ps := List.take_of_length_le (by rw [HN.out]; exact Nat.le_refl _)
      have hki : ¬ (k : Int) < k := by omega
      rw [hall] at *
      have hem : (txt (ps.map (48 + ·))).toList.isEmpty = decide (ps = []) := by
        rw [empty_lets, lets_txt _ (fun b hb => by
          obtain ⟨p, hp, rfl⟩ := List.mem_map.1 hb
          have := HP.out p hp; omega)]
        cases ps <;> simp
      by_cases hps : ps = []
      · have hres : rs = [45] := by rw [← HRS.out]; simp [ofPlaces, hps]
        rw [decide_eq_true hps] at hem
        generalize txt (ps.map (48 + ·)) = T at *
        clear hps
        go_wp2
        go_ret
        exact ⟨by first | rfl | (rw [hres]; rfl), HB.out⟩
      · have hres : txt rs = txt (ps.map (48 + ·)) := by rw [← HRS.out]; simp [ofPlaces, hps]
        rw [decide_eq_false hps] at hem
        generalize txt (ps.map (48 + ·)) = T at *
        clear hps
        go_wp2
        go_ret
        exact ⟨by first | rfl | (rw [hres]; rfl), HB.out⟩

set_option maxRecDepth 100000 in
set_option maxHeartbeats 1000000 in
/-- a number below all others is put first -/
theorem l1Put_first (v : Value) (xs : List Nat) (x : Nat) (hl : xs.length ≤ 8) (hx : ∀ y ∈ xs, x < y) (w : World) (hv : Own w 3 v (nums xs)) :
    Calls Try.prog 59 #[v, .int .i64 x] w fun e w' => ∃ v', e = .returned v' ∧ New w.heap.size w' 3 v' (nums (x :: xs)) ∧ Below w.heap.size w w' := by
  obtain ⟨i0, hi0, hz0, hz1, hz2⟩ := info_parts infoInt
  have I0 := Lib.hid (⟨hi0, hz0, hz1, hz2⟩ : _ ∧ _ ∧ _ ∧ _)
  clear hi0 hz0 hz1 hz2
  rcases hv.shape with ⟨rfl, hnil⟩ | ⟨g, cap, rfl, hcap⟩
  · have hxs : xs = [] := by cases xs with
      | nil => rfl
      | cons => simp [nums, ints] at hnil
    subst hxs
    clear hnil hx hv hl
    have HL := Lib.hid (show New w.heap.size (w.alloc (.cells #[] 3)) 3 (.slice (some ⟨w.heap.size, 0, none⟩) 0 0) [] from ⟨Own.lit w 3 [] (by simp), fun g hg => by simp [Value.ownBlock] at hg; omega⟩)
    go_enter Try.func59, Try.ntmps59
    go_wp2
    go_loopg [5] 0 (fun q i wr => i = .int .i64 0 ∧ w = wr)
    case atStart => exact ⟨rfl, rfl⟩
    case round =>
      obtain ⟨rfl, rfl⟩ := hrel
      go_wp2_with (first | (at_builtin; refine wpList_app0 rfl (.tmp 34) (.tmp 37) 28 rfl 3 i0 Try.underlying28 I0.out.1 w.heap.size _ [] rfl HL.out rfl ?_) | (at_builtin; refine wpList_app1 rfl (.tmp 39) (.tmp 41) 28 rfl 3 i0 (.int .i64 0) 8 Try.underlying28 I0.out.1 I0.out.2.1 I0.out.2.2.1 I0.out.2.2.2 rfl w.heap.size w _ [] rfl HL.out (show Value.slice (some ⟨w.heap.size + 1, 0, none⟩) 1 1 = Value.slice (some ⟨(w.alloc (.cells #[] 3)).heap.size, 0, none⟩) 1 1 by simp) rfl (by simp) ((Below.refl _ w).alloc (Nat.le_refl _) _) (by simp) (by omega) ?_))
      intro v2 w2 hn2 _ hb2 _
      have HN2 := Lib.hid hn2
      have HB2 := Lib.hid hb2
      clear hn2 hb2
      go_wp2_with (at_builtin; refine wpList_app0 rfl (.tmp 43) (.tmp 46) 28 rfl 3 i0 Try.underlying28 I0.out.1 w.heap.size _ _ rfl HN2.out rfl ?_)
      go_ret
      exact ⟨_, rfl, HN2.out, HB2.out⟩
  · have hgw := hv.lt g rfl
    have hlen := nums_len xs
    rw [hlen] at hcap hv ⊢
    have HX := Lib.hid hx
    have HV := Lib.hid hv
    generalize hn : xs.length = n at *
    have HN := Lib.hid hn
    clear hv hx hlen hn
    have HL := Lib.hid (show New w.heap.size (w.alloc (.cells #[] 3)) 3 (.slice (some ⟨w.heap.size, 0, none⟩) 0 0) [] from ⟨Own.lit w 3 [] (by simp), fun g hg => by simp [Value.ownBlock] at hg; omega⟩)
    have hnc : (n : Int) ≤ cap := by omega
    have hn8 : (n : Int) ≤ 8 := by omega
    go_enter Try.func59, Try.ntmps59
    go_wp2
    go_loopg [5] 0 (fun q i wr => i = .int .i64 0 ∧ w = wr)
    case atStart => exact ⟨rfl, rfl⟩
    case round =>
      obtain ⟨rfl, rfl⟩ := hrel
      by_cases h0 : n = 0
      · subst h0
        go_wp2_with (at_builtin; refine wpList_appN rfl (.tmp 34) (.tmp 37) 28 rfl 3 i0 (.int .i64 0) 8 Try.underlying28 I0.out.1 I0.out.2.1 I0.out.2.2.1 I0.out.2.2.2 rfl w.heap.size w _ [] rfl HL.out ⟨g, 0, none⟩ 0 cap [] rfl rfl (by simp) (by simp) (by simp) ((Below.refl _ w).alloc (Nat.le_refl _) _) (by simp) (by omega) ?_)
        intro v1 w1 hn1 _ hb1 hsz1 _
        have HN1 := Lib.hid hn1
        have HB1 := Lib.hid hb1
        have hs1 := HB1.out.size
        clear hn1 hb1 hsz1
        go_wp2_with (at_builtin; refine wpList_app1 rfl (.tmp 39) (.tmp 41) 28 rfl 3 i0 (.int .i64 0) 8 Try.underlying28 I0.out.1 I0.out.2.1 I0.out.2.2.1 I0.out.2.2.2 rfl w.heap.size w _ _ rfl HN1.out rfl rfl hs1 HB1.out (by simp) (by omega) ?_)
        intro v2 w2 hn2 _ hb2 hsz2
        have HN2 := Lib.hid hn2
        have HB2 := Lib.hid hb2
        have hs2 : w.heap.size ≤ w2.heap.size := by omega
        clear hn2 hb2 hsz2
        go_wp2_with (at_builtin; refine wpList_appN rfl (.tmp 43) (.tmp 46) 28 rfl 3 i0 (.int .i64 0) 8 Try.underlying28 I0.out.1 I0.out.2.1 I0.out.2.2.1 I0.out.2.2.2 rfl w.heap.size w _ _ rfl HN2.out ⟨g, 0, none⟩ _ _ (nums xs) rfl (by rw [nums_len, HN.out]) ?d1 ?d2 hs2 HB2.out ?d3 (by omega) ?_)
        case d1 =>
          intro j u hj
          rw [show (⟨g, 0, none⟩ : Addr).add j = ⟨g, j, none⟩ from by unfold Addr.add; split <;> simp_all]
          exact (HV.out.kept HB2.out).cell j u hj
        case d2 => intro u hu; simp [nums, ints] at hu; obtain ⟨y, _, rfl⟩ := hu; rfl
        case d3 => simp
        intro v3 w3 hn3 _ hb3 _ _
        go_wp2
        go_ret
        exact ⟨_, rfl, by simpa [nums, ints] using hn3, hb3⟩
      · have hn1' : (0 : Int) < n := by omega
        have hx0 : 0 < xs.length := by rw [HN.out]; omega
        have c0 := HV.out.cell 0 (.int .i64 xs[0]) (by simp [nums, ints, hx0])
        have hlt := HX.out _ (List.getElem_mem hx0)
        have hlt1 : ¬ ((xs[0] : Nat) : Int) < x := by omega
        have hlt2 : (((xs[0] : Nat) : Int) == (x : Int)) = false := by simp; omega
        generalize xs[0] = y at *
        clear hlt
        go_wp2_with (at_builtin; refine wpList_appN rfl (.tmp 34) (.tmp 37) 28 rfl 3 i0 (.int .i64 0) 8 Try.underlying28 I0.out.1 I0.out.2.1 I0.out.2.2.1 I0.out.2.2.2 rfl w.heap.size w _ [] rfl HL.out ⟨g, 0, none⟩ 0 cap [] rfl rfl (by simp) (by simp) (by simp) ((Below.refl _ w).alloc (Nat.le_refl _) _) (by simp) (by omega) ?_)
        intro v1 w1 hn1 _ hb1 hsz1 _
        have HN1 := Lib.hid hn1
        have HB1 := Lib.hid hb1
        have hs1 := HB1.out.size
        clear hn1 hb1 hsz1
        go_wp2_with (at_builtin; refine wpList_app1 rfl (.tmp 39) (.tmp 41) 28 rfl 3 i0 (.int .i64 0) 8 Try.underlying28 I0.out.1 I0.out.2.1 I0.out.2.2.1 I0.out.2.2.2 rfl w.heap.size w _ _ rfl HN1.out rfl rfl hs1 HB1.out (by simp) (by omega) ?_)
        intro v2 w2 hn2 _ hb2 hsz2
        have HN2 := Lib.hid hn2
        have HB2 := Lib.hid hb2
        have hs2 : w.heap.size ≤ w2.heap.size := by omega
        clear hn2 hb2 hsz2
        go_wp2_with (at_builtin; refine wpList_appN rfl (.tmp 43) (.tmp 46) 28 rfl 3 i0 (.int .i64 0) 8 Try.underlying28 I0.out.1 I0.out.2.1 I0.out.2.2.1 I0.out.2.2.2 rfl w.heap.size w _ _ rfl HN2.out ⟨g, 0, none⟩ _ _ (nums xs) rfl (by rw [nums_len, HN.out]) ?d1 ?d2 hs2 HB2.out ?d3 (by omega) ?_)
        case d1 =>
          intro j u hj
          rw [show (⟨g, 0, none⟩ : Addr).add j = ⟨g, j, none⟩ from by unfold Addr.add; split <;> simp_all]
          exact (HV.out.kept HB2.out).cell j u hj
        case d2 => intro u hu; simp [nums, ints] at hu; obtain ⟨y, _, rfl⟩ := hu; rfl
        case d3 => simp; omega
        intro v3 w3 hn3 _ hb3 _ _
        go_wp2
        go_ret
        exact ⟨_, rfl, by simpa [nums, ints] using hn3, hb3⟩
end Go.Proofs.Ytkeighlcdnfjcaa
