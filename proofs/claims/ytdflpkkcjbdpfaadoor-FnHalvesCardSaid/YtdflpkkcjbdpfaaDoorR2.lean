/- TidyChange in the program and in the model. -/
import Derived.Test.YtdflpkkcjbdpfaaDoorS2
import Derived.Test.YtdflpkkcjbdpfaaDoorR1
import Derived.Test.YtdflpkkcjbdpfaaDoorK3
namespace Go.Proofs.YtdflpkkcjbdpfaaDoor
open Go.RowKit
set_option linter.unusedSimpArgs false

/-- the change that is meant; none: [] -/
def tidyC (n : Int) (s : ByteArray) : List Nat := if 3 ≤ n ∧ n ≤ 8 then tidyL n.toNat (lets s) else []

theorem x_lets (s : ByteArray) : (s.toList == [120]) = decide (lets s = [120]) := beq_lets s [120] (by simp)

/-- x stands for - -/
def dash (s : ByteArray) : ByteArray := if lets s = [120] then txt [45] else s
theorem lets_dash (s : ByteArray) : lets (dash s) = dashed (lets s) := by
  unfold dash dashed
  split
  · rw [lets_txt _ (by simp)]
  · rfl

/-- the first of these that is a change; none: [] -/
def firstG (n : Nat) : List (List Nat) → List Nat
  | [] => []
  | l :: t => if goodL n l then l else firstG n t
def cands (n : Nat) (l : List Nat) : List (List Nat) := [l, l ++ [48 + n], 49 :: l, 49 :: (l ++ [48 + n])]
theorem tidyL_first (n : Nat) (l : List Nat) : tidyL n l = firstG n (cands n (dashed l)) := rfl

theorem lets_cat (a b : ByteArray) : lets (a ++ b) = lets a ++ lets b := by
  rw [← data_lets, ← data_lets, ← data_lets]
  simp
def candV (s d : ByteArray) : Array Value := #[.string s, .string (s ++ d), .string (⟨#[49]⟩ ++ s), .string (⟨#[49]⟩ ++ s ++ d)]
theorem candV_at (n : Nat) (s d : ByteArray) (hd : lets d = [48 + n]) (j : Nat) (hj : j < 4) : ∃ t : ByteArray, (candV s d)[j]? = some (.string t) ∧ (cands n (lets s))[j]? = some (lets t) ∧ t.size ≤ s.size + d.size + 1 := by
  have h1 : lets (⟨#[49]⟩ : ByteArray) = [49] := by decide
  have hc : j = 0 ∨ j = 1 ∨ j = 2 ∨ j = 3 := by omega
  rcases hc with rfl | rfl | rfl | rfl
  · exact ⟨_, rfl, rfl, by omega⟩
  · exact ⟨_, rfl, by simp [cands, lets_cat, hd], by simp⟩
  · exact ⟨_, rfl, by simp [cands, lets_cat, h1], by rw [ByteArray.size_append]; show 1 + s.size ≤ _; omega⟩
  · exact ⟨_, rfl, by simp [cands, lets_cat, hd, h1], by rw [ByteArray.size_append, ByteArray.size_append]; show 1 + s.size + d.size ≤ _; omega⟩
theorem firstG_step (n : Nat) (l : List (List Nat)) (j : Nat) (x : List Nat) (h : l[j]? = some x) : firstG n (l.drop j) = if goodL n x then x else firstG n (l.drop (j + 1)) := by
  obtain ⟨hj, rfl⟩ := List.getElem?_eq_some_iff.1 h
  rw [List.drop_eq_getElem_cons hj]
  rfl

set_option maxRecDepth 100000 in
set_option maxHeartbeats 1000000 in
theorem l3Tidy_any (n : Nat) (h3 : 3 ≤ n) (h8 : n ≤ 8) (s : ByteArray) (hs : s.size ≤ 1048576) (w : World) :
    Calls Tryd.prog 40 #[.int .i64 n, .string s] w fun e w' => e = .returned (.string (txt (tidyL n (lets s)))) ∧ Below w.heap.size w w' := by
  have HX := x_lets s
  have HT := Lib.hid (tidyL_first n (lets s))
  generalize hres : tidyL n (lets s) = res at *
  clear hres
  have hnum := l1Num_digit n (by omega)
  have HDG := Lib.hid (lets_txt [48 + n] (by intro b hb; simp at hb; omega))
  have hds : (txt [48 + n]).size ≤ 1 := by rw [txt_size]; simp
  generalize txt [48 + n] = d at *
  go_enter Tryd.func40, Tryd.ntmps40
  by_cases hx : lets s = [120]
  · have HD := Lib.hid (show dashed (lets s) = lets (⟨#[45]⟩ : ByteArray) by rw [hx]; decide)
    have hd : decide (lets s = [120]) = true := by rw [hx]; rfl
    rw [hd] at HX
    clear hx hd
    go_wp2_with fail
    obtain ⟨s', hs', hsz⟩ : ∃ s' : ByteArray, s' = ⟨#[45]⟩ ∧ s'.size ≤ 1048576 := ⟨_, rfl, by decide⟩
    rw [← hs'] at HD ⊢
    clear hs' hs HX
    refine (hnum _).mono ?_
    rintro e w1 ⟨rfl, hb1⟩
    have HB1 := Lib.hid hb1
    clear hb1
    go_wp2_with fail
    refine (hnum _).mono ?_
    rintro e w2 ⟨rfl, hb2⟩
    have HB2 := Lib.hid ((HB1.out.trans (hb2.mono HB1.out.size)).alloc (Nat.le_trans HB1.out.size hb2.size) (.cells (candV s' d) 9))
    have HR := Lib.hid (RowAt.new w2 9 (candV s' d))
    have HT2 : Hid (firstG n ((cands n (lets s')).drop 0) = res) := Lib.hid (by rw [← HD.out]; exact HT.out.symm)
    have HC : Hid (∀ j, j < 4 → _) := Lib.hid (candV_at n s' d HDG.out)
    clear hb2 HB1 HD HT hnum HDG
    go_wp2
    change Code.wp _ _ _ _ (w2.alloc (.cells (candV s' d) 9))
    generalize w2.alloc (.cells (candV s' d) 9) = w3 at *
    generalize w2.heap.size = b at *
    have HSZ := Lib.hid (show s'.size + d.size + 1 ≤ 1048580 by omega)
    clear hsz hds
    generalize s' ++ d = x1 at *
    generalize ⟨#[49]⟩ ++ s' = x2 at *
    generalize x2 ++ d = x3 at *
    go_loopg [23] 4 (fun q i wr => ∃ j : Nat, j ≤ 4 ∧ q + j = 4 ∧ i = .int .i64 j ∧ firstG n ((cands n (lets s')).drop j) = res ∧ Below w.heap.size w wr ∧ RowAt wr b 9 (candV s' d))
    case atStart => exact ⟨0, by omega, rfl, rfl, HT2.out, HB2.out, HR.out⟩
    case round =>
      clear HB2 HR HT2
      obtain ⟨j, hj, hq, rfl, hf, hb, hr⟩ := hrel
      have HF := Lib.hid hf
      have HB := Lib.hid hb
      have HR := Lib.hid hr
      clear hf hb hr
      by_cases hlt : j < 4
      · obtain ⟨t, ht1, ht2, ht3⟩ := HC.out j hlt
        have HF2 := Lib.hid ((firstG_step n _ j _ ht2).symm.trans HF.out)
        have c1 := HR.out.cell j ht1
        have hts : t.size ≤ 1048580 := Nat.le_trans ht3 HSZ.out
        have hji : (j : Int) < 4 := by omega
        clear ht1 ht2 ht3 HF
        go_wp2_with fail
        refine (l2Change_any n t (by unfold maxLen; omega) _).mono ?_
        rintro e w5 ⟨rfl, rfl⟩
        have HB5 := Lib.hid HB.out
        have HR5 := Lib.hid HR.out
        cases hg : goodL n (lets t)
        · have HF3 := HF2.out
          rw [hg] at HF3
          have HF4 := Lib.hid HF3
          clear HF3 HF2
          rw [goodC_in, hg]
          go_wp2
          go_roundg (4 - (j + 1))
          case measure => omega
          case rel => exact ⟨j + 1, by omega, by omega, by go_num, HF4.out, HB5.out, HR5.out⟩
        · have HF3 := HF2.out
          rw [hg] at HF3
          have HF4 := Lib.hid (show lets t = res from HF3)
          clear HF3 HF2
          rw [goodC_in, hg]
          go_wp2
          go_ret
          have e1 : txt res = t := by rw [← HF4.out, txt_lets]
          exact ⟨by rw [e1]; rfl, HB5.out⟩
      · obtain rfl : j = 4 := by omega
        have HF2 := Lib.hid (show [] = res from HF.out)
        clear HF
        go_wp2
        go_ret
        exact ⟨by rw [← HF2.out]; rfl, HB.out⟩
  · have HD := Lib.hid (show dashed (lets s) = lets s by unfold dashed; rw [if_neg hx])
    rw [decide_eq_false hx] at HX
    clear hx
    go_wp2_with fail
    obtain ⟨s', rfl, hsz⟩ : ∃ s' : ByteArray, s' = s ∧ s'.size ≤ 1048576 := ⟨_, rfl, hs⟩
    clear hs HX
    refine (hnum _).mono ?_
    rintro e w1 ⟨rfl, hb1⟩
    have HB1 := Lib.hid hb1
    clear hb1
    go_wp2_with fail
    refine (hnum _).mono ?_
    rintro e w2 ⟨rfl, hb2⟩
    have HB2 := Lib.hid ((HB1.out.trans (hb2.mono HB1.out.size)).alloc (Nat.le_trans HB1.out.size hb2.size) (.cells (candV s' d) 9))
    have HR := Lib.hid (RowAt.new w2 9 (candV s' d))
    have HT2 : Hid (firstG n ((cands n (lets s')).drop 0) = res) := Lib.hid (by rw [← HD.out]; exact HT.out.symm)
    have HC : Hid (∀ j, j < 4 → _) := Lib.hid (candV_at n s' d HDG.out)
    clear hb2 HB1 HD HT hnum HDG
    go_wp2
    change Code.wp _ _ _ _ (w2.alloc (.cells (candV s' d) 9))
    generalize w2.alloc (.cells (candV s' d) 9) = w3 at *
    generalize w2.heap.size = b at *
    have HSZ := Lib.hid (show s'.size + d.size + 1 ≤ 1048580 by omega)
    clear hsz hds
    generalize s' ++ d = x1 at *
    generalize ⟨#[49]⟩ ++ s' = x2 at *
    generalize x2 ++ d = x3 at *
    go_loopg [23] 4 (fun q i wr => ∃ j : Nat, j ≤ 4 ∧ q + j = 4 ∧ i = .int .i64 j ∧ firstG n ((cands n (lets s')).drop j) = res ∧ Below w.heap.size w wr ∧ RowAt wr b 9 (candV s' d))
    case atStart => exact ⟨0, by omega, rfl, rfl, HT2.out, HB2.out, HR.out⟩
    case round =>
      clear HB2 HR HT2
      obtain ⟨j, hj, hq, rfl, hf, hb, hr⟩ := hrel
      have HF := Lib.hid hf
      have HB := Lib.hid hb
      have HR := Lib.hid hr
      clear hf hb hr
      by_cases hlt : j < 4
      · obtain ⟨t, ht1, ht2, ht3⟩ := HC.out j hlt
        have HF2 := Lib.hid ((firstG_step n _ j _ ht2).symm.trans HF.out)
        have c1 := HR.out.cell j ht1
        have hts : t.size ≤ 1048580 := Nat.le_trans ht3 HSZ.out
        have hji : (j : Int) < 4 := by omega
        clear ht1 ht2 ht3 HF
        go_wp2_with fail
        refine (l2Change_any n t (by unfold maxLen; omega) _).mono ?_
        rintro e w5 ⟨rfl, rfl⟩
        have HB5 := Lib.hid HB.out
        have HR5 := Lib.hid HR.out
        cases hg : goodL n (lets t)
        · have HF3 := HF2.out
          rw [hg] at HF3
          have HF4 := Lib.hid HF3
          clear HF3 HF2
          rw [goodC_in, hg]
          go_wp2
          go_roundg (4 - (j + 1))
          case measure => omega
          case rel => exact ⟨j + 1, by omega, by omega, by go_num, HF4.out, HB5.out, HR5.out⟩
        · have HF3 := HF2.out
          rw [hg] at HF3
          have HF4 := Lib.hid (show lets t = res from HF3)
          clear HF3 HF2
          rw [goodC_in, hg]
          go_wp2
          go_ret
          have e1 : txt res = t := by rw [← HF4.out, txt_lets]
          exact ⟨by rw [e1]; rfl, HB5.out⟩
      · obtain rfl : j = 4 := by omega
        have HF2 := Lib.hid (show [] = res from HF.out)
        clear HF
        go_wp2
        go_ret
        exact ⟨by rw [← HF2.out]; rfl, HB.out⟩

/-- the change, or none -/
def TidyRes (r : List Nat) (w : World) (e : Ending) (w' : World) : Prop := e = .returned (.tuple #[.string (txt r), .bool (decide (r ≠ []))]) ∧ Below w.heap.size w w'
set_option maxRecDepth 100000 in
set_option maxHeartbeats 1000000 in
theorem iTidy_in (n : Nat) (h3 : 3 ≤ n) (h8 : n ≤ 8) (s : ByteArray) (hs : s.size ≤ 1048576) (w : World) :
    Calls Tryd.prog 14 #[.int .i64 n, .string s] w (TidyRes (tidyL n (lets s)) w) := by
  have HX := x_lets s
  have HT := Lib.hid (tidyL_first n (lets s))
  generalize hres : tidyL n (lets s) = res at *
  clear hres
  have hnum := itoa_digit n (by omega)
  have HDG := Lib.hid (lets_txt [48 + n] (by intro b hb; simp at hb; omega))
  have hds : (txt [48 + n]).size ≤ 1 := by rw [txt_size]; simp
  generalize txt [48 + n] = d at *
  go_enter Tryd.func14, Tryd.ntmps14
  by_cases hx : lets s = [120]
  · have HD := Lib.hid (show dashed (lets s) = lets (⟨#[45]⟩ : ByteArray) by rw [hx]; decide)
    have hd : decide (lets s = [120]) = true := by rw [hx]; rfl
    rw [hd] at HX
    clear hx hd
    go_wp2_with fail
    obtain ⟨s', hs', hsz⟩ : ∃ s' : ByteArray, s' = ⟨#[45]⟩ ∧ s'.size ≤ 1048576 := ⟨_, rfl, by decide⟩
    rw [← hs'] at HD ⊢
    clear hs' hs HX
    refine (hnum _).mono ?_
    rintro e w2 ⟨rfl, rfl⟩
    have HB2 := Lib.hid ((Below.refl w2.heap.size w2).alloc (Nat.le_refl _) (.cells (candV s' d) 9))
    have HR := Lib.hid (RowAt.new w2 9 (candV s' d))
    have HT2 : Hid (firstG n ((cands n (lets s')).drop 0) = res) := Lib.hid (by rw [← HD.out]; exact HT.out.symm)
    have HC : Hid (∀ j, j < 4 → _) := Lib.hid (candV_at n s' d HDG.out)
    clear HD HT hnum HDG
    go_wp2
    change Code.wp _ _ _ _ (w2.alloc (.cells (candV s' d) 9))
    generalize w2.alloc (.cells (candV s' d) 9) = w3 at *
    obtain ⟨b, hb⟩ : ∃ b, b = w2.heap.size := ⟨_, rfl⟩
    rw [← hb] at HR ⊢
    clear hb
    have HSZ := Lib.hid (show s'.size + d.size + 1 ≤ 1048580 by omega)
    clear hsz hds
    generalize s' ++ d = x1 at *
    generalize ⟨#[49]⟩ ++ s' = x2 at *
    generalize x2 ++ d = x3 at *
    go_loopg [25] 4 (fun q i wr => ∃ j : Nat, j ≤ 4 ∧ q + j = 4 ∧ i = .int .i64 j ∧ firstG n ((cands n (lets s')).drop j) = res ∧ Below w2.heap.size w2 wr ∧ RowAt wr b 9 (candV s' d))
    case atStart => exact ⟨0, by omega, rfl, rfl, HT2.out, HB2.out, HR.out⟩
    case round =>
      clear HB2 HR HT2
      obtain ⟨j, hj, hq, rfl, hf, hb, hr⟩ := hrel
      have HF := Lib.hid hf
      have HB := Lib.hid hb
      have HR := Lib.hid hr
      clear hf hb hr
      by_cases hlt : j < 4
      · obtain ⟨t, ht1, ht2, ht3⟩ := HC.out j hlt
        have HF2 := Lib.hid ((firstG_step n _ j _ ht2).symm.trans HF.out)
        have c1 := HR.out.cell j ht1
        have hts : t.size ≤ 1048580 := Nat.le_trans ht3 HSZ.out
        have hji : (j : Int) < 4 := by omega
        clear ht1 ht2 ht3 HF
        go_wp2_with fail
        refine (iGoodChange_any n t _).mono ?_
        rintro e w5 ⟨rfl, hb5⟩
        have HB5 := Lib.hid (HB.out.trans (hb5.mono HB.out.size))
        have HR5 := Lib.hid (HR.out.kept hb5)
        clear HB HR hb5
        cases hg : goodL n (lets t)
        · have HF3 := HF2.out
          rw [hg] at HF3
          have HF4 := Lib.hid HF3
          clear HF3 HF2
          rw [goodC_in, hg]
          go_wp2
          go_roundg (4 - (j + 1))
          case measure => omega
          case rel => exact ⟨j + 1, by omega, by omega, by go_num, HF4.out, HB5.out, HR5.out⟩
        · have HF3 := HF2.out
          rw [hg] at HF3
          have HF4 := Lib.hid (show lets t = res from HF3)
          clear HF3 HF2
          rw [goodC_in, hg]
          go_wp2
          go_ret2
          have e1 : txt res = t := by rw [← HF4.out, txt_lets]
          have e2 : decide (res ≠ []) = true := by rw [← HF4.out]; exact decide_eq_true (goodL_ne hg)
          exact ⟨by rw [e1, e2]; rfl, HB5.out⟩
      · obtain rfl : j = 4 := by omega
        have HF2 := Lib.hid (show [] = res from HF.out)
        clear HF
        go_wp2
        go_ret2
        exact ⟨by rw [← HF2.out]; rfl, HB.out⟩
  · have HD := Lib.hid (show dashed (lets s) = lets s by unfold dashed; rw [if_neg hx])
    rw [decide_eq_false hx] at HX
    clear hx
    go_wp2_with fail
    obtain ⟨s', rfl, hsz⟩ : ∃ s' : ByteArray, s' = s ∧ s'.size ≤ 1048576 := ⟨_, rfl, hs⟩
    clear hs HX
    refine (hnum _).mono ?_
    rintro e w2 ⟨rfl, rfl⟩
    have HB2 := Lib.hid ((Below.refl w2.heap.size w2).alloc (Nat.le_refl _) (.cells (candV s' d) 9))
    have HR := Lib.hid (RowAt.new w2 9 (candV s' d))
    have HT2 : Hid (firstG n ((cands n (lets s')).drop 0) = res) := Lib.hid (by rw [← HD.out]; exact HT.out.symm)
    have HC : Hid (∀ j, j < 4 → _) := Lib.hid (candV_at n s' d HDG.out)
    clear HD HT hnum HDG
    go_wp2
    change Code.wp _ _ _ _ (w2.alloc (.cells (candV s' d) 9))
    generalize w2.alloc (.cells (candV s' d) 9) = w3 at *
    obtain ⟨b, hb⟩ : ∃ b, b = w2.heap.size := ⟨_, rfl⟩
    rw [← hb] at HR ⊢
    clear hb
    have HSZ := Lib.hid (show s'.size + d.size + 1 ≤ 1048580 by omega)
    clear hsz hds
    generalize s' ++ d = x1 at *
    generalize ⟨#[49]⟩ ++ s' = x2 at *
    generalize x2 ++ d = x3 at *
    go_loopg [25] 4 (fun q i wr => ∃ j : Nat, j ≤ 4 ∧ q + j = 4 ∧ i = .int .i64 j ∧ firstG n ((cands n (lets s')).drop j) = res ∧ Below w2.heap.size w2 wr ∧ RowAt wr b 9 (candV s' d))
    case atStart => exact ⟨0, by omega, rfl, rfl, HT2.out, HB2.out, HR.out⟩
    case round =>
      clear HB2 HR HT2
      obtain ⟨j, hj, hq, rfl, hf, hb, hr⟩ := hrel
      have HF := Lib.hid hf
      have HB := Lib.hid hb
      have HR := Lib.hid hr
      clear hf hb hr
      by_cases hlt : j < 4
      · obtain ⟨t, ht1, ht2, ht3⟩ := HC.out j hlt
        have HF2 := Lib.hid ((firstG_step n _ j _ ht2).symm.trans HF.out)
        have c1 := HR.out.cell j ht1
        have hts : t.size ≤ 1048580 := Nat.le_trans ht3 HSZ.out
        have hji : (j : Int) < 4 := by omega
        clear ht1 ht2 ht3 HF
        go_wp2_with fail
        refine (iGoodChange_any n t _).mono ?_
        rintro e w5 ⟨rfl, hb5⟩
        have HB5 := Lib.hid (HB.out.trans (hb5.mono HB.out.size))
        have HR5 := Lib.hid (HR.out.kept hb5)
        clear HB HR hb5
        cases hg : goodL n (lets t)
        · have HF3 := HF2.out
          rw [hg] at HF3
          have HF4 := Lib.hid HF3
          clear HF3 HF2
          rw [goodC_in, hg]
          go_wp2
          go_roundg (4 - (j + 1))
          case measure => omega
          case rel => exact ⟨j + 1, by omega, by omega, by go_num, HF4.out, HB5.out, HR5.out⟩
        · have HF3 := HF2.out
          rw [hg] at HF3
          have HF4 := Lib.hid (show lets t = res from HF3)
          clear HF3 HF2
          rw [goodC_in, hg]
          go_wp2
          go_ret2
          have e1 : txt res = t := by rw [← HF4.out, txt_lets]
          have e2 : decide (res ≠ []) = true := by rw [← HF4.out]; exact decide_eq_true (goodL_ne hg)
          exact ⟨by rw [e1, e2]; rfl, HB5.out⟩
      · obtain rfl : j = 4 := by omega
        have HF2 := Lib.hid (show [] = res from HF.out)
        clear HF
        go_wp2
        go_ret2
        exact ⟨by rw [← HF2.out]; rfl, HB.out⟩
end Go.Proofs.YtdflpkkcjbdpfaaDoor
