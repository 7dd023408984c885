/- DodgesIn and PointsIn in the program: the indices. -/
import Derived.Test.YtpfnamiacagocaaE12
namespace Go.Proofs.Ytpfnamiacagocaa
open Go.RowKit
set_option linter.unusedSimpArgs false
set_option linter.unusedVariables false

set_option maxRecDepth 100000 in
set_option maxHeartbeats 1000000 in
theorem isDodge_any (v : Value) (xs : List Int) (i : Nat) (w : World) (h : Own w 3 v (ints xs)) (hl : xs.length ≤ 100000) (hi : i < xs.length) :
    Calls Try.prog 89 #[v, .int .i64 i] w fun e w' => e = .returned (.bool (isDg xs i)) ∧ ∃ d, w' = w.drewN d := by
  have H1 := Lib.hid (isPoint_any v xs i w h hl (by omega))
  have H2 : Hid (∀ d, Calls Try.prog 91 #[v, .int .i64 ((i + 1 : Nat) : Int)] (w.drewN d) fun e w' => e = .returned (.bool (isPt xs (i + 1))) ∧ ∃ d2, w' = (w.drewN d).drewN d2) := Lib.hid (fun d => isPoint_any v xs (i + 1) (w.drewN d) (h.drewN d) hl (by omega))
  have hii : (i : Int) ≤ 100000 := by omega
  have b2 : IntKind.i64.wrap ((i : Int) + 1) = ((i + 1 : Nat) : Int) := by rw [Int.natCast_add]; exact Go.IntWalk.i64_in _ ⟨by omega, by omega⟩
  unfold isDg
  generalize isPt xs (i + 1) = p2 at *
  have hv : ∃ a m c, v = .slice a m c := by
    obtain ⟨a, c, e, -⟩ := h.view
    exact ⟨a, _, c, e⟩
  obtain ⟨a, m, c, rfl⟩ := hv
  clear h
  generalize isPt xs i = p1 at *
  cases p1
  · rw [Bool.false_and]
    go_enter Try.func89, Try.ntmps89
    go_wp2_with fail
    refine H1.out.mono ?_
    rintro e w1 ⟨rfl, d1, rfl⟩
    go_wp2_with fail
    go_ret
    exact ⟨rfl, _, rfl⟩
  · rw [Bool.true_and]
    go_enter Try.func89, Try.ntmps89
    go_wp2_with fail
    refine H1.out.mono ?_
    rintro e w1 ⟨rfl, d1, rfl⟩
    go_wp2_with (first | (go_at_call 91; refine (H2.out _).mono ?_; rintro e w2 ⟨rfl, d2, rfl⟩) | fail)
    go_ret
    exact ⟨rfl, _, rfl⟩

/-- the first j indices at which T holds -/
def idxT (T : Nat → Bool) (j : Nat) : List Nat := (List.range j).filter T
theorem idxT_yes {T : Nat → Bool} {j : Nat} (h : T j = true) : idxT T (j + 1) = idxT T j ++ [j] := by simp [idxT, List.range_succ, List.filter_append, h]
theorem idxT_no {T : Nat → Bool} {j : Nat} (h : T j = false) : idxT T (j + 1) = idxT T j := by simp [idxT, List.range_succ, List.filter_append, h]
theorem idxT_len (T : Nat → Bool) (j : Nat) : (idxT T j).length ≤ j := by
  have := List.length_filter_le T (List.range j)
  simpa [idxT] using this
def whereL (T : List Int → Nat → Bool) (xs : List Int) : List Nat := if goodX xs = true then idxT (T xs) xs.length else []
theorem whereL_len (T : List Int → Nat → Bool) (xs : List Int) : (whereL T xs).length ≤ 1000 := by
  unfold whereL
  by_cases h : goodX xs = true
  · rw [if_pos h]
    have := idxT_len (T xs) xs.length
    have := goodX_len h
    omega
  · rw [if_neg h]; simp

set_option maxRecDepth 100000 in
set_option maxHeartbeats 1000000 in
theorem indexesisDodge (v : Value) (xs : List Int) (w : World) (h : Own w 3 v (ints xs)) (hl : xs.length ≤ 100000000) :
    Calls Try.prog 88 #[v, .func (.func 89) #[] #[]] w (NumsAny (whereL isDg xs) (goodX xs) w) := by
  obtain ⟨n, hn⟩ : ∃ n, xs.length = n := ⟨_, rfl⟩
  obtain ⟨a, cap, rfl, ha⟩ := h.viewI hn
  have HGP := Lib.hid (goodPath_any (.slice a n cap) xs w h hl)
  have HH := Lib.hid h
  unfold whereL
  by_cases hg : goodX xs = true
  · have h8 := goodX_len hg
    have HF : Hid (∀ i, i < n → ∀ w', Below w.heap.size w w' → Calls Try.prog 89 #[.slice a n cap, .int .i64 i] w' fun e w2 => e = .returned (.bool (isDg xs i)) ∧ ∃ d, w2 = w'.drewN d) := Lib.hid (fun i hi w' hb => isDodge_any (.slice a n cap) xs i w' (h.kept hb) (by omega) (by omega))
    rw [if_pos hg]
    rw [hg] at HGP ⊢
    have hni : (n : Int) ≤ 800 := by omega
    obtain ⟨i0, hi0, hz0, hz1, hz2⟩ := info_parts infoInt
    have I0 := Lib.hid (⟨hi0, hz0, hz1, hz2⟩ : _ ∧ _ ∧ _ ∧ _)
    rw [hn]
    generalize isDg xs = T at *
    clear h hg h8 hl ha hn hi0 hz0 hz1 hz2
    go_enter Try.func88, Try.ntmps88
    go_wp2_with (first | (go_at_call 119; refine HGP.out.mono ?_; rintro e w1 ⟨rfl, rfl⟩) | fail)
    go_loopg [6, 7, 13] n (fun q ov _ x wr => ∃ j : Nat, q + j = n ∧ x = .int .i64 j ∧ New w.heap.size wr 3 ov (nums (idxT T j)) ∧ Below w.heap.size w wr)
    case atStart => exact ⟨0, by omega, rfl, New.nil _ _ _, Below.refl _ _⟩
    case round =>
      obtain ⟨j, hq, rfl, hnw, hb⟩ := hrel
      have HN := Lib.hid hnw
      have HB := Lib.hid hb
      have hsz : w.heap.size ≤ wr.heap.size := hb.size
      have hlen : (nums (idxT T j)).length ≤ 100000 := by rw [nums_len]; have := idxT_len T j; omega
      have HLEN := Lib.hid hlen
      obtain ⟨a9, c9, hv9, -⟩ := hnw.own.view
      subst hv9
      clear hnw hb hlen
      by_cases hlt : j < n
      · have hji : (j : Int) < n := by omega
        have HC := Lib.hid (HF.out j hlt wr HB.out)
        cases ht : T j
        · have HNO := Lib.hid (idxT_no ht)
          rw [ht] at HC
          generalize idxT T j = acc at *
          clear ht
          go_wp2_with (first | (go_at_call 89; refine HC.out.mono ?_; rintro e w5 ⟨rfl, d5, rfl⟩) | fail)
          go_roundg (n - (j + 1))
          case measure => omega
          case rel => exact ⟨j + 1, by omega, by go_num, by rw [HNO.out]; exact HN.out.drewN d5, below_drewN HB.out _⟩
        · have HYES := Lib.hid (idxT_yes ht)
          rw [ht] at HC
          have HSN := Lib.hid (nums_snoc (idxT T j) j)
          generalize idxT T j = acc at *
          clear ht
          go_wp2_with (first | (go_at_call 89; refine HC.out.mono ?_; rintro e w5 ⟨rfl, d5, rfl⟩) | (at_builtin; refine wpList_app1 rfl (.tmp 20) (.tmp 22) 39 rfl 3 i0 (.int .i64 0) 8 Try.underlying39 I0.out.1 I0.out.2.1 I0.out.2.2.1 I0.out.2.2.2 rfl w.heap.size w _ _ rfl (HN.out.drewN _) rfl rfl hsz (below_drewN HB.out _) HLEN.out (by omega) ?_) | fail)
          intro v7 w7 hn7 hk7 hb7 hs7
          rw [HSN.out] at hn7
          have HN7 := Lib.hid hn7
          have HB7 := Lib.hid hb7
          clear hn7 hk7 hb7
          go_wp2
          go_roundg (n - (j + 1))
          case measure => omega
          case rel => exact ⟨j + 1, by omega, by go_num, by rw [HYES.out]; exact HN7.out, HB7.out⟩
      · obtain rfl : j = n := by omega
        go_wp2
        go_ret2
        exact ⟨_, rfl, HN.out, HB.out⟩
  · have hf : goodX xs = false := by simpa using hg
    rw [if_neg hg]
    rw [hf] at HGP ⊢
    clear h hg hl ha hn hf
    go_enter Try.func88, Try.ntmps88
    go_wp2_with (first | (go_at_call 119; refine HGP.out.mono ?_; rintro e w1 ⟨rfl, rfl⟩) | fail)
    go_ret2
    exact ⟨_, rfl, New.nil _ _ _, Below.refl _ _⟩

set_option maxHeartbeats 1000000 in
theorem iDodgesIn_any (v : Value) (xs : List Int) (w : World) (h : Own w 3 v (ints xs)) (hl : xs.length ≤ 100000000) :
    Calls Try.prog 38 #[v] w (NumsAny (whereL isDg xs) (goodX xs) w) := by
  have HC := Lib.hid (indexesisDodge v xs w h hl)
  have hv : ∃ a m c, v = .slice a m c := by
    obtain ⟨a, c, e, -⟩ := h.view
    exact ⟨a, _, c, e⟩
  obtain ⟨a, m, c, rfl⟩ := hv
  generalize whereL isDg xs = res at *
  generalize goodX xs = gb at *
  clear h hl
  go_enter Try.func38, Try.ntmps38
  go_wp2_with fail
  refine HC.out.mono ?_
  rintro e w1 ⟨v1, rfl, hn1, hb1⟩
  go_wp2
  go_ret2
  exact ⟨_, rfl, hn1, hb1⟩

set_option maxRecDepth 100000 in
set_option maxHeartbeats 1000000 in
theorem indexesisPoint (v : Value) (xs : List Int) (w : World) (h : Own w 3 v (ints xs)) (hl : xs.length ≤ 100000000) :
    Calls Try.prog 88 #[v, .func (.func 91) #[] #[]] w (NumsAny (whereL isPt xs) (goodX xs) w) := by
  obtain ⟨n, hn⟩ : ∃ n, xs.length = n := ⟨_, rfl⟩
  obtain ⟨a, cap, rfl, ha⟩ := h.viewI hn
  have HGP := Lib.hid (goodPath_any (.slice a n cap) xs w h hl)
  have HH := Lib.hid h
  unfold whereL
  by_cases hg : goodX xs = true
  · have h8 := goodX_len hg
    have HF : Hid (∀ i, i < n → ∀ w', Below w.heap.size w w' → Calls Try.prog 91 #[.slice a n cap, .int .i64 i] w' fun e w2 => e = .returned (.bool (isPt xs i)) ∧ ∃ d, w2 = w'.drewN d) := Lib.hid (fun i hi w' hb => isPoint_any (.slice a n cap) xs i w' (h.kept hb) (by omega) (by omega))
    rw [if_pos hg]
    rw [hg] at HGP ⊢
    have hni : (n : Int) ≤ 800 := by omega
    obtain ⟨i0, hi0, hz0, hz1, hz2⟩ := info_parts infoInt
    have I0 := Lib.hid (⟨hi0, hz0, hz1, hz2⟩ : _ ∧ _ ∧ _ ∧ _)
    rw [hn]
    generalize isPt xs = T at *
    clear h hg h8 hl ha hn hi0 hz0 hz1 hz2
    go_enter Try.func88, Try.ntmps88
    go_wp2_with (first | (go_at_call 119; refine HGP.out.mono ?_; rintro e w1 ⟨rfl, rfl⟩) | fail)
    go_loopg [6, 7, 13] n (fun q ov _ x wr => ∃ j : Nat, q + j = n ∧ x = .int .i64 j ∧ New w.heap.size wr 3 ov (nums (idxT T j)) ∧ Below w.heap.size w wr)
    case atStart => exact ⟨0, by omega, rfl, New.nil _ _ _, Below.refl _ _⟩
    case round =>
      obtain ⟨j, hq, rfl, hnw, hb⟩ := hrel
      have HN := Lib.hid hnw
      have HB := Lib.hid hb
      have hsz : w.heap.size ≤ wr.heap.size := hb.size
      have hlen : (nums (idxT T j)).length ≤ 100000 := by rw [nums_len]; have := idxT_len T j; omega
      have HLEN := Lib.hid hlen
      obtain ⟨a9, c9, hv9, -⟩ := hnw.own.view
      subst hv9
      clear hnw hb hlen
      by_cases hlt : j < n
      · have hji : (j : Int) < n := by omega
        have HC := Lib.hid (HF.out j hlt wr HB.out)
        cases ht : T j
        · have HNO := Lib.hid (idxT_no ht)
          rw [ht] at HC
          generalize idxT T j = acc at *
          clear ht
          go_wp2_with (first | (go_at_call 91; refine HC.out.mono ?_; rintro e w5 ⟨rfl, d5, rfl⟩) | fail)
          go_roundg (n - (j + 1))
          case measure => omega
          case rel => exact ⟨j + 1, by omega, by go_num, by rw [HNO.out]; exact HN.out.drewN d5, below_drewN HB.out _⟩
        · have HYES := Lib.hid (idxT_yes ht)
          rw [ht] at HC
          have HSN := Lib.hid (nums_snoc (idxT T j) j)
          generalize idxT T j = acc at *
          clear ht
          go_wp2_with (first | (go_at_call 91; refine HC.out.mono ?_; rintro e w5 ⟨rfl, d5, rfl⟩) | (at_builtin; refine wpList_app1 rfl (.tmp 20) (.tmp 22) 39 rfl 3 i0 (.int .i64 0) 8 Try.underlying39 I0.out.1 I0.out.2.1 I0.out.2.2.1 I0.out.2.2.2 rfl w.heap.size w _ _ rfl (HN.out.drewN _) rfl rfl hsz (below_drewN HB.out _) HLEN.out (by omega) ?_) | fail)
          intro v7 w7 hn7 hk7 hb7 hs7
          rw [HSN.out] at hn7
          have HN7 := Lib.hid hn7
          have HB7 := Lib.hid hb7
          clear hn7 hk7 hb7
          go_wp2
          go_roundg (n - (j + 1))
          case measure => omega
          case rel => exact ⟨j + 1, by omega, by go_num, by rw [HYES.out]; exact HN7.out, HB7.out⟩
      · obtain rfl : j = n := by omega
        go_wp2
        go_ret2
        exact ⟨_, rfl, HN.out, HB.out⟩
  · have hf : goodX xs = false := by simpa using hg
    rw [if_neg hg]
    rw [hf] at HGP ⊢
    clear h hg hl ha hn hf
    go_enter Try.func88, Try.ntmps88
    go_wp2_with (first | (go_at_call 119; refine HGP.out.mono ?_; rintro e w1 ⟨rfl, rfl⟩) | fail)
    go_ret2
    exact ⟨_, rfl, New.nil _ _ _, Below.refl _ _⟩

set_option maxHeartbeats 1000000 in
theorem iPointsIn_any (v : Value) (xs : List Int) (w : World) (h : Own w 3 v (ints xs)) (hl : xs.length ≤ 100000000) :
    Calls Try.prog 40 #[v] w (NumsAny (whereL isPt xs) (goodX xs) w) := by
  have HC := Lib.hid (indexesisPoint v xs w h hl)
  have hv : ∃ a m c, v = .slice a m c := by
    obtain ⟨a, c, e, -⟩ := h.view
    exact ⟨a, _, c, e⟩
  obtain ⟨a, m, c, rfl⟩ := hv
  generalize whereL isPt xs = res at *
  generalize goodX xs = gb at *
  clear h hl
  go_enter Try.func40, Try.ntmps40
  go_wp2_with fail
  refine HC.out.mono ?_
  rintro e w1 ⟨v1, rfl, hn1, hb1⟩
  go_wp2
  go_ret2
  exact ⟨_, rfl, hn1, hb1⟩
end Go.Proofs.Ytpfnamiacagocaa
