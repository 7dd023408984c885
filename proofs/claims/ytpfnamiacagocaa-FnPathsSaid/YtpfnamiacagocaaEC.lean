/- DodgesIn and PointsIn in the program. DodgesIn and PointsIn in the program: the indices. -/
import Derived.Test.YtpfnamiacagocaaK3
import Derived.OwnWalk
namespace Go.Proofs.Ytpfnamiacagocaa
open Go.RowKit
set_option linter.unusedSimpArgs false
set_option linter.unusedVariables false

/-- a slice made by the walk is one of the call's own -/
theorem New.of_owns {B n : Nat} {W : World} {e : TypeId} {v : Value} {xs : List Value} (h : W.ownsRow B e 1 v n xs) (hl : xs.length = n) : New B W e v xs := by
  subst hl
  obtain ⟨h1, h2⟩ := h
  rcases h2 with h0 | ⟨g, cap, cur, rfl, hbg, hr⟩
  · refine ⟨⟨h1, .inl h0⟩, fun g hg => ?_⟩
    rw [h0.1] at hg
    simp [Value.ownBlock] at hg
  · refine ⟨⟨h1, .inr ⟨g, cap, cur, rfl, Nat.zero_le _, hr⟩⟩, fun k hk => ?_⟩
    have e : g = k := by simpa [Value.ownBlock] using hk
    omega
/-- the number at a place, 0 behind the end -/
def gx (xs : List Int) (i : Nat) : Int := xs.getD i 0
theorem gx_at {xs : List Int} {i : Nat} (hi : i < xs.length) : (ints xs)[i]? = some (.int .i64 (gx xs i)) := by simp [ints, gx, List.getD_eq_getElem?_getD, hi]
/-- the place is one, and one at most from the one before -/
def okAt (xs : List Int) (i : Nat) : Bool := (decide (1 ≤ gx xs i) && decide (gx xs i ≤ 8)) && (i == 0 || (decide (gx xs i ≤ gx xs (i - 1) + 1) && decide (gx xs (i - 1) - 1 ≤ gx xs i)))
def goodX (xs : List Int) : Bool := decide (xs.length ≤ 800) && (List.range xs.length).all (okAt xs)
theorem goodX_long {xs : List Int} (h : 800 < xs.length) : goodX xs = false := by simp [goodX, show ¬ xs.length ≤ 800 by omega]
theorem goodX_no {xs : List Int} {i : Nat} (hi : i < xs.length) (h : okAt xs i = false) : goodX xs = false := by
  unfold goodX
  have : (List.range xs.length).all (okAt xs) = false := by
    rw [List.all_eq_false]
    exact ⟨i, List.mem_range.2 hi, by simp [h]⟩
  rw [this, Bool.and_false]
theorem goodX_yes {xs : List Int} (h8 : xs.length ≤ 800) (h : ∀ i, i < xs.length → okAt xs i = true) : goodX xs = true := by
  unfold goodX
  rw [Bool.and_eq_true]
  exact ⟨by simpa using h8, by rw [List.all_eq_true]; exact fun i hi => h i (List.mem_range.1 hi)⟩
theorem goodX_len {xs : List Int} (h : goodX xs = true) : xs.length ≤ 800 := by
  unfold goodX at h
  rw [Bool.and_eq_true] at h
  simpa using h.1
theorem goodX_at {xs : List Int} (h : goodX xs = true) {i : Nat} (hi : i < xs.length) : okAt xs i = true := by
  unfold goodX at h
  rw [Bool.and_eq_true, List.all_eq_true] at h
  exact h.2 i (List.mem_range.2 hi)
theorem okAt_one {xs : List Int} {i : Nat} (h : okAt xs i = true) : 1 ≤ gx xs i ∧ gx xs i ≤ 8 := by
  unfold okAt at h
  simp only [Bool.and_eq_true, decide_eq_true_eq] at h
  exact h.1
theorem okAt_low {xs : List Int} {i : Nat} (h : gx xs i < 1) : okAt xs i = false := by simp [okAt, show ¬ 1 ≤ gx xs i by omega]
theorem okAt_high {xs : List Int} {i : Nat} (h : 8 < gx xs i) : okAt xs i = false := by simp [okAt, show ¬ gx xs i ≤ 8 by omega]
theorem okAt_up {xs : List Int} {i : Nat} (h : gx xs i + 1 < gx xs (i + 1)) : okAt xs (i + 1) = false := by
  unfold okAt
  rw [Nat.add_sub_cancel]
  simp [show ¬ gx xs (i + 1) ≤ gx xs i + 1 by omega]
theorem okAt_down {xs : List Int} {i : Nat} (h : gx xs (i + 1) < gx xs i - 1) : okAt xs (i + 1) = false := by
  unfold okAt
  rw [Nat.add_sub_cancel]
  simp [show ¬ gx xs i - 1 ≤ gx xs (i + 1) by omega]
theorem okAt_first {xs : List Int} (h1 : 1 ≤ gx xs 0) (h2 : gx xs 0 ≤ 8) : okAt xs 0 = true := by simp [okAt, h1, h2]
theorem okAt_next {xs : List Int} {i : Nat} (h1 : 1 ≤ gx xs (i + 1)) (h2 : gx xs (i + 1) ≤ 8) (h3 : gx xs (i + 1) ≤ gx xs i + 1) (h4 : gx xs i - 1 ≤ gx xs (i + 1)) : okAt xs (i + 1) = true := by
  unfold okAt
  rw [Nat.add_sub_cancel]
  simp [h1, h2, h3, h4]

set_option maxRecDepth 100000 in
set_option maxHeartbeats 1000000 in
theorem goodPath_any (v : Value) (xs : List Int) (w : World) (h : Own w 3 v (ints xs)) (hl : xs.length ≤ 100000000) :
    Calls Try.prog 119 #[v] w fun e w' => e = .returned (.bool (goodX xs)) ∧ w = w' := by
  obtain ⟨n, hn⟩ : ∃ n, xs.length = n := ⟨_, rfl⟩
  obtain ⟨a, cap, rfl, ha⟩ := h.viewI hn
  have HO := Lib.hid h
  have HA := Lib.hid ha
  have HN := Lib.hid hn
  obtain ⟨res, hres⟩ : ∃ b, goodX xs = b := ⟨_, rfl⟩
  rw [hres]
  have HRES := Lib.hid hres
  have hni : (n : Int) ≤ 100000000 := by omega
  clear h ha hres hl
  by_cases hbig : 800 < n
  · have hbi : (800 : Int) < n := by omega
    have hr : res = false := by rw [← HRES.out]; exact goodX_long (by omega)
    subst hr
    clear hn
    go_enter Try.func119, Try.ntmps119
    go_wp2
    go_ret
    exact ⟨rfl, rfl⟩
  · have hbi : ¬ (800 : Int) < n := by omega
    clear hn
    go_enter Try.func119, Try.ntmps119
    go_wp2
    go_loopg [3, 4, 10] n (fun q _ _ x wr => ∃ j : Nat, q + j = n ∧ x = .int .i64 j ∧ (∀ k, k < j → okAt xs k = true) ∧ w = wr)
    case atStart => exact ⟨0, by omega, rfl, fun k hk => absurd hk (by omega), rfl⟩
    case round =>
      obtain ⟨j, hq, rfl, hok, rfl⟩ := hrel
      have HOK := Lib.hid hok
      clear hok
      by_cases hlt : j < n
      · have hjx : j < xs.length := by rw [HN.out]; exact hlt
        have hji : (j : Int) < n := by omega
        obtain ⟨g, rfl⟩ := HA.out (by omega)
        have c1 := HO.out.cell j _ (gx_at hjx)
        have HNO : Hid (okAt xs j = false → res = false) := Lib.hid (fun h => by rw [← HRES.out]; exact goodX_no hjx h)
        by_cases h1 : gx xs j < 1
        · have hr := HNO.out (okAt_low h1)
          subst hr
          generalize gx xs j = x0 at *
          go_wp2
          go_ret
          exact ⟨rfl, rfl⟩
        · by_cases h8 : 8 < gx xs j
          · have hr := HNO.out (okAt_high h8)
            subst hr
            generalize gx xs j = x0 at *
            go_wp2
            go_ret
            exact ⟨rfl, rfl⟩
          · by_cases hj0 : j = 0
            · subst hj0
              have HY := Lib.hid (okAt_first (xs := xs) (by omega) (by omega))
              generalize gx xs 0 = x0 at *
              go_wp2
              go_roundg (n - 1)
              case measure => omega
              case rel => exact ⟨1, by omega, by go_num, fun k hk => by rw [show k = 0 by omega]; exact HY.out, rfl⟩
            · obtain ⟨i, rfl⟩ : ∃ i, j = i + 1 := ⟨j - 1, by omega⟩
              have c2 := HO.out.cell i _ (gx_at (xs := xs) (i := i) (by omega))
              have hb := okAt_one (HOK.out i (by omega))
              have HU := Lib.hid (okAt_up (xs := xs) (i := i))
              have HD := Lib.hid (okAt_down (xs := xs) (i := i))
              have HX := Lib.hid (okAt_next (xs := xs) (i := i))
              have b4 : IntKind.i64.wrap ((i : Int) + 1 - 1) = (i : Int) := by rw [Int.add_sub_cancel]; exact Go.IntWalk.i64_in _ ⟨by omega, by omega⟩
              have hpos : (0 : Int) < (i : Int) + 1 := by omega
              have hi0 : (0 : Int) ≤ (i : Int) := by omega
              have hin : (i : Int) < n := by omega
              generalize gx xs (i + 1) = x1 at *
              generalize gx xs i = x0 at *
              have b5 : IntKind.i64.wrap (x0 + 1) = x0 + 1 := Go.IntWalk.i64_in _ ⟨by omega, by omega⟩
              have b6 : IntKind.i64.wrap (x0 - 1) = x0 - 1 := Go.IntWalk.i64_in _ ⟨by omega, by omega⟩
              by_cases hup : x0 + 1 < x1
              · have hr := HNO.out (HU.out hup)
                subst hr
                go_wp2
                go_ret
                exact ⟨rfl, rfl⟩
              · by_cases hdn : x1 < x0 - 1
                · have hr := HNO.out (HD.out hdn)
                  subst hr
                  go_wp2
                  go_ret
                  exact ⟨rfl, rfl⟩
                · have HY := Lib.hid (HX.out (by omega) (by omega) (by omega) (by omega))
                  go_wp2
                  go_roundg (n - (i + 1 + 1))
                  case measure => omega
                  case rel => exact ⟨i + 1 + 1, by omega, by go_num, fun k hk => by
                    by_cases e : k = i + 1
                    · subst e; exact HY.out
                    · exact HOK.out k (by omega), rfl⟩
      · obtain rfl : j = n := by omega
        have hr : res = true := by rw [← HRES.out]; exact goodX_yes (by rw [HN.out]; omega) (fun i hi => HOK.out i (by rw [HN.out] at hi; exact hi))
        subst hr
        go_wp2
        go_ret
        exact ⟨rfl, rfl⟩

/-- a point; a dodge -/
def isPt (xs : List Int) (i : Nat) : Bool := decide (0 < i) && decide (i + 1 < xs.length) && (gx xs (i - 1) == gx xs (i + 1)) && !(gx xs (i - 1) == gx xs i)
def isDg (xs : List Int) (i : Nat) : Bool := isPt xs i && isPt xs (i + 1)

set_option maxRecDepth 100000 in
set_option maxHeartbeats 1000000 in
theorem isPoint_any (v : Value) (xs : List Int) (i : Nat) (w : World) (h : Own w 3 v (ints xs)) (hl : xs.length ≤ 100000) (hi : i ≤ xs.length) :
    Calls Try.prog 91 #[v, .int .i64 i] w fun e w' => e = .returned (.bool (isPt xs i)) ∧ ∃ d, w' = w.drewN d := by
  obtain ⟨n, hn⟩ : ∃ n, xs.length = n := ⟨_, rfl⟩
  obtain ⟨a, cap, rfl, ha⟩ := h.viewI hn
  have HO := Lib.hid h
  have HA := Lib.hid ha
  have HN := Lib.hid hn
  have hni : (n : Int) ≤ 100000 := by omega
  rw [hn] at hi
  have hii : (i : Int) ≤ n := by omega
  by_cases h0 : i = 0
  · subst h0
    have hr : isPt xs 0 = false := by simp [isPt]
    rw [hr]
    clear h ha hl hn
    go_enter Try.func91, Try.ntmps91
    go_wp2
    go_quiet (fail)
    go_wp2
    go_ret
    exact ⟨rfl, _, rfl⟩
  · obtain ⟨k, rfl⟩ : ∃ k, i = k + 1 := ⟨i - 1, by omega⟩
    have g0 : decide ((0 : Int) < (k : Int) + 1) = true := by rw [decide_eq_true_eq]; omega
    have b2 : IntKind.i64.wrap ((k : Int) + 1 + 1) = (k : Int) + 1 + 1 := Go.IntWalk.i64_in _ ⟨by omega, by omega⟩
    have hki : (k : Int) + 1 ≤ n := by omega
    by_cases h2 : k + 2 < n
    · have g1 : decide ((k : Int) + 1 + 1 < (n : Int)) = true := by rw [decide_eq_true_eq]; omega
      obtain ⟨g, rfl⟩ := ha (by omega)
      have c0 := h.cell k _ (gx_at (xs := xs) (i := k) (by omega))
      have c1 := h.cell (k + 1) _ (gx_at (xs := xs) (i := k + 1) (by omega))
      have c2 := h.cell (k + 1 + 1) _ (gx_at (xs := xs) (i := k + 1 + 1) (by omega))
      have hr : isPt xs (k + 1) = ((gx xs k == gx xs (k + 1 + 1)) && !(gx xs k == gx xs (k + 1))) := by
        unfold isPt
        rw [Nat.add_sub_cancel]
        simp [hn, show k + 1 + 1 < n by omega]
      rw [hr]
      have b4 : IntKind.i64.wrap ((k : Int) + 1 - 1) = (k : Int) := by rw [Int.add_sub_cancel]; exact Go.IntWalk.i64_in _ ⟨by omega, by omega⟩
      have i0 : (0 : Int) ≤ (k : Int) := by omega
      have i1 : (k : Int) < n := by omega
      have i2 : (0 : Int) ≤ (k : Int) + 1 := by omega
      have i3 : (k : Int) + 1 < n := by omega
      have i4 : (0 : Int) ≤ (k : Int) + 1 + 1 := by omega
      have i5 : (k : Int) + 1 + 1 < n := by omega
      generalize gx xs (k + 1 + 1) = x2 at *
      generalize gx xs (k + 1) = x1 at *
      generalize gx xs k = x0 at *
      clear h ha hl hn hr h0
      cases e1 : (x0 == x2)
      · rw [Bool.false_and]
        go_enter Try.func91, Try.ntmps91
        go_wp2
        go_quiet (fail)
        go_wp2
        go_ret
        exact ⟨rfl, _, rfl⟩
      · cases e2 : (x0 == x1)
        · rw [show (true && !false) = true from rfl]
          go_enter Try.func91, Try.ntmps91
          go_wp2
          go_quiet (fail)
          go_wp2
          go_ret
          exact ⟨by show Ending.returned (Value.bool (x0 != x1)) = _; rw [bne, e2]; rfl, _, rfl⟩
        · rw [show (true && !true) = false from rfl]
          go_enter Try.func91, Try.ntmps91
          go_wp2
          go_quiet (fail)
          go_wp2
          go_ret
          exact ⟨by show Ending.returned (Value.bool (x0 != x1)) = _; rw [bne, e2]; rfl, _, rfl⟩
    · have g1 : decide ((k : Int) + 1 + 1 < (n : Int)) = false := by rw [decide_eq_false_iff_not]; omega
      have hr : isPt xs (k + 1) = false := by simp [isPt, hn, show ¬ k + 1 + 1 < n by omega]
      rw [hr]
      clear h ha hl hn h0
      go_enter Try.func91, Try.ntmps91
      go_wp2
      go_quiet (fail)
      go_wp2
      go_ret
      exact ⟨rfl, _, rfl⟩
end Go.Proofs.Ytpfnamiacagocaa
namespace Go.Proofs.Ytpfnamiacagocaa
open Go.RowKit
set_option linter.unusedSimpArgs false
set_option linter.unusedVariables false

set_option maxRecDepth 100000 in
set_option maxHeartbeats 1000000 in
theorem isDodge_any (v : Value) (xs : List Int) (i : Nat) (w : World) (h : Own w 3 v (ints xs)) (hl : xs.length ≤ 100000) (hi : i < xs.length) :
    Calls Try.prog 89 #[v, .int .i64 i] w fun e w' => e = .returned (.bool (isDg xs i)) ∧ ∃ d, w' = w.drewN d := by
  have H1 := Lib.hid (isPoint_any v xs i w h hl (by omega))
  have H2 : Hid (∀ d, Calls Try.prog 91 #[v, .int .i64 ((i + 1 : Nat) : Int)] (w.drewN d) fun e w' => e = .returned (.bool (isPt xs (i + 1))) ∧ ∃ d2, w' = (w.drewN d).drewN d2) := Lib.hid (fun d => isPoint_any v xs (i + 1) (w.drewN d) (h.drewN d) hl (by omega))
  have hii : (i : Int) ≤ 100000 := by omega
  have b2 : IntKind.i64.wrap ((i : Int) + 1) = ((i + 1 : Nat) : Int) := by rw [Int.natCast_add]; exact Go.IntWalk.i64_in _ ⟨by omega, by omega⟩
  unfold isDg
  generalize isPt xs (i + 1) = p2 at *
  have hv : ∃ a m c, v = .slice a m c := by
    obtain ⟨a, c, e, -⟩ := h.view
    exact ⟨a, _, c, e⟩
  obtain ⟨a, m, c, rfl⟩ := hv
  clear h
  generalize isPt xs i = p1 at *
  cases p1
  · rw [Bool.false_and]
    go_enter Try.func89, Try.ntmps89
    go_wp2_with fail
    refine H1.out.mono ?_
    rintro e w1 ⟨rfl, d1, rfl⟩
    go_wp2_with fail
    go_ret
    exact ⟨rfl, _, rfl⟩
  · rw [Bool.true_and]
    go_enter Try.func89, Try.ntmps89
    go_wp2_with fail
    refine H1.out.mono ?_
    rintro e w1 ⟨rfl, d1, rfl⟩
    go_wp2_with (first | (go_at_call 91; refine (H2.out _).mono ?_; rintro e w2 ⟨rfl, d2, rfl⟩) | fail)
    go_ret
    exact ⟨rfl, _, rfl⟩

/-- the first j indices at which T holds -/
def idxT (T : Nat → Bool) (j : Nat) : List Nat := (List.range j).filter T
theorem idxT_yes {T : Nat → Bool} {j : Nat} (h : T j = true) : idxT T (j + 1) = idxT T j ++ [j] := by simp [idxT, List.range_succ, List.filter_append, h]
theorem idxT_no {T : Nat → Bool} {j : Nat} (h : T j = false) : idxT T (j + 1) = idxT T j := by simp [idxT, List.range_succ, List.filter_append, h]
theorem idxT_len (T : Nat → Bool) (j : Nat) : (idxT T j).length ≤ j := by
  have := List.length_filter_le T (List.range j)
  simpa [idxT] using this
def whereL (T : List Int → Nat → Bool) (xs : List Int) : List Nat := if goodX xs = true then idxT (T xs) xs.length else []
theorem whereL_len (T : List Int → Nat → Bool) (xs : List Int) : (whereL T xs).length ≤ 1000 := by
  unfold whereL
  by_cases h : goodX xs = true
  · rw [if_pos h]
    have := idxT_len (T xs) xs.length
    have := goodX_len h
    omega
  · rw [if_neg h]; simp

set_option maxRecDepth 100000 in
set_option maxHeartbeats 1000000 in
theorem indexesisDodge (v : Value) (xs : List Int) (w : World) (h : Own w 3 v (ints xs)) (hl : xs.length ≤ 100000000) :
    Calls Try.prog 88 #[v, .func (.func 89) #[] #[]] w (NumsAny (whereL isDg xs) (goodX xs) w) := by
  obtain ⟨n, hn⟩ : ∃ n, xs.length = n := ⟨_, rfl⟩
  obtain ⟨a, cap, rfl, ha⟩ := h.viewI hn
  have HGP := Lib.hid (goodPath_any (.slice a n cap) xs w h hl)
  have HH := Lib.hid h
  unfold whereL
  by_cases hg : goodX xs = true
  · have h8 := goodX_len hg
    have HF : Hid (∀ i, i < n → ∀ w', Below w.heap.size w w' → Calls Try.prog 89 #[.slice a n cap, .int .i64 i] w' fun e w2 => e = .returned (.bool (isDg xs i)) ∧ ∃ d, w2 = w'.drewN d) := Lib.hid (fun i hi w' hb => isDodge_any (.slice a n cap) xs i w' (h.kept hb) (by omega) (by omega))
    rw [if_pos hg]
    rw [hg] at HGP ⊢
    have hni : (n : Int) ≤ 800 := by omega
    obtain ⟨i0, hi0, hz0, hz1, hz2⟩ := info_parts infoInt
    have I0 := Lib.hid (⟨hi0, hz0, hz1, hz2⟩ : _ ∧ _ ∧ _ ∧ _)
    rw [hn]
    generalize isDg xs = T at *
    clear h hg h8 hl ha hn hi0 hz0 hz1 hz2
    go_enter Try.func88, Try.ntmps88
    go_wp2_with (first | (go_at_call 119; refine HGP.out.mono ?_; rintro e w1 ⟨rfl, rfl⟩) | fail)
    go_loopg [6, 7, 13] n (fun q ov _ x wr => ∃ j : Nat, q + j = n ∧ x = .int .i64 j ∧ New w.heap.size wr 3 ov (nums (idxT T j)) ∧ Below w.heap.size w wr)
    case atStart => exact ⟨0, by omega, rfl, New.nil _ _ _, Below.refl _ _⟩
    case round =>
      obtain ⟨j, hq, rfl, hnw, hb⟩ := hrel
      have HN := Lib.hid hnw
      have HB := Lib.hid hb
      have hsz : w.heap.size ≤ wr.heap.size := hb.size
      have hlen : (nums (idxT T j)).length ≤ 100000 := by rw [nums_len]; have := idxT_len T j; omega
      have HLEN := Lib.hid hlen
      obtain ⟨a9, c9, hv9, -⟩ := hnw.own.view
      subst hv9
      clear hnw hb hlen
      by_cases hlt : j < n
      · have hji : (j : Int) < n := by omega
        have HC := Lib.hid (HF.out j hlt wr HB.out)
        cases ht : T j
        · have HNO := Lib.hid (idxT_no ht)
          rw [ht] at HC
          generalize idxT T j = acc at *
          clear ht
          go_wp2_with (first | (go_at_call 89; refine HC.out.mono ?_; rintro e w5 ⟨rfl, d5, rfl⟩) | fail)
          go_roundg (n - (j + 1))
          case measure => omega
          case rel => exact ⟨j + 1, by omega, by go_num, by rw [HNO.out]; exact HN.out.drewN d5, below_drewN HB.out _⟩
        · have HYES := Lib.hid (idxT_yes ht)
          rw [ht] at HC
          have HSN := Lib.hid (nums_snoc (idxT T j) j)
          generalize idxT T j = acc at *
          clear ht
          go_wp2_with (first | (go_at_call 89; refine HC.out.mono ?_; rintro e w5 ⟨rfl, d5, rfl⟩) | (at_builtin; refine wpList_app1 rfl (.tmp 20) (.tmp 22) 39 rfl 3 i0 (.int .i64 0) 8 Try.underlying39 I0.out.1 I0.out.2.1 I0.out.2.2.1 I0.out.2.2.2 rfl w.heap.size w _ _ rfl (HN.out.drewN _) rfl rfl hsz (below_drewN HB.out _) HLEN.out (by omega) ?_) | fail)
          intro v7 w7 hn7 hk7 hb7 hs7
          rw [HSN.out] at hn7
          have HN7 := Lib.hid hn7
          have HB7 := Lib.hid hb7
          clear hn7 hk7 hb7
          go_wp2
          go_roundg (n - (j + 1))
          case measure => omega
          case rel => exact ⟨j + 1, by omega, by go_num, by rw [HYES.out]; exact HN7.out, HB7.out⟩
      · obtain rfl : j = n := by omega
        go_wp2
        go_ret2
        exact ⟨_, rfl, HN.out, HB.out⟩
  · have hf : goodX xs = false := by simpa using hg
    rw [if_neg hg]
    rw [hf] at HGP ⊢
    clear h hg hl ha hn hf
    go_enter Try.func88, Try.ntmps88
    go_wp2_with (first | (go_at_call 119; refine HGP.out.mono ?_; rintro e w1 ⟨rfl, rfl⟩) | fail)
    go_ret2
    exact ⟨_, rfl, New.nil _ _ _, Below.refl _ _⟩

set_option maxHeartbeats 1000000 in
theorem iDodgesIn_any (v : Value) (xs : List Int) (w : World) (h : Own w 3 v (ints xs)) (hl : xs.length ≤ 100000000) :
    Calls Try.prog 38 #[v] w (NumsAny (whereL isDg xs) (goodX xs) w) := by
  have HC := Lib.hid (indexesisDodge v xs w h hl)
  have hv : ∃ a m c, v = .slice a m c := by
    obtain ⟨a, c, e, -⟩ := h.view
    exact ⟨a, _, c, e⟩
  obtain ⟨a, m, c, rfl⟩ := hv
  generalize whereL isDg xs = res at *
  generalize goodX xs = gb at *
  clear h hl
  go_enter Try.func38, Try.ntmps38
  go_wp2_with fail
  refine HC.out.mono ?_
  rintro e w1 ⟨v1, rfl, hn1, hb1⟩
  go_wp2
  go_ret2
  exact ⟨_, rfl, hn1, hb1⟩

set_option maxRecDepth 100000 in
set_option maxHeartbeats 1000000 in
theorem indexesisPoint (v : Value) (xs : List Int) (w : World) (h : Own w 3 v (ints xs)) (hl : xs.length ≤ 100000000) :
    Calls Try.prog 88 #[v, .func (.func 91) #[] #[]] w (NumsAny (whereL isPt xs) (goodX xs) w) := by
  obtain ⟨n, hn⟩ : ∃ n, xs.length = n := ⟨_, rfl⟩
  obtain ⟨a, cap, rfl, ha⟩ := h.viewI hn
  have HGP := Lib.hid (goodPath_any (.slice a n cap) xs w h hl)
  have HH := Lib.hid h
  unfold whereL
  by_cases hg : goodX xs = true
  · have h8 := goodX_len hg
    have HF : Hid (∀ i, i < n → ∀ w', Below w.heap.size w w' → Calls Try.prog 91 #[.slice a n cap, .int .i64 i] w' fun e w2 => e = .returned (.bool (isPt xs i)) ∧ ∃ d, w2 = w'.drewN d) := Lib.hid (fun i hi w' hb => isPoint_any (.slice a n cap) xs i w' (h.kept hb) (by omega) (by omega))
    rw [if_pos hg]
    rw [hg] at HGP ⊢
    have hni : (n : Int) ≤ 800 := by omega
    obtain ⟨i0, hi0, hz0, hz1, hz2⟩ := info_parts infoInt
    have I0 := Lib.hid (⟨hi0, hz0, hz1, hz2⟩ : _ ∧ _ ∧ _ ∧ _)
    rw [hn]
    generalize isPt xs = T at *
    clear h hg h8 hl ha hn hi0 hz0 hz1 hz2
    go_enter Try.func88, Try.ntmps88
    go_wp2_with (first | (go_at_call 119; refine HGP.out.mono ?_; rintro e w1 ⟨rfl, rfl⟩) | fail)
    go_loopg [6, 7, 13] n (fun q ov _ x wr => ∃ j : Nat, q + j = n ∧ x = .int .i64 j ∧ New w.heap.size wr 3 ov (nums (idxT T j)) ∧ Below w.heap.size w wr)
    case atStart => exact ⟨0, by omega, rfl, New.nil _ _ _, Below.refl _ _⟩
    case round =>
      obtain ⟨j, hq, rfl, hnw, hb⟩ := hrel
      have HN := Lib.hid hnw
      have HB := Lib.hid hb
      have hsz : w.heap.size ≤ wr.heap.size := hb.size
      have hlen : (nums (idxT T j)).length ≤ 100000 := by rw [nums_len]; have := idxT_len T j; omega
      have HLEN := Lib.hid hlen
      obtain ⟨a9, c9, hv9, -⟩ := hnw.own.view
      subst hv9
      clear hnw hb hlen
      by_cases hlt : j < n
      · have hji : (j : Int) < n := by omega
        have HC := Lib.hid (HF.out j hlt wr HB.out)
        cases ht : T j
        · have HNO := Lib.hid (idxT_no ht)
          rw [ht] at HC
          generalize idxT T j = acc at *
          clear ht
          go_wp2_with (first | (go_at_call 91; refine HC.out.mono ?_; rintro e w5 ⟨rfl, d5, rfl⟩) | fail)
          go_roundg (n - (j + 1))
          case measure => omega
          case rel => exact ⟨j + 1, by omega, by go_num, by rw [HNO.out]; exact HN.out.drewN d5, below_drewN HB.out _⟩
        · have HYES := Lib.hid (idxT_yes ht)
          rw [ht] at HC
          have HSN := Lib.hid (nums_snoc (idxT T j) j)
          generalize idxT T j = acc at *
          clear ht
          go_wp2_with (first | (go_at_call 91; refine HC.out.mono ?_; rintro e w5 ⟨rfl, d5, rfl⟩) | (at_builtin; refine wpList_app1 rfl (.tmp 20) (.tmp 22) 39 rfl 3 i0 (.int .i64 0) 8 Try.underlying39 I0.out.1 I0.out.2.1 I0.out.2.2.1 I0.out.2.2.2 rfl w.heap.size w _ _ rfl (HN.out.drewN _) rfl rfl hsz (below_drewN HB.out _) HLEN.out (by omega) ?_) | fail)
          intro v7 w7 hn7 hk7 hb7 hs7
          rw [HSN.out] at hn7
          have HN7 := Lib.hid hn7
          have HB7 := Lib.hid hb7
          clear hn7 hk7 hb7
          go_wp2
          go_roundg (n - (j + 1))
          case measure => omega
          case rel => exact ⟨j + 1, by omega, by go_num, by rw [HYES.out]; exact HN7.out, HB7.out⟩
      · obtain rfl : j = n := by omega
        go_wp2
        go_ret2
        exact ⟨_, rfl, HN.out, HB.out⟩
  · have hf : goodX xs = false := by simpa using hg
    rw [if_neg hg]
    rw [hf] at HGP ⊢
    clear h hg hl ha hn hf
    go_enter Try.func88, Try.ntmps88
    go_wp2_with (first | (go_at_call 119; refine HGP.out.mono ?_; rintro e w1 ⟨rfl, rfl⟩) | fail)
    go_ret2
    exact ⟨_, rfl, New.nil _ _ _, Below.refl _ _⟩

set_option maxHeartbeats 1000000 in
theorem iPointsIn_any (v : Value) (xs : List Int) (w : World) (h : Own w 3 v (ints xs)) (hl : xs.length ≤ 100000000) :
    Calls Try.prog 40 #[v] w (NumsAny (whereL isPt xs) (goodX xs) w) := by
  have HC := Lib.hid (indexesisPoint v xs w h hl)
  have hv : ∃ a m c, v = .slice a m c := by
    obtain ⟨a, c, e, -⟩ := h.view
    exact ⟨a, _, c, e⟩
  obtain ⟨a, m, c, rfl⟩ := hv
  generalize whereL isPt xs = res at *
  generalize goodX xs = gb at *
  clear h hl
  go_enter Try.func40, Try.ntmps40
  go_wp2_with fail
  refine HC.out.mono ?_
  rintro e w1 ⟨v1, rfl, hn1, hb1⟩
  go_wp2
  go_ret2
  exact ⟨_, rfl, hn1, hb1⟩
end Go.Proofs.Ytpfnamiacagocaa
