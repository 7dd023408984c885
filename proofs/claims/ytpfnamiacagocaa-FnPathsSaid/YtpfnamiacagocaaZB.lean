/- DodgesIn and PointsIn in the model. DodgesIn and PointsIn in the model: the indices. -/
import Derived.Test.YtpfnamiacagocaaEC
namespace Go.Proofs.Ytpfnamiacagocaa
open Go.RowKit
set_option linter.unusedSimpArgs false
set_option linter.unusedVariables false

def allIn (xs : List Int) (lo hi : Int) : Bool := (List.range xs.length).all fun i => decide (lo ≤ gx xs i) && decide (gx xs i ≤ hi)
theorem allIn_no {xs : List Int} {lo hi : Int} {i : Nat} (hi2 : i < xs.length) (h : (decide (lo ≤ gx xs i) && decide (gx xs i ≤ hi)) = false) : allIn xs lo hi = false := by
  unfold allIn
  rw [List.all_eq_false]
  exact ⟨i, List.mem_range.2 hi2, by simp only [h]; simp⟩
theorem allIn_yes {xs : List Int} {lo hi : Int} (h : ∀ i, i < xs.length → (decide (lo ≤ gx xs i) && decide (gx xs i ≤ hi)) = true) : allIn xs lo hi = true := by
  unfold allIn
  rw [List.all_eq_true]
  exact fun i hi => h i (List.mem_range.1 hi)
theorem allIn_at {xs : List Int} {lo hi : Int} (h : allIn xs lo hi = true) {i : Nat} (hi2 : i < xs.length) : lo ≤ gx xs i ∧ gx xs i ≤ hi := by
  unfold allIn at h
  rw [List.all_eq_true] at h
  simpa using h i (List.mem_range.2 hi2)

set_option maxRecDepth 100000 in
set_option maxHeartbeats 1000000 in
theorem l1All_any (v : Value) (xs : List Int) (lo hi : Int) (w : World) (h : Own w 3 v (ints xs)) (hl : xs.length ≤ 100000000) :
    Calls Try.prog 78 #[v, .int .i64 lo, .int .i64 hi] w fun e w' => e = .returned (.bool (allIn xs lo hi)) ∧ w = w' := by
  obtain ⟨n, hn⟩ : ∃ n, xs.length = n := ⟨_, rfl⟩
  obtain ⟨a, cap, rfl, ha⟩ := h.viewI hn
  have HO := Lib.hid h
  have HA := Lib.hid ha
  have HN := Lib.hid hn
  obtain ⟨res, hres⟩ : ∃ b, allIn xs lo hi = b := ⟨_, rfl⟩
  rw [hres]
  have HRES := Lib.hid hres
  have hni : (n : Int) ≤ 100000000 := by omega
  have HIN := Lib.hid (fun x w => l1In_any x lo hi w)
  clear h ha hres hl hn
  go_enter Try.func78, Try.ntmps78
  go_wp2
  go_loopg [8, 11] n (fun q _ x wr => ∃ j : Nat, q + j = n ∧ x = .int .i64 j ∧ (∀ k, k < j → (decide (lo ≤ gx xs k) && decide (gx xs k ≤ hi)) = true) ∧ w = wr)
  case atStart => exact ⟨0, by omega, rfl, fun k hk => absurd hk (by omega), rfl⟩
  case round =>
    obtain ⟨j, hq, rfl, hok, rfl⟩ := hrel
    have HOK := Lib.hid hok
    clear hok
    by_cases hlt : j < n
    · have hjx : j < xs.length := by rw [HN.out]; exact hlt
      have hji : (j : Int) < n := by omega
      obtain ⟨g, rfl⟩ := HA.out (by omega)
      have c1 := HO.out.cell j _ (gx_at hjx)
      have HC := Lib.hid (fun w => HIN.out (gx xs j) w)
      obtain ⟨bb, hbb⟩ : ∃ b, (decide (lo ≤ gx xs j) && decide (gx xs j ≤ hi)) = b := ⟨_, rfl⟩
      rw [hbb] at HC
      have HBB := Lib.hid hbb
      have HNO : Hid (bb = false → res = false) := Lib.hid (fun h => by rw [← HRES.out]; exact allIn_no hjx (by rw [HBB.out]; exact h))
      clear hbb
      generalize hx : gx xs j = x0 at c1 HC
      clear hx
      cases bb
      · have hr := HNO.out rfl
        subst hr
        go_wp2_with (first | (go_at_call 77; refine (HC.out _).mono ?_; rintro e w2 ⟨rfl, rfl⟩) | fail)
        go_ret
        exact ⟨rfl, rfl⟩
      · go_wp2_with (first | (go_at_call 77; refine (HC.out _).mono ?_; rintro e w2 ⟨rfl, rfl⟩) | fail)
        go_roundg (n - (j + 1))
        case measure => omega
        case rel => exact ⟨j + 1, by omega, by go_num, fun k hk => by
          by_cases e : k = j
          · subst e; exact HBB.out
          · exact HOK.out k (by omega), rfl⟩
    · obtain rfl : j = n := by omega
      have hr : res = true := by rw [← HRES.out]; exact allIn_yes (fun i hi => HOK.out i (by rw [HN.out] at hi; exact hi))
      subst hr
      go_wp2
      go_ret
      exact ⟨rfl, rfl⟩

theorem goodX_in {xs : List Int} (h : goodX xs = true) {i : Nat} (hi : i + 1 < xs.length) : -1 ≤ IntKind.i64.wrap (gx xs (i + 1) - gx xs i) ∧ IntKind.i64.wrap (gx xs (i + 1) - gx xs i) ≤ 1 := by
  have h1 := okAt_one (goodX_at h (i := i) (by omega))
  have h2 := goodX_at h (i := i + 1) hi
  have h3 := okAt_one h2
  unfold okAt at h2
  rw [Nat.add_sub_cancel] at h2
  simp only [Bool.and_eq_true, Bool.or_eq_true, beq_iff_eq, decide_eq_true_eq] at h2
  have h4 := h2.2
  rw [Go.IntWalk.i64_in _ ⟨by omega, by omega⟩]
  omega
theorem goodX_of {xs : List Int} (h : ∀ i, i + 1 < xs.length → -1 ≤ IntKind.i64.wrap (gx xs (i + 1) - gx xs i) ∧ IntKind.i64.wrap (gx xs (i + 1) - gx xs i) ≤ 1) : goodX xs = (decide (xs.length ≤ 800) && allIn xs 1 8) := by
  by_cases h8 : xs.length ≤ 800
  · cases ha : allIn xs 1 8
    · rw [Bool.and_false]
      cases hg : goodX xs
      · rfl
      · rw [allIn_yes (fun i hi => by have := okAt_one (goodX_at hg hi); simp [this.1, this.2])] at ha
        cases ha
    · rw [Bool.and_true, decide_eq_true h8]
      refine goodX_yes h8 fun i hi => ?_
      have h1 := allIn_at ha hi
      cases i with
      | zero => exact okAt_first h1.1 h1.2
      | succ k =>
        have h2 := allIn_at ha (i := k) (by omega)
        have h3 := h k hi
        rw [Go.IntWalk.i64_in _ ⟨by omega, by omega⟩] at h3
        exact okAt_next h1.1 h1.2 (by omega) (by omega)
  · rw [goodX_long (by omega)]
    simp [h8]

set_option maxRecDepth 100000 in
set_option maxHeartbeats 1000000 in
theorem l5Good_any (v : Value) (xs : List Int) (w : World) (h : Own w 3 v (ints xs)) (hl : xs.length ≤ 100000000) :
    Calls Try.prog 90 #[v] w fun e w' => e = .returned (.bool (goodX xs)) ∧ w = w' := by
  obtain ⟨n, hn⟩ : ∃ n, xs.length = n := ⟨_, rfl⟩
  obtain ⟨a, cap, rfl, ha⟩ := h.viewI hn
  have HO := Lib.hid h
  have HA := Lib.hid ha
  have HN := Lib.hid hn
  obtain ⟨res, hres⟩ : ∃ b, goodX xs = b := ⟨_, rfl⟩
  rw [hres]
  have HRES := Lib.hid hres
  have hni : (n : Int) ≤ 100000000 := by omega
  have HIN := Lib.hid (fun x w => l1In_any x (-1) 1 w)
  have HALL := Lib.hid (fun w h => l1All_any (.slice a n cap) xs 1 8 w h hl)
  clear h ha hres hl hn
  go_enter Try.func90, Try.ntmps90
  go_wp2
  go_loopg [3, 4, 7] n (fun q _ _ x wr => ∃ j : Nat, q + j = n ∧ x = .int .i64 j ∧ (∀ k, k + 1 < j → -1 ≤ IntKind.i64.wrap (gx xs (k + 1) - gx xs k) ∧ IntKind.i64.wrap (gx xs (k + 1) - gx xs k) ≤ 1) ∧ w = wr)
  case atStart => exact ⟨0, by omega, rfl, fun k hk => absurd hk (by omega), rfl⟩
  case round =>
    obtain ⟨j, hq, rfl, hok, rfl⟩ := hrel
    have HOK := Lib.hid hok
    clear hok
    by_cases hlt : j < n
    · have hjx : j < xs.length := by rw [HN.out]; exact hlt
      have hji : (j : Int) < n := by omega
      obtain ⟨g, rfl⟩ := HA.out (by omega)
      have c1 := HO.out.cell j _ (gx_at hjx)
      by_cases hj0 : j = 0
      · subst hj0
        generalize gx xs 0 = x0 at *
        go_wp2_with fail
        go_roundg (n - 1)
        case measure => omega
        case rel => exact ⟨1, by omega, by go_num, fun k hk => absurd hk (by omega), rfl⟩
      · obtain ⟨i, rfl⟩ : ∃ i, j = i + 1 := ⟨j - 1, by omega⟩
        have c2 := HO.out.cell i _ (gx_at (xs := xs) (i := i) (by omega))
        have b4 : IntKind.i64.wrap ((i : Int) + 1 - 1) = (i : Int) := by rw [Int.add_sub_cancel]; exact Go.IntWalk.i64_in _ ⟨by omega, by omega⟩
        have hpos : (0 : Int) < (i : Int) + 1 := by omega
        have hi0 : (0 : Int) ≤ (i : Int) := by omega
        have hin : (i : Int) < n := by omega
        have HNO : Hid (¬ (-1 ≤ IntKind.i64.wrap (gx xs (i + 1) - gx xs i) ∧ IntKind.i64.wrap (gx xs (i + 1) - gx xs i) ≤ 1) → res = false) := Lib.hid (fun h => by
          rw [← HRES.out]
          cases hg : goodX xs
          · rfl
          · exact absurd (goodX_in hg hjx) h)
        obtain ⟨dd, hdd⟩ : ∃ d, IntKind.i64.wrap (gx xs (i + 1) - gx xs i) = d := ⟨_, rfl⟩
        rw [hdd] at HNO
        have HSV : Hid (IntKind.i64.wrap (gx xs (i + 1) - gx xs i) = dd) := Lib.hid hdd
        have HC := Lib.hid (fun w => HIN.out dd w)
        generalize hg1 : gx xs (i + 1) = x1 at c1 hdd
        generalize hg0 : gx xs i = x0 at c2 hdd
        clear hg1 hg0
        by_cases hb : -1 ≤ dd ∧ dd ≤ 1
        · have HB := Lib.hid hb
          rw [show (decide (-1 ≤ dd) && decide (dd ≤ 1)) = true from by simp [hb.1, hb.2]] at HC
          clear hb
          go_wp2_with (first | (go_at_call 77; refine (HC.out _).mono ?_; rintro e w2 ⟨rfl, rfl⟩) | fail)
          go_roundg (n - (i + 1 + 1))
          case measure => omega
          case rel => exact ⟨i + 1 + 1, by omega, by go_num, fun k hk => by
            by_cases e : k = i
            · rw [e]; rw [HSV.out]; exact HB.out
            · exact HOK.out k (by omega), rfl⟩
        · have hr := HNO.out hb
          subst hr
          rw [show (decide (-1 ≤ dd) && decide (dd ≤ 1)) = false from by
            cases h1 : decide (-1 ≤ dd)
            · rfl
            · cases h2 : decide (dd ≤ 1)
              · rfl
              · exact absurd ⟨by simpa using h1, by simpa using h2⟩ hb] at HC
          clear hb
          go_wp2_with (first | (go_at_call 77; refine (HC.out _).mono ?_; rintro e w2 ⟨rfl, rfl⟩) | fail)
          go_ret
          exact ⟨rfl, rfl⟩
    · obtain rfl : j = n := by omega
      have hr : res = (decide (j ≤ 800) && allIn xs 1 8) := by rw [← HRES.out, goodX_of (fun i hi => HOK.out i (by rw [HN.out] at hi; exact hi)), HN.out]
      have HAL := Lib.hid (HALL.out w HO.out)
      generalize allIn xs 1 8 = ai at *
      by_cases h8 : j ≤ 800
      · have h8i : (j : Int) ≤ 800 := by omega
        rw [decide_eq_true h8, Bool.true_and] at hr
        subst hr
        go_wp2_with (first | (go_at_call 78; refine HAL.out.mono ?_; rintro e w2 ⟨rfl, rfl⟩) | fail)
        go_ret
        exact ⟨rfl, rfl⟩
      · have h8i : ¬ (j : Int) ≤ 800 := by omega
        rw [decide_eq_false h8, Bool.false_and] at hr
        subst hr
        go_wp2_with fail
        go_ret
        exact ⟨rfl, rfl⟩
end Go.Proofs.Ytpfnamiacagocaa
namespace Go.Proofs.Ytpfnamiacagocaa
open Go.RowKit
set_option linter.unusedSimpArgs false
set_option linter.unusedVariables false

theorem idxT_more {T : Nat → Bool} {i : Nat} (h : ∀ j, i ≤ j → T j = false) : ∀ m, idxT T (i + m) = idxT T i
  | 0 => rfl
  | m + 1 => by rw [← Nat.add_assoc, idxT_no (h (i + m) (by omega))]; exact idxT_more h m
theorem idxT_stop {T : Nat → Bool} {i n : Nat} (h : ∀ j, (i ≤ j ∨ n ≤ j) → T j = false) : idxT T n = idxT T i := by
  have h1 := idxT_more (fun j hj => h j (.inl hj)) (n - i)
  have h2 := idxT_more (fun j hj => h j (.inr hj)) (i - n)
  by_cases e : i ≤ n
  · rw [show i + (n - i) = n by omega] at h1
    exact h1
  · rw [show n + (i - n) = i by omega] at h2
    exact h2.symm
theorem isPt_zero (xs : List Int) : isPt xs 0 = false := by simp [isPt]
theorem isDg_zero (xs : List Int) : isDg xs 0 = false := by simp [isDg, isPt_zero]
theorem isPt_end {xs : List Int} {j : Nat} (h : xs.length ≤ j + 1) : isPt xs j = false := by simp [isPt, show ¬ j + 1 < xs.length by omega]
theorem isDg_end {xs : List Int} {j : Nat} (h : xs.length ≤ j + 2) : isDg xs j = false := by simp [isDg, isPt_end (show xs.length ≤ (j + 1) + 1 by omega)]
theorem isPt_in {xs : List Int} {k : Nat} (h : k + 2 < xs.length) : isPt xs (k + 1) = ((gx xs k == gx xs (k + 1 + 1)) && !(gx xs k == gx xs (k + 1))) := by
  unfold isPt
  rw [Nat.add_sub_cancel]
  simp [show k + 1 + 1 < xs.length by omega]
theorem isDg_in {xs : List Int} {k : Nat} (h : k + 3 < xs.length) : isDg xs (k + 1) = ((gx xs (k + 1) - gx xs k != 0) && (gx xs (k + 1 + 1) - gx xs (k + 1) == -(gx xs (k + 1) - gx xs k)) && (gx xs (k + 1 + 2) - gx xs (k + 1 + 1) == gx xs (k + 1) - gx xs k)) := by
  unfold isDg
  rw [isPt_in (by omega), isPt_in (k := k + 1) (by omega), show k + 1 + 1 + 1 = k + 1 + 2 from rfl]
  generalize gx xs (k + 1 + 2) = x3
  generalize gx xs (k + 1 + 1) = x2
  generalize gx xs (k + 1) = x1
  generalize gx xs k = x0
  rw [Bool.eq_iff_iff]
  simp only [Bool.and_eq_true, beq_iff_eq, bne_iff_ne, Bool.not_eq_true', beq_eq_false_iff_ne, ne_eq]
  omega
theorem gx_range {xs : List Int} (h : goodX xs = true) {i : Nat} (hi : i < xs.length) : 1 ≤ gx xs i ∧ gx xs i ≤ 8 := okAt_one (goodX_at h hi)

set_option maxRecDepth 100000 in
set_option maxHeartbeats 1000000 in
theorem sPointsIn_any (v : Value) (xs : List Int) (w : World) (h : Own w 3 v (ints xs)) (hl : xs.length ≤ 100000000) :
    Calls Try.prog 41 #[v] w (NumsAny (whereL isPt xs) (goodX xs) w) := by
  obtain ⟨n, hn⟩ : ∃ n, xs.length = n := ⟨_, rfl⟩
  obtain ⟨a, cap, rfl, ha⟩ := h.viewI hn
  have HGP := Lib.hid (l5Good_any (.slice a n cap) xs w h hl)
  have HO := Lib.hid h
  have HA := Lib.hid ha
  have HNX := Lib.hid hn
  unfold whereL
  by_cases hg : goodX xs = true
  · have h8 := goodX_len hg
    have HG := Lib.hid hg
    rw [if_pos hg]
    rw [hg] at HGP ⊢
    have hni : (n : Int) ≤ 800 := by omega
    obtain ⟨i0, hi0, hz0, hz1, hz2⟩ := info_parts infoInt
    have I0 := Lib.hid (⟨hi0, hz0, hz1, hz2⟩ : _ ∧ _ ∧ _ ∧ _)
    rw [hn]
    clear h hg h8 hl ha hn hi0 hz0 hz1 hz2
    go_enter Try.func41, Try.ntmps41
    go_wp2_with (first | (go_at_call 90; refine HGP.out.mono ?_; rintro e w1 ⟨rfl, rfl⟩) | fail)
    go_loopg [4, 5] n (fun q ov x wr => ∃ k : Nat, n ≤ q + k ∧ (0 < k → k + 1 ≤ n) ∧ x = .int .i64 ((k : Int) + 1) ∧ New w.heap.size wr 3 ov (nums (idxT (isPt xs) (k + 1))) ∧ Below w.heap.size w wr)
    case atStart => exact ⟨0, by omega, fun h => absurd h (by omega), rfl, by rw [idxT_no (isPt_zero xs)]; exact New.nil _ _ _, Below.refl _ _⟩
    case round =>
      obtain ⟨k, hq, hkn, rfl, hnw, hb⟩ := hrel
      have HN := Lib.hid hnw
      have HB := Lib.hid hb
      have hsz : w.heap.size ≤ wr.heap.size := hb.size
      obtain ⟨a9, c9, hv9, -⟩ := hnw.own.view
      subst hv9
      clear hnw hb
      by_cases hlt : k + 2 < n
      · have hlen : (nums (idxT (isPt xs) (k + 1))).length ≤ 100000 := by rw [nums_len]; have := idxT_len (isPt xs) (k + 1); omega
        have HLEN := Lib.hid hlen
        clear hlen
        have hki : (k : Int) + 2 < n := by omega
        obtain ⟨g, rfl⟩ := HA.out (by omega)
        have hcell : ∀ t, t < n → w.heap.size ≤ wr.heap.size → wr.cell? ⟨g, t, none⟩ = some (.int .i64 (gx xs t)) := fun t ht _ => (HO.out.kept HB.out).cell t _ (gx_at (by rw [HNX.out]; exact ht))
        have hgr : ∀ t, t < n → 1 ≤ gx xs t ∧ gx xs t ≤ 8 := fun t ht => gx_range HG.out (by rw [HNX.out]; exact ht)
        have c0 := hcell k (by omega) hsz
        have c1 := hcell (k + 1) (by omega) hsz
        have c2 := hcell (k + 1 + 1) (by omega) hsz
        have r0 := hgr k (by omega)
        have r1 := hgr (k + 1) (by omega)
        have r2 := hgr (k + 1 + 1) (by omega)
        have HIN := Lib.hid (isPt_in (xs := xs) (k := k) (by rw [HNX.out]; omega))
        have HYES : Hid (isPt xs (k + 1) = true → nums (idxT (isPt xs) (k + 1)) ++ [.int .i64 ((k : Int) + 1)] = nums (idxT (isPt xs) (k + 1 + 1))) := Lib.hid (fun h => by rw [idxT_yes h]; exact nums_snoc _ (k + 1))
        have HNO : Hid (isPt xs (k + 1) = false → idxT (isPt xs) (k + 1 + 1) = idxT (isPt xs) (k + 1)) := Lib.hid (fun h => idxT_no h)
        have b4 : IntKind.i64.wrap ((k : Int) + 1 - 1) = (k : Int) := by rw [Int.add_sub_cancel]; exact Go.IntWalk.i64_in _ ⟨by omega, by omega⟩
        have b7 : IntKind.i64.wrap (k : Int) = (k : Int) := Go.IntWalk.i64_in _ ⟨by omega, by omega⟩
        clear hcell hgr
        have b5 : IntKind.i64.wrap ((k : Int) + 1 + 1) = (k : Int) + 1 + 1 := Go.IntWalk.i64_in _ ⟨by omega, by omega⟩
        have i0' : (0 : Int) ≤ (k : Int) := by omega
        have i1 : (k : Int) < n := by omega
        have i2 : (0 : Int) ≤ (k : Int) + 1 := by omega
        have i3 : (k : Int) + 1 < n := by omega
        have i4 : (0 : Int) ≤ (k : Int) + 1 + 1 := by omega
        have i5 : (k : Int) + 1 + 1 < n := by omega
        generalize gx xs (k + 1 + 1) = x2 at *
        generalize gx xs (k + 1) = x1 at *
        generalize gx xs k = x0 at *
        cases e1 : (x0 == x2)
        · rw [e1] at HIN
          have HX := Lib.hid (HNO.out (by rw [HIN.out]; rfl))
          generalize idxT (isPt xs) (k + 1) = acc at *
          go_wp2
          go_quiet (fail)
          go_wp2
          go_roundg (n - (k + 1))
          case measure => omega
          case rel => exact ⟨k + 1, by omega, by omega, by go_num, by rw [HX.out]; exact HN.out.drewN _, below_drewN HB.out _⟩
        · cases e2 : (x1 == x0)
          · rw [e1, show (x0 == x1) = false from by rw [beq_eq_false_iff_ne] at e2 ⊢; exact fun h => e2 h.symm] at HIN
            have HX := Lib.hid (HYES.out (by rw [HIN.out]; rfl))
            generalize idxT (isPt xs) (k + 1) = acc at *
            go_wp2
            go_quiet (fail)
            go_wp2_with (first | (at_builtin; refine wpList_app1 rfl (.tmp 39) (.tmp 41) 39 rfl 3 i0 (.int .i64 0) 8 Try.underlying39 I0.out.1 I0.out.2.1 I0.out.2.2.1 I0.out.2.2.2 rfl w.heap.size w _ _ rfl (HN.out.drewN _) rfl rfl hsz (below_drewN HB.out _) HLEN.out (by omega) ?_) | fail)
            intro v7 w7 hn7 hk7 hb7 hs7
            rw [HX.out] at hn7
            have HN7 := Lib.hid hn7
            have HB7 := Lib.hid hb7
            clear hn7 hk7 hb7
            go_wp2
            go_roundg (n - (k + 1))
            case measure => omega
            case rel => exact ⟨k + 1, by omega, by omega, by go_num, HN7.out, HB7.out⟩
          · rw [e1, show (x0 == x1) = true from by rw [beq_iff_eq] at e2 ⊢; exact e2.symm] at HIN
            have HX := Lib.hid (HNO.out (by rw [HIN.out]; rfl))
            generalize idxT (isPt xs) (k + 1) = acc at *
            go_wp2
            go_quiet (fail)
            go_wp2
            go_roundg (n - (k + 1))
            case measure => omega
            case rel => exact ⟨k + 1, by omega, by omega, by go_num, by rw [HX.out]; exact HN.out.drewN _, below_drewN HB.out _⟩
      · have hend : idxT (isPt xs) n = idxT (isPt xs) (k + 1) := idxT_stop fun j hj => isPt_end (by rw [HNX.out]; omega)
        have HE := Lib.hid hend
        have hki : ¬ (k : Int) + 2 < n := by omega
        clear hend
        go_wp2
        go_ret2
        exact ⟨_, rfl, by rw [HE.out]; exact HN.out, HB.out⟩
  · have hf : goodX xs = false := by simpa using hg
    rw [if_neg hg]
    rw [hf] at HGP ⊢
    clear h hg hl ha hn hf
    go_enter Try.func41, Try.ntmps41
    go_wp2_with (first | (go_at_call 90; refine HGP.out.mono ?_; rintro e w1 ⟨rfl, rfl⟩) | fail)
    go_ret2
    exact ⟨_, rfl, New.nil _ _ _, Below.refl _ _⟩

set_option maxRecDepth 100000 in
set_option maxHeartbeats 1000000 in
theorem sDodgesIn_any (v : Value) (xs : List Int) (w : World) (h : Own w 3 v (ints xs)) (hl : xs.length ≤ 100000000) :
    Calls Try.prog 39 #[v] w (NumsAny (whereL isDg xs) (goodX xs) w) := by
  obtain ⟨n, hn⟩ : ∃ n, xs.length = n := ⟨_, rfl⟩
  obtain ⟨a, cap, rfl, ha⟩ := h.viewI hn
  have HGP := Lib.hid (l5Good_any (.slice a n cap) xs w h hl)
  have HO := Lib.hid h
  have HA := Lib.hid ha
  have HNX := Lib.hid hn
  unfold whereL
  by_cases hg : goodX xs = true
  · have h8 := goodX_len hg
    have HG := Lib.hid hg
    rw [if_pos hg]
    rw [hg] at HGP ⊢
    have hni : (n : Int) ≤ 800 := by omega
    obtain ⟨i0, hi0, hz0, hz1, hz2⟩ := info_parts infoInt
    have I0 := Lib.hid (⟨hi0, hz0, hz1, hz2⟩ : _ ∧ _ ∧ _ ∧ _)
    rw [hn]
    clear h hg h8 hl ha hn hi0 hz0 hz1 hz2
    go_enter Try.func39, Try.ntmps39
    go_wp2_with (first | (go_at_call 90; refine HGP.out.mono ?_; rintro e w1 ⟨rfl, rfl⟩) | fail)
    go_loopg [4, 5] n (fun q ov x wr => ∃ k : Nat, n ≤ q + k ∧ (0 < k → k + 1 ≤ n) ∧ x = .int .i64 ((k : Int) + 1) ∧ New w.heap.size wr 3 ov (nums (idxT (isDg xs) (k + 1))) ∧ Below w.heap.size w wr)
    case atStart => exact ⟨0, by omega, fun h => absurd h (by omega), rfl, by rw [idxT_no (isDg_zero xs)]; exact New.nil _ _ _, Below.refl _ _⟩
    case round =>
      obtain ⟨k, hq, hkn, rfl, hnw, hb⟩ := hrel
      have HN := Lib.hid hnw
      have HB := Lib.hid hb
      have hsz : w.heap.size ≤ wr.heap.size := hb.size
      obtain ⟨a9, c9, hv9, -⟩ := hnw.own.view
      subst hv9
      clear hnw hb
      by_cases hlt : k + 3 < n
      · have hlen : (nums (idxT (isDg xs) (k + 1))).length ≤ 100000 := by rw [nums_len]; have := idxT_len (isDg xs) (k + 1); omega
        have HLEN := Lib.hid hlen
        clear hlen
        have hki : (k : Int) + 3 < n := by omega
        obtain ⟨g, rfl⟩ := HA.out (by omega)
        have hcell : ∀ t, t < n → w.heap.size ≤ wr.heap.size → wr.cell? ⟨g, t, none⟩ = some (.int .i64 (gx xs t)) := fun t ht _ => (HO.out.kept HB.out).cell t _ (gx_at (by rw [HNX.out]; exact ht))
        have hgr : ∀ t, t < n → 1 ≤ gx xs t ∧ gx xs t ≤ 8 := fun t ht => gx_range HG.out (by rw [HNX.out]; exact ht)
        have c0 := hcell k (by omega) hsz
        have c1 := hcell (k + 1) (by omega) hsz
        have c2 := hcell (k + 1 + 1) (by omega) hsz
        have r0 := hgr k (by omega)
        have r1 := hgr (k + 1) (by omega)
        have r2 := hgr (k + 1 + 1) (by omega)
        have c3 := hcell (k + 1 + 2) (by omega) hsz
        have r3 := hgr (k + 1 + 2) (by omega)
        have HIN := Lib.hid (isDg_in (xs := xs) (k := k) (by rw [HNX.out]; omega))
        have HYES : Hid (isDg xs (k + 1) = true → nums (idxT (isDg xs) (k + 1)) ++ [.int .i64 ((k : Int) + 1)] = nums (idxT (isDg xs) (k + 1 + 1))) := Lib.hid (fun h => by rw [idxT_yes h]; exact nums_snoc _ (k + 1))
        have HNO : Hid (isDg xs (k + 1) = false → idxT (isDg xs) (k + 1 + 1) = idxT (isDg xs) (k + 1)) := Lib.hid (fun h => idxT_no h)
        have b4 : IntKind.i64.wrap ((k : Int) + 1 - 1) = (k : Int) := by rw [Int.add_sub_cancel]; exact Go.IntWalk.i64_in _ ⟨by omega, by omega⟩
        have b7 : IntKind.i64.wrap (k : Int) = (k : Int) := Go.IntWalk.i64_in _ ⟨by omega, by omega⟩
        clear hcell hgr
        have b5 : IntKind.i64.wrap ((k : Int) + 1 + 1) = (k : Int) + 1 + 1 := Go.IntWalk.i64_in _ ⟨by omega, by omega⟩
        have i0' : (0 : Int) ≤ (k : Int) := by omega
        have i1 : (k : Int) < n := by omega
        have i2 : (0 : Int) ≤ (k : Int) + 1 := by omega
        have i3 : (k : Int) + 1 < n := by omega
        have i4 : (0 : Int) ≤ (k : Int) + 1 + 1 := by omega
        have i5 : (k : Int) + 1 + 1 < n := by omega
        have i6 : (0 : Int) ≤ (k : Int) + 1 + 2 := by omega
        have i7 : (k : Int) + 1 + 2 < n := by omega
        have b6 : IntKind.i64.wrap ((k : Int) + 1 + 2) = (k : Int) + 1 + 2 := Go.IntWalk.i64_in _ ⟨by omega, by omega⟩
        generalize gx xs (k + 1 + 2) = x3 at *
        generalize gx xs (k + 1 + 1) = x2 at *
        generalize gx xs (k + 1) = x1 at *
        generalize gx xs k = x0 at *
        have d0 : IntKind.i64.wrap (x1 - x0) = x1 - x0 := Go.IntWalk.i64_in _ ⟨by omega, by omega⟩
        have d1 : IntKind.i64.wrap (x2 - x1) = x2 - x1 := Go.IntWalk.i64_in _ ⟨by omega, by omega⟩
        have d2 : IntKind.i64.wrap (x3 - x2) = x3 - x2 := Go.IntWalk.i64_in _ ⟨by omega, by omega⟩
        have d3 : IntKind.i64.wrap (-(x1 - x0)) = -(x1 - x0) := Go.IntWalk.i64_in _ ⟨by omega, by omega⟩
        cases e1 : (x1 - x0 != 0)
        · rw [e1] at HIN
          have HX := Lib.hid (HNO.out (by rw [HIN.out]; rfl))
          generalize idxT (isDg xs) (k + 1) = acc at *
          go_wp2
          go_quiet (fail)
          go_wp2
          go_roundg (n - (k + 1))
          case measure => omega
          case rel => exact ⟨k + 1, by omega, by omega, by go_num, by rw [HX.out]; exact HN.out.drewN _, below_drewN HB.out _⟩
        · cases e2 : (x2 - x1 == -(x1 - x0))
          · rw [e1, e2] at HIN
            have HX := Lib.hid (HNO.out (by rw [HIN.out]; rfl))
            generalize idxT (isDg xs) (k + 1) = acc at *
            go_wp2
            go_quiet (fail)
            go_wp2
            go_roundg (n - (k + 1))
            case measure => omega
            case rel => exact ⟨k + 1, by omega, by omega, by go_num, by rw [HX.out]; exact HN.out.drewN _, below_drewN HB.out _⟩
          · cases e3 : (x3 - x2 == x1 - x0)
            · rw [e1, e2, e3] at HIN
              have HX := Lib.hid (HNO.out (by rw [HIN.out]; rfl))
              generalize idxT (isDg xs) (k + 1) = acc at *
              go_wp2
              go_quiet (fail)
              go_wp2
              go_roundg (n - (k + 1))
              case measure => omega
              case rel => exact ⟨k + 1, by omega, by omega, by go_num, by rw [HX.out]; exact HN.out.drewN _, below_drewN HB.out _⟩
            · rw [e1, e2, e3] at HIN
              have HX := Lib.hid (HYES.out (by rw [HIN.out]; rfl))
              generalize idxT (isDg xs) (k + 1) = acc at *
              go_wp2
              go_quiet (fail)
              go_wp2_with (first | (at_builtin; refine wpList_app1 rfl (.tmp 63) (.tmp 65) 39 rfl 3 i0 (.int .i64 0) 8 Try.underlying39 I0.out.1 I0.out.2.1 I0.out.2.2.1 I0.out.2.2.2 rfl w.heap.size w _ _ rfl (HN.out.drewN _) rfl rfl hsz (below_drewN HB.out _) HLEN.out (by omega) ?_) | fail)
              intro v7 w7 hn7 hk7 hb7 hs7
              rw [HX.out] at hn7
              have HN7 := Lib.hid hn7
              have HB7 := Lib.hid hb7
              clear hn7 hk7 hb7
              go_wp2
              go_roundg (n - (k + 1))
              case measure => omega
              case rel => exact ⟨k + 1, by omega, by omega, by go_num, HN7.out, HB7.out⟩
      · have hend : idxT (isDg xs) n = idxT (isDg xs) (k + 1) := idxT_stop fun j hj => isDg_end (by rw [HNX.out]; omega)
        have HE := Lib.hid hend
        have hki : ¬ (k : Int) + 3 < n := by omega
        clear hend
        go_wp2
        go_ret2
        exact ⟨_, rfl, by rw [HE.out]; exact HN.out, HB.out⟩
  · have hf : goodX xs = false := by simpa using hg
    rw [if_neg hg]
    rw [hf] at HGP ⊢
    clear h hg hl ha hn hf
    go_enter Try.func39, Try.ntmps39
    go_wp2_with (first | (go_at_call 90; refine HGP.out.mono ?_; rintro e w1 ⟨rfl, rfl⟩) | fail)
    go_ret2
    exact ⟨_, rfl, New.nil _ _ _, Below.refl _ _⟩
end Go.Proofs.Ytpfnamiacagocaa
