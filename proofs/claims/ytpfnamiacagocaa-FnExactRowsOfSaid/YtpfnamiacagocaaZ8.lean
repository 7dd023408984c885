/- DodgesIn and PointsIn in the model: the indices. -/
import Derived.Test.YtpfnamiacagocaaZ7
namespace Go.Proofs.Ytpfnamiacagocaa
open Go.RowKit
set_option linter.unusedSimpArgs false
set_option linter.unusedVariables false

theorem idxT_more {T : Nat → Bool} {i : Nat} (h : ∀ j, i ≤ j → T j = false) : ∀ m, idxT T (i + m) = idxT T i
  | 0 => rfl
  | m + 1 => by rw [← Nat.add_assoc, idxT_no (h (i + m) (by omega))]; exact idxT_more h m
theorem idxT_stop {T : Nat → Bool} {i n : Nat} (h : ∀ j, (i ≤ j ∨ n ≤ j) → T j = false) : idxT T n = idxT T i := by
  have h1 := idxT_more (fun j hj => h j (.inl hj)) (n - i)
  have h2 := idxT_more (fun j hj => h j (.inr hj)) (i - n)
  by_cases e : i ≤ n
  · rw [show i + (n - i) = n by omega] at h1
    exact h1
  · rw [show n + (i - n) = i by omega] at h2
    exact h2.symm
theorem isPt_zero (xs : List Int) : isPt xs 0 = false := by simp [isPt]
theorem isDg_zero (xs : List Int) : isDg xs 0 = false := by simp [isDg, isPt_zero]
theorem isPt_end {xs : List Int} {j : Nat} (h : xs.length ≤ j + 1) : isPt xs j = false := by simp [isPt, show ¬ j + 1 < xs.length by omega]
theorem isDg_end {xs : List Int} {j : Nat} (h : xs.length ≤ j + 2) : isDg xs j = false := by simp [isDg, isPt_end (show xs.length ≤ (j + 1) + 1 by omega)]
theorem isPt_in {xs : List Int} {k : Nat} (h : k + 2 < xs.length) : isPt xs (k + 1) = ((gx xs k == gx xs (k + 1 + 1)) && !(gx xs k == gx xs (k + 1))) := by
  unfold isPt
  rw [Nat.add_sub_cancel]
  simp [show k + 1 + 1 < xs.length by omega]
theorem isDg_in {xs : List Int} {k : Nat} (h : k + 3 < xs.length) : isDg xs (k + 1) = ((gx xs (k + 1) - gx xs k != 0) && (gx xs (k + 1 + 1) - gx xs (k + 1) == -(gx xs (k + 1) - gx xs k)) && (gx xs (k + 1 + 2) - gx xs (k + 1 + 1) == gx xs (k + 1) - gx xs k)) := by
  unfold isDg
  rw [isPt_in (by omega), isPt_in (k := k + 1) (by omega), show k + 1 + 1 + 1 = k + 1 + 2 from rfl]
  generalize gx xs (k + 1 + 2) = x3
  generalize gx xs (k + 1 + 1) = x2
  generalize gx xs (k + 1) = x1
  generalize gx xs k = x0
  rw [Bool.eq_iff_iff]
  simp only [Bool.and_eq_true, beq_iff_eq, bne_iff_ne, Bool.not_eq_true', beq_eq_false_iff_ne, ne_eq]
  omega
theorem gx_range {xs : List Int} (h : goodX xs = true) {i : Nat} (hi : i < xs.length) : 1 ≤ gx xs i ∧ gx xs i ≤ 8 := okAt_one (goodX_at h hi)

set_option maxRecDepth 100000 in
set_option maxHeartbeats 1000000 in
theorem sPointsIn_any (v : Value) (xs : List Int) (w : World) (h : Own w 3 v (ints xs)) (hl : xs.length ≤ 100000000) :
    Calls Try.prog 41 #[v] w (NumsAny (whereL isPt xs) (goodX xs) w) := by
  obtain ⟨n, hn⟩ : ∃ n, xs.length = n := ⟨_, rfl⟩
  obtain ⟨a, cap, rfl, ha⟩ := h.viewI hn
  have HGP := Lib.hid (l5Good_any (.slice a n cap) xs w h hl)
  have HO := Lib.hid h
  have HA := Lib.hid ha
  have HNX := Lib.hid hn
  unfold whereL
  by_cases hg : goodX xs = true
  · have h8 := goodX_len hg
    have HG := Lib.hid hg
    rw [if_pos hg]
    rw [hg] at HGP ⊢
    have hni : (n : Int) ≤ 800 := by omega
    obtain ⟨i0, hi0, hz0, hz1, hz2⟩ := info_parts infoInt
    have I0 := Lib.hid (⟨hi0, hz0, hz1, hz2⟩ : _ ∧ _ ∧ _ ∧ _)
    rw [hn]
    clear h hg h8 hl ha hn hi0 hz0 hz1 hz2
    go_enter Try.func41, Try.ntmps41
    go_wp2_with (first | (go_at_call 90; refine HGP.out.mono ?_; rintro e w1 ⟨rfl, rfl⟩) | fail)
    go_loopg [4, 5] n (fun q ov x wr => ∃ k : Nat, n ≤ q + k ∧ (0 < k → k + 1 ≤ n) ∧ x = .int .i64 ((k : Int) + 1) ∧ New w.heap.size wr 3 ov (nums (idxT (isPt xs) (k + 1))) ∧ Below w.heap.size w wr)
    case atStart => exact ⟨0, by omega, fun h => absurd h (by omega), rfl, by rw [idxT_no (isPt_zero xs)]; exact New.nil _ _ _, Below.refl _ _⟩
    case round =>
      obtain ⟨k, hq, hkn, rfl, hnw, hb⟩ := hrel
      have HN := Lib.hid hnw
      have HB := Lib.hid hb
      have hsz : w.heap.size ≤ wr.heap.size := hb.size
      obtain ⟨a9, c9, hv9, -⟩ := hnw.own.view
      subst hv9
      clear hnw hb
      by_cases hlt : k + 2 < n
      · have hlen : (nums (idxT (isPt xs) (k + 1))).length ≤ 100000 := by rw [nums_len]; have := idxT_len (isPt xs) (k + 1); omega
        have HLEN := Lib.hid hlen
        clear hlen
        have hki : (k : Int) + 2 < n := by omega
        obtain ⟨g, rfl⟩ := HA.out (by omega)
        have hcell : ∀ t, t < n → w.heap.size ≤ wr.heap.size → wr.cell? ⟨g, t, none⟩ = some (.int .i64 (gx xs t)) := fun t ht _ => (HO.out.kept HB.out).cell t _ (gx_at (by rw [HNX.out]; exact ht))
        have hgr : ∀ t, t < n → 1 ≤ gx xs t ∧ gx xs t ≤ 8 := fun t ht => gx_range HG.out (by rw [HNX.out]; exact ht)
        have c0 := hcell k (by omega) hsz
        have c1 := hcell (k + 1) (by omega) hsz
        have c2 := hcell (k + 1 + 1) (by omega) hsz
        have r0 := hgr k (by omega)
        have r1 := hgr (k + 1) (by omega)
        have r2 := hgr (k + 1 + 1) (by omega)
        have HIN := Lib.hid (isPt_in (xs := xs) (k := k) (by rw [HNX.out]; omega))
        have HYES : Hid (isPt xs (k + 1) = true → nums (idxT (isPt xs) (k + 1)) ++ [.int .i64 ((k : Int) + 1)] = nums (idxT (isPt xs) (k + 1 + 1))) := Lib.hid (fun h => by rw [idxT_yes h]; exact nums_snoc _ (k + 1))
        have HNO : Hid (isPt xs (k + 1) = false → idxT (isPt xs) (k + 1 + 1) = idxT (isPt xs) (k + 1)) := Lib.hid (fun h => idxT_no h)
        have b4 : IntKind.i64.wrap ((k : Int) + 1 - 1) = (k : Int) := by rw [Int.add_sub_cancel]; exact Go.IntWalk.i64_in _ ⟨by omega, by omega⟩
        have b7 : IntKind.i64.wrap (k : Int) = (k : Int) := Go.IntWalk.i64_in _ ⟨by omega, by omega⟩
        clear hcell hgr
        have b5 : IntKind.i64.wrap ((k : Int) + 1 + 1) = (k : Int) + 1 + 1 := Go.IntWalk.i64_in _ ⟨by omega, by omega⟩
        have i0' : (0 : Int) ≤ (k : Int) := by omega
        have i1 : (k : Int) < n := by omega
        have i2 : (0 : Int) ≤ (k : Int) + 1 := by omega
        have i3 : (k : Int) + 1 < n := by omega
        have i4 : (0 : Int) ≤ (k : Int) + 1 + 1 := by omega
        have i5 : (k : Int) + 1 + 1 < n := by omega
        generalize gx xs (k + 1 + 1) = x2 at *
        generalize gx xs (k + 1) = x1 at *
        generalize gx xs k = x0 at *
        cases e1 : (x0 == x2)
        · rw [e1] at HIN
          have HX := Lib.hid (HNO.out (by rw [HIN.out]; rfl))
          generalize idxT (isPt xs) (k + 1) = acc at *
          go_wp2
          go_quiet (fail)
          go_wp2
          go_roundg (n - (k + 1))
          case measure => omega
          case rel => exact ⟨k + 1, by omega, by omega, by go_num, by rw [HX.out]; exact HN.out.drewN _, below_drewN HB.out _⟩
        · cases e2 : (x1 == x0)
          · rw [e1, show (x0 == x1) = false from by rw [beq_eq_false_iff_ne] at e2 ⊢; exact fun h => e2 h.symm] at HIN
            have HX := Lib.hid (HYES.out (by rw [HIN.out]; rfl))
            generalize idxT (isPt xs) (k + 1) = acc at *
            go_wp2
            go_quiet (fail)
            go_wp2_with (first | (at_builtin; refine wpList_app1 rfl (.tmp 39) (.tmp 41) 39 rfl 3 i0 (.int .i64 0) 8 Try.underlying39 I0.out.1 I0.out.2.1 I0.out.2.2.1 I0.out.2.2.2 rfl w.heap.size w _ _ rfl (HN.out.drewN _) rfl rfl hsz (below_drewN HB.out _) HLEN.out (by omega) ?_) | fail)
            intro v7 w7 hn7 hk7 hb7 hs7
            rw [HX.out] at hn7
            have HN7 := Lib.hid hn7
            have HB7 := Lib.hid hb7
            clear hn7 hk7 hb7
            go_wp2
            go_roundg (n - (k + 1))
            case measure => omega
            case rel => exact ⟨k + 1, by omega, by omega, by go_num, HN7.out, HB7.out⟩
          · rw [e1, show (x0 == x1) = true from by rw [beq_iff_eq] at e2 ⊢; exact e2.symm] at HIN
            have HX := Lib.hid (HNO.out (by rw [HIN.out]; rfl))
            generalize idxT (isPt xs) (k + 1) = acc at *
            go_wp2
            go_quiet (fail)
            go_wp2
            go_roundg (n - (k + 1))
            case measure => omega
            case rel => exact ⟨k + 1, by omega, by omega, by go_num, by rw [HX.out]; exact HN.out.drewN _, below_drewN HB.out _⟩
      · have hend : idxT (isPt xs) n = idxT (isPt xs) (k + 1) := idxT_stop fun j hj => isPt_end (by rw [HNX.out]; omega)
        have HE := Lib.hid hend
        have hki : ¬ (k : Int) + 2 < n := by omega
        clear hend
        go_wp2
        go_ret2
        exact ⟨_, rfl, by rw [HE.out]; exact HN.out, HB.out⟩
  · have hf : goodX xs = false := by simpa using hg
    rw [if_neg hg]
    rw [hf] at HGP ⊢
    clear h hg hl ha hn hf
    go_enter Try.func41, Try.ntmps41
    go_wp2_with (first | (go_at_call 90; refine HGP.out.mono ?_; rintro e w1 ⟨rfl, rfl⟩) | fail)
    go_ret2
    exact ⟨_, rfl, New.nil _ _ _, Below.refl _ _⟩

set_option maxRecDepth 100000 in
set_option maxHeartbeats 1000000 in
theorem sDodgesIn_any (v : Value) (xs : List Int) (w : World) (h : Own w 3 v (ints xs)) (hl : xs.length ≤ 100000000) :
    Calls Try.prog 39 #[v] w (NumsAny (whereL isDg xs) (goodX xs) w) := by
  obtain ⟨n, hn⟩ : ∃ n, xs.length = n := ⟨_, rfl⟩
  obtain ⟨a, cap, rfl, ha⟩ := h.viewI hn
  have HGP := Lib.hid (l5Good_any (.slice a n cap) xs w h hl)
  have HO := Lib.hid h
  have HA := Lib.hid ha
  have HNX := Lib.hid hn
  unfold whereL
  by_cases hg : goodX xs = true
  · have h8 := goodX_len hg
    have HG := Lib.hid hg
    rw [if_pos hg]
    rw [hg] at HGP ⊢
    have hni : (n : Int) ≤ 800 := by omega
    obtain ⟨i0, hi0, hz0, hz1, hz2⟩ := info_parts infoInt
    have I0 := Lib.hid (⟨hi0, hz0, hz1, hz2⟩ : _ ∧ _ ∧ _ ∧ _)
    rw [hn]
    clear h hg h8 hl ha hn hi0 hz0 hz1 hz2
    go_enter Try.func39, Try.ntmps39
    go_wp2_with (first | (go_at_call 90; refine HGP.out.mono ?_; rintro e w1 ⟨rfl, rfl⟩) | fail)
    go_loopg [4, 5] n (fun q ov x wr => ∃ k : Nat, n ≤ q + k ∧ (0 < k → k + 1 ≤ n) ∧ x = .int .i64 ((k : Int) + 1) ∧ New w.heap.size wr 3 ov (nums (idxT (isDg xs) (k + 1))) ∧ Below w.heap.size w wr)
    case atStart => exact ⟨0, by omega, fun h => absurd h (by omega), rfl, by rw [idxT_no (isDg_zero xs)]; exact New.nil _ _ _, Below.refl _ _⟩
    case round =>
      obtain ⟨k, hq, hkn, rfl, hnw, hb⟩ := hrel
      have HN := Lib.hid hnw
      have HB := Lib.hid hb
      have hsz : w.heap.size ≤ wr.heap.size := hb.size
      obtain ⟨a9, c9, hv9, -⟩ := hnw.own.view
      subst hv9
      clear hnw hb
      by_cases hlt : k + 3 < n
      · have hlen : (nums (idxT (isDg xs) (k + 1))).length ≤ 100000 := by rw [nums_len]; have := idxT_len (isDg xs) (k + 1); omega
        have HLEN := Lib.hid hlen
        clear hlen
        have hki : (k : Int) + 3 < n := by omega
        obtain ⟨g, rfl⟩ := HA.out (by omega)
        have hcell : ∀ t, t < n → w.heap.size ≤ wr.heap.size → wr.cell? ⟨g, t, none⟩ = some (.int .i64 (gx xs t)) := fun t ht _ => (HO.out.kept HB.out).cell t _ (gx_at (by rw [HNX.out]; exact ht))
        have hgr : ∀ t, t < n → 1 ≤ gx xs t ∧ gx xs t ≤ 8 := fun t ht => gx_range HG.out (by rw [HNX.out]; exact ht)
        have c0 := hcell k (by omega) hsz
        have c1 := hcell (k + 1) (by omega) hsz
        have c2 := hcell (k + 1 + 1) (by omega) hsz
        have r0 := hgr k (by omega)
        have r1 := hgr (k + 1) (by omega)
        have r2 := hgr (k + 1 + 1) (by omega)
        have c3 := hcell (k + 1 + 2) (by omega) hsz
        have r3 := hgr (k + 1 + 2) (by omega)
        have HIN := Lib.hid (isDg_in (xs := xs) (k := k) (by rw [HNX.out]; omega))
        have HYES : Hid (isDg xs (k + 1) = true → nums (idxT (isDg xs) (k + 1)) ++ [.int .i64 ((k : Int) + 1)] = nums (idxT (isDg xs) (k + 1 + 1))) := Lib.hid (fun h => by rw [idxT_yes h]; exact nums_snoc _ (k + 1))
        have HNO : Hid (isDg xs (k + 1) = false → idxT (isDg xs) (k + 1 + 1) = idxT (isDg xs) (k + 1)) := Lib.hid (fun h => idxT_no h)
        have b4 : IntKind.i64.wrap ((k : Int) + 1 - 1) = (k : Int) := by rw [Int.add_sub_cancel]; exact Go.IntWalk.i64_in _ ⟨by omega, by omega⟩
        have b7 : IntKind.i64.wrap (k : Int) = (k : Int) := Go.IntWalk.i64_in _ ⟨by omega, by omega⟩
        clear hcell hgr
        have b5 : IntKind.i64.wrap ((k : Int) + 1 + 1) = (k : Int) + 1 + 1 := Go.IntWalk.i64_in _ ⟨by omega, by omega⟩
        have i0' : (0 : Int) ≤ (k : Int) := by omega
        have i1 : (k : Int) < n := by omega
        have i2 : (0 : Int) ≤ (k : Int) + 1 := by omega
        have i3 : (k : Int) + 1 < n := by omega
        have i4 : (0 : Int) ≤ (k : Int) + 1 + 1 := by omega
        have i5 : (k : Int) + 1 + 1 < n := by omega
        have i6 : (0 : Int) ≤ (k : Int) + 1 + 2 := by omega
        have i7 : (k : Int) + 1 + 2 < n := by omega
        have b6 : IntKind.i64.wrap ((k : Int) + 1 + 2) = (k : Int) + 1 + 2 := Go.IntWalk.i64_in _ ⟨by omega, by omega⟩
        generalize gx xs (k + 1 + 2) = x3 at *
        generalize gx xs (k + 1 + 1) = x2 at *
        generalize gx xs (k + 1) = x1 at *
        generalize gx xs k = x0 at *
        have d0 : IntKind.i64.wrap (x1 - x0) = x1 - x0 := Go.IntWalk.i64_in _ ⟨by omega, by omega⟩
        have d1 : IntKind.i64.wrap (x2 - x1) = x2 - x1 := Go.IntWalk.i64_in _ ⟨by omega, by omega⟩
        have d2 : IntKind.i64.wrap (x3 - x2) = x3 - x2 := Go.IntWalk.i64_in _ ⟨by omega, by omega⟩
        have d3 : IntKind.i64.wrap (-(x1 - x0)) = -(x1 - x0) := Go.IntWalk.i64_in _ ⟨by omega, by omega⟩
        cases e1 : (x1 - x0 != 0)
        · rw [e1] at HIN
          have HX := Lib.hid (HNO.out (by rw [HIN.out]; rfl))
          generalize idxT (isDg xs) (k + 1) = acc at *
          go_wp2
          go_quiet (fail)
          go_wp2
          go_roundg (n - (k + 1))
          case measure => omega
          case rel => exact ⟨k + 1, by omega, by omega, by go_num, by rw [HX.out]; exact HN.out.drewN _, below_drewN HB.out _⟩
        · cases e2 : (x2 - x1 == -(x1 - x0))
          · rw [e1, e2] at HIN
            have HX := Lib.hid (HNO.out (by rw [HIN.out]; rfl))
            generalize idxT (isDg xs) (k + 1) = acc at *
            go_wp2
            go_quiet (fail)
            go_wp2
            go_roundg (n - (k + 1))
            case measure => omega
            case rel => exact ⟨k + 1, by omega, by omega, by go_num, by rw [HX.out]; exact HN.out.drewN _, below_drewN HB.out _⟩
          · cases e3 : (x3 - x2 == x1 - x0)
            · rw [e1, e2, e3] at HIN
              have HX := Lib.hid (HNO.out (by rw [HIN.out]; rfl))
              generalize idxT (isDg xs) (k + 1) = acc at *
              go_wp2
              go_quiet (fail)
              go_wp2
              go_roundg (n - (k + 1))
              case measure => omega
              case rel => exact ⟨k + 1, by omega, by omega, by go_num, by rw [HX.out]; exact HN.out.drewN _, below_drewN HB.out _⟩
            · rw [e1, e2, e3] at HIN
              have HX := Lib.hid (HYES.out (by rw [HIN.out]; rfl))
              generalize idxT (isDg xs) (k + 1) = acc at *
              go_wp2
              go_quiet (fail)
              go_wp2_with (first | (at_builtin; refine wpList_app1 rfl (.tmp 63) (.tmp 65) 39 rfl 3 i0 (.int .i64 0) 8 Try.underlying39 I0.out.1 I0.out.2.1 I0.out.2.2.1 I0.out.2.2.2 rfl w.heap.size w _ _ rfl (HN.out.drewN _) rfl rfl hsz (below_drewN HB.out _) HLEN.out (by omega) ?_) | fail)
              intro v7 w7 hn7 hk7 hb7 hs7
              rw [HX.out] at hn7
              have HN7 := Lib.hid hn7
              have HB7 := Lib.hid hb7
              clear hn7 hk7 hb7
              go_wp2
              go_roundg (n - (k + 1))
              case measure => omega
              case rel => exact ⟨k + 1, by omega, by omega, by go_num, HN7.out, HB7.out⟩
      · have hend : idxT (isDg xs) n = idxT (isDg xs) (k + 1) := idxT_stop fun j hj => isDg_end (by rw [HNX.out]; omega)
        have HE := Lib.hid hend
        have hki : ¬ (k : Int) + 3 < n := by omega
        clear hend
        go_wp2
        go_ret2
        exact ⟨_, rfl, by rw [HE.out]; exact HN.out, HB.out⟩
  · have hf : goodX xs = false := by simpa using hg
    rw [if_neg hg]
    rw [hf] at HGP ⊢
    clear h hg hl ha hn hf
    go_enter Try.func39, Try.ntmps39
    go_wp2_with (first | (go_at_call 90; refine HGP.out.mono ?_; rintro e w1 ⟨rfl, rfl⟩) | fail)
    go_ret2
    exact ⟨_, rfl, New.nil _ _ _, Below.refl _ _⟩
end Go.Proofs.Ytpfnamiacagocaa
