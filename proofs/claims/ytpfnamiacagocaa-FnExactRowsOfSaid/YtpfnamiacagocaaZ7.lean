/- DodgesIn and PointsIn in the model. -/
import Derived.Test.YtpfnamiacagocaaE13
namespace Go.Proofs.Ytpfnamiacagocaa
open Go.RowKit
set_option linter.unusedSimpArgs false
set_option linter.unusedVariables false

def allIn (xs : List Int) (lo hi : Int) : Bool := (List.range xs.length).all fun i => decide (lo ≤ gx xs i) && decide (gx xs i ≤ hi)
theorem allIn_no {xs : List Int} {lo hi : Int} {i : Nat} (hi2 : i < xs.length) (h : (decide (lo ≤ gx xs i) && decide (gx xs i ≤ hi)) = false) : allIn xs lo hi = false := by
  unfold allIn
  rw [List.all_eq_false]
  exact ⟨i, List.mem_range.2 hi2, by simp only [h]; simp⟩
theorem allIn_yes {xs : List Int} {lo hi : Int} (h : ∀ i, i < xs.length → (decide (lo ≤ gx xs i) && decide (gx xs i ≤ hi)) = true) : allIn xs lo hi = true := by
  unfold allIn
  rw [List.all_eq_true]
  exact fun i hi => h i (List.mem_range.1 hi)
theorem allIn_at {xs : List Int} {lo hi : Int} (h : allIn xs lo hi = true) {i : Nat} (hi2 : i < xs.length) : lo ≤ gx xs i ∧ gx xs i ≤ hi := by
  unfold allIn at h
  rw [List.all_eq_true] at h
  simpa using h i (List.mem_range.2 hi2)

set_option maxRecDepth 100000 in
set_option maxHeartbeats 1000000 in
theorem l1All_any (v : Value) (xs : List Int) (lo hi : Int) (w : World) (h : Own w 3 v (ints xs)) (hl : xs.length ≤ 100000000) :
    Calls Try.prog 78 #[v, .int .i64 lo, .int .i64 hi] w fun e w' => e = .returned (.bool (allIn xs lo hi)) ∧ w = w' := by
  obtain ⟨n, hn⟩ : ∃ n, xs.length = n := ⟨_, rfl⟩
  obtain ⟨a, cap, rfl, ha⟩ := h.viewI hn
  have HO := Lib.hid h
  have HA := Lib.hid ha
  have HN := Lib.hid hn
  obtain ⟨res, hres⟩ : ∃ b, allIn xs lo hi = b := ⟨_, rfl⟩
  rw [hres]
  have HRES := Lib.hid hres
  have hni : (n : Int) ≤ 100000000 := by omega
  have HIN := Lib.hid (fun x w => l1In_any x lo hi w)
  clear h ha hres hl hn
  go_enter Try.func78, Try.ntmps78
  go_wp2
  go_loopg [8, 11] n (fun q _ x wr => ∃ j : Nat, q + j = n ∧ x = .int .i64 j ∧ (∀ k, k < j → (decide (lo ≤ gx xs k) && decide (gx xs k ≤ hi)) = true) ∧ w = wr)
  case atStart => exact ⟨0, by omega, rfl, fun k hk => absurd hk (by omega), rfl⟩
  case round =>
    obtain ⟨j, hq, rfl, hok, rfl⟩ := hrel
    have HOK := Lib.hid hok
    clear hok
    by_cases hlt : j < n
    · have hjx : j < xs.length := by rw [HN.out]; exact hlt
      have hji : (j : Int) < n := by omega
      obtain ⟨g, rfl⟩ := HA.out (by omega)
      have c1 := HO.out.cell j _ (gx_at hjx)
      have HC := Lib.hid (fun w => HIN.out (gx xs j) w)
      obtain ⟨bb, hbb⟩ : ∃ b, (decide (lo ≤ gx xs j) && decide (gx xs j ≤ hi)) = b := ⟨_, rfl⟩
      rw [hbb] at HC
      have HBB := Lib.hid hbb
      have HNO : Hid (bb = false → res = false) := Lib.hid (fun h => by rw [← HRES.out]; exact allIn_no hjx (by rw [HBB.out]; exact h))
      clear hbb
      generalize hx : gx xs j = x0 at c1 HC
      clear hx
      cases bb
      · have hr := HNO.out rfl
        subst hr
        go_wp2_with (first | (go_at_call 77; refine (HC.out _).mono ?_; rintro e w2 ⟨rfl, rfl⟩) | fail)
        go_ret
        exact ⟨rfl, rfl⟩
      · go_wp2_with (first | (go_at_call 77; refine (HC.out _).mono ?_; rintro e w2 ⟨rfl, rfl⟩) | fail)
        go_roundg (n - (j + 1))
        case measure => omega
        case rel => exact ⟨j + 1, by omega, by go_num, fun k hk => by
          by_cases e : k = j
          · subst e; exact HBB.out
          · exact HOK.out k (by omega), rfl⟩
    · obtain rfl : j = n := by omega
      have hr : res = true := by rw [← HRES.out]; exact allIn_yes (fun i hi => HOK.out i (by rw [HN.out] at hi; exact hi))
      subst hr
      go_wp2
      go_ret
      exact ⟨rfl, rfl⟩

theorem goodX_in {xs : List Int} (h : goodX xs = true) {i : Nat} (hi : i + 1 < xs.length) : -1 ≤ IntKind.i64.wrap (gx xs (i + 1) - gx xs i) ∧ IntKind.i64.wrap (gx xs (i + 1) - gx xs i) ≤ 1 := by
  have h1 := okAt_one (goodX_at h (i := i) (by omega))
  have h2 := goodX_at h (i := i + 1) hi
  have h3 := okAt_one h2
  unfold okAt at h2
  rw [Nat.add_sub_cancel] at h2
  simp only [Bool.and_eq_true, Bool.or_eq_true, beq_iff_eq, decide_eq_true_eq] at h2
  have h4 := h2.2
  rw [Go.IntWalk.i64_in _ ⟨by omega, by omega⟩]
  omega
theorem goodX_of {xs : List Int} (h : ∀ i, i + 1 < xs.length → -1 ≤ IntKind.i64.wrap (gx xs (i + 1) - gx xs i) ∧ IntKind.i64.wrap (gx xs (i + 1) - gx xs i) ≤ 1) : goodX xs = (decide (xs.length ≤ 800) && allIn xs 1 8) := by
  by_cases h8 : xs.length ≤ 800
  · cases ha : allIn xs 1 8
    · rw [Bool.and_false]
      cases hg : goodX xs
      · rfl
      · rw [allIn_yes (fun i hi => by have := okAt_one (goodX_at hg hi); simp [this.1, this.2])] at ha
        cases ha
    · rw [Bool.and_true, decide_eq_true h8]
      refine goodX_yes h8 fun i hi => ?_
      have h1 := allIn_at ha hi
      cases i with
      | zero => exact okAt_first h1.1 h1.2
      | succ k =>
        have h2 := allIn_at ha (i := k) (by omega)
        have h3 := h k hi
        rw [Go.IntWalk.i64_in _ ⟨by omega, by omega⟩] at h3
        exact okAt_next h1.1 h1.2 (by omega) (by omega)
  · rw [goodX_long (by omega)]
    simp [h8]

set_option maxRecDepth 100000 in
set_option maxHeartbeats 1000000 in
theorem l5Good_any (v : Value) (xs : List Int) (w : World) (h : Own w 3 v (ints xs)) (hl : xs.length ≤ 100000000) :
    Calls Try.prog 90 #[v] w fun e w' => e = .returned (.bool (goodX xs)) ∧ w = w' := by
  obtain ⟨n, hn⟩ : ∃ n, xs.length = n := ⟨_, rfl⟩
  obtain ⟨a, cap, rfl, ha⟩ := h.viewI hn
  have HO := Lib.hid h
  have HA := Lib.hid ha
  have HN := Lib.hid hn
  obtain ⟨res, hres⟩ : ∃ b, goodX xs = b := ⟨_, rfl⟩
  rw [hres]
  have HRES := Lib.hid hres
  have hni : (n : Int) ≤ 100000000 := by omega
  have HIN := Lib.hid (fun x w => l1In_any x (-1) 1 w)
  have HALL := Lib.hid (fun w h => l1All_any (.slice a n cap) xs 1 8 w h hl)
  clear h ha hres hl hn
  go_enter Try.func90, Try.ntmps90
  go_wp2
  go_loopg [3, 4, 7] n (fun q _ _ x wr => ∃ j : Nat, q + j = n ∧ x = .int .i64 j ∧ (∀ k, k + 1 < j → -1 ≤ IntKind.i64.wrap (gx xs (k + 1) - gx xs k) ∧ IntKind.i64.wrap (gx xs (k + 1) - gx xs k) ≤ 1) ∧ w = wr)
  case atStart => exact ⟨0, by omega, rfl, fun k hk => absurd hk (by omega), rfl⟩
  case round =>
    obtain ⟨j, hq, rfl, hok, rfl⟩ := hrel
    have HOK := Lib.hid hok
    clear hok
    by_cases hlt : j < n
    · have hjx : j < xs.length := by rw [HN.out]; exact hlt
      have hji : (j : Int) < n := by omega
      obtain ⟨g, rfl⟩ := HA.out (by omega)
      have c1 := HO.out.cell j _ (gx_at hjx)
      by_cases hj0 : j = 0
      · subst hj0
        generalize gx xs 0 = x0 at *
        go_wp2_with fail
        go_roundg (n - 1)
        case measure => omega
        case rel => exact ⟨1, by omega, by go_num, fun k hk => absurd hk (by omega), rfl⟩
      · obtain ⟨i, rfl⟩ : ∃ i, j = i + 1 := ⟨j - 1, by omega⟩
        have c2 := HO.out.cell i _ (gx_at (xs := xs) (i := i) (by omega))
        have b4 : IntKind.i64.wrap ((i : Int) + 1 - 1) = (i : Int) := by rw [Int.add_sub_cancel]; exact Go.IntWalk.i64_in _ ⟨by omega, by omega⟩
        have hpos : (0 : Int) < (i : Int) + 1 := by omega
        have hi0 : (0 : Int) ≤ (i : Int) := by omega
        have hin : (i : Int) < n := by omega
        have HNO : Hid (¬ (-1 ≤ IntKind.i64.wrap (gx xs (i + 1) - gx xs i) ∧ IntKind.i64.wrap (gx xs (i + 1) - gx xs i) ≤ 1) → res = false) := Lib.hid (fun h => by
          rw [← HRES.out]
          cases hg : goodX xs
          · rfl
          · exact absurd (goodX_in hg hjx) h)
        obtain ⟨dd, hdd⟩ : ∃ d, IntKind.i64.wrap (gx xs (i + 1) - gx xs i) = d := ⟨_, rfl⟩
        rw [hdd] at HNO
        have HSV : Hid (IntKind.i64.wrap (gx xs (i + 1) - gx xs i) = dd) := Lib.hid hdd
        have HC := Lib.hid (fun w => HIN.out dd w)
        generalize hg1 : gx xs (i + 1) = x1 at c1 hdd
        generalize hg0 : gx xs i = x0 at c2 hdd
        clear hg1 hg0
        by_cases hb : -1 ≤ dd ∧ dd ≤ 1
        · have HB := Lib.hid hb
          rw [show (decide (-1 ≤ dd) && decide (dd ≤ 1)) = true from by simp [hb.1, hb.2]] at HC
          clear hb
          go_wp2_with (first | (go_at_call 77; refine (HC.out _).mono ?_; rintro e w2 ⟨rfl, rfl⟩) | fail)
          go_roundg (n - (i + 1 + 1))
          case measure => omega
          case rel => exact ⟨i + 1 + 1, by omega, by go_num, fun k hk => by
            by_cases e : k = i
            · rw [e]; rw [HSV.out]; exact HB.out
            · exact HOK.out k (by omega), rfl⟩
        · have hr := HNO.out hb
          subst hr
          rw [show (decide (-1 ≤ dd) && decide (dd ≤ 1)) = false from by
            cases h1 : decide (-1 ≤ dd)
            · rfl
            · cases h2 : decide (dd ≤ 1)
              · rfl
              · exact absurd ⟨by simpa using h1, by simpa using h2⟩ hb] at HC
          clear hb
          go_wp2_with (first | (go_at_call 77; refine (HC.out _).mono ?_; rintro e w2 ⟨rfl, rfl⟩) | fail)
          go_ret
          exact ⟨rfl, rfl⟩
    · obtain rfl : j = n := by omega
      have hr : res = (decide (j ≤ 800) && allIn xs 1 8) := by rw [← HRES.out, goodX_of (fun i hi => HOK.out i (by rw [HN.out] at hi; exact hi)), HN.out]
      have HAL := Lib.hid (HALL.out w HO.out)
      generalize allIn xs 1 8 = ai at *
      by_cases h8 : j ≤ 800
      · have h8i : (j : Int) ≤ 800 := by omega
        rw [decide_eq_true h8, Bool.true_and] at hr
        subst hr
        go_wp2_with (first | (go_at_call 78; refine HAL.out.mono ?_; rintro e w2 ⟨rfl, rfl⟩) | fail)
        go_ret
        exact ⟨rfl, rfl⟩
      · have h8i : ¬ (j : Int) ≤ 800 := by omega
        rw [decide_eq_false h8, Bool.false_and] at hr
        subst hr
        go_wp2_with fail
        go_ret
        exact ⟨rfl, rfl⟩
end Go.Proofs.Ytpfnamiacagocaa
