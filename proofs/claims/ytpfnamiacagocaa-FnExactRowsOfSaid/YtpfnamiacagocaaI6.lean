/- RowsOf in the model. -/
import Derived.Test.YtpfnamiacagocaaI5
namespace Go.Proofs.Ytpfnamiacagocaa
open Go.RowKit
set_option linter.unusedSimpArgs false
set_option linter.unusedVariables false

set_option maxRecDepth 100000 in
set_option maxHeartbeats 1000000 in
theorem l1AllA_any (v : Value) (xs : List Int) (lo hi : Int) (w : World) (h : ArgI w v xs) (hl : xs.length ≤ 100000000) :
    Calls Try.prog 78 #[v, .int .i64 lo, .int .i64 hi] w fun e w' => e = .returned (.bool (allIn xs lo hi)) ∧ w = w' := by
  obtain ⟨n, hn⟩ : ∃ n, xs.length = n := ⟨_, rfl⟩
  obtain ⟨a, cap, rfl, ha⟩ := h
  rw [hn] at ha ⊢
  have HA := Lib.hid ha
  have HN := Lib.hid hn
  obtain ⟨res, hres⟩ : ∃ b, allIn xs lo hi = b := ⟨_, rfl⟩
  rw [hres]
  have HRES := Lib.hid hres
  have hni : (n : Int) ≤ 100000000 := by omega
  have HIN := Lib.hid (fun x w => l1In_any x lo hi w)
  clear ha hres hl hn
  go_enter Try.func78, Try.ntmps78
  go_wp2
  go_loopg [8, 11] n (fun q _ x wr => ∃ j : Nat, q + j = n ∧ x = .int .i64 j ∧ (∀ k, k < j → (decide (lo ≤ gx xs k) && decide (gx xs k ≤ hi)) = true) ∧ w = wr)
  case atStart => exact ⟨0, by omega, rfl, fun k hk => absurd hk (by omega), rfl⟩
  case round =>
    obtain ⟨j, hq, rfl, hok, rfl⟩ := hrel
    have HOK := Lib.hid hok
    clear hok
    by_cases hlt : j < n
    · have hjx : j < xs.length := by rw [HN.out]; exact hlt
      have hji : (j : Int) < n := by omega
      obtain ⟨ad, rfl, had, hcs⟩ := HA.out (by omega)
      have c1 := hcs j hlt
      clear hcs
      have HC := Lib.hid (fun w => HIN.out (gx xs j) w)
      obtain ⟨bb, hbb⟩ : ∃ b, (decide (lo ≤ gx xs j) && decide (gx xs j ≤ hi)) = b := ⟨_, rfl⟩
      rw [hbb] at HC
      have HBB := Lib.hid hbb
      have HNO : Hid (bb = false → res = false) := Lib.hid (fun h => by rw [← HRES.out]; exact allIn_no hjx (by rw [HBB.out]; exact h))
      clear hbb
      generalize hx : gx xs j = x0 at c1 HC
      clear hx
      cases bb
      · have hr := HNO.out rfl
        subst hr
        go_wp2_with (first | (go_at_call 77; refine (HC.out _).mono ?_; rintro e w2 ⟨rfl, rfl⟩) | fail)
        go_ret
        exact ⟨rfl, rfl⟩
      · go_wp2_with (first | (go_at_call 77; refine (HC.out _).mono ?_; rintro e w2 ⟨rfl, rfl⟩) | fail)
        go_roundg (n - (j + 1))
        case measure => omega
        case rel => exact ⟨j + 1, by omega, by go_num, fun k hk => by
          by_cases e : k = j
          · subst e; exact HBB.out
          · exact HOK.out k (by omega), rfl⟩
    · obtain rfl : j = n := by omega
      have hr : res = true := by rw [← HRES.out]; exact allIn_yes (fun i hi => HOK.out i (by rw [HN.out] at hi; exact hi))
      subst hr
      go_wp2
      go_ret
      exact ⟨rfl, rfl⟩


theorem dg_strOf2 {n : Nat} {f : Nat → Nat} (hf : ∀ i, i < n → f i < 256) {i : Nat} (hi : i < n) : dg (strOf n f) i = f i := by
  unfold dg
  rw [dif_pos (by rw [strOf_size]; exact hi)]
  exact strOf_get n f hf i _
theorem fill_small {f : Nat → Nat} {k : Nat} (hk : k ≤ 8) (j : Nat) : fill f (fun _ => 0) k j < 256 := by
  by_cases h : ∃ i, i < k ∧ f i - 49 = j
  · obtain ⟨i, hi, -, e⟩ := fill_hit f (fun _ => 0) k j h
    omega
  · rw [fill_free f _ k j (fun i hi e => h ⟨i, hi, e⟩)]
    omega
/-- the text that the places make is a row just where they are all different -/
theorem fill_row {F : List (List Int)} {i : Nat} (h3 : 3 ≤ F.length) (h8 : F.length ≤ 8) (hr : ∀ k, k < F.length → 1 ≤ pl F k i ∧ pl F k i ≤ F.length) :
    goodB (strOf F.length (fill (cF F F.length i) (fun _ => 0) F.length)) = colB F i := by
  by_cases hc : IsRow F.length (cF F F.length i)
  · rw [colB_yes hc, strOf_congr (fun j hj => fill_inv hc (fun _ => 0) j hj)]
    exact goodB_strOf (isRow_inv hc)
  · rw [colB_no hc]
    cases hg : goodB (strOf F.length (fill (cF F F.length i) (fun _ => 0) F.length))
    · rfl
    · exfalso
      have hrow := goodB_row hg
      rw [strOf_size] at hrow
      have hd : ∀ j, j < F.length → dg (strOf F.length (fill (cF F F.length i) (fun _ => 0) F.length)) j = fill (cF F F.length i) (fun _ => 0) F.length j := fun j hj => dg_strOf2 (fun t _ => fill_small h8 t) hj
      generalize dg (strOf F.length (fill (cF F F.length i) (fun _ => 0) F.length)) = R at hrow hd
      have hhit : ∀ j, j < F.length → ∃ t, t < F.length ∧ cF F F.length i t - 49 = j ∧ R j = 49 + t := fun j hj => by
        by_cases h : ∃ t, t < F.length ∧ cF F F.length i t - 49 = j
        · obtain ⟨t, h1, h2, h3⟩ := fill_hit (cF F F.length i) (fun _ => 0) F.length j h
          exact ⟨t, h1, h2, by rw [hd j hj]; exact h3⟩
        · have h1 := hd j hj
          rw [fill_free _ _ _ _ (fun t ht e => h ⟨t, ht, e⟩)] at h1
          have := hrow.lo j hj
          omega
      refine hc (col_yes h3 h8 hr fun s t hst ht e => ?_)
      have hon := fun u hu => pigeon F.length (fun j => R j - 49) (fun j hj => by obtain ⟨t, h1, -, h2⟩ := hhit j hj; omega) (fun a b ha hb hab => hrow.inj a b ha hb (by have := hrow.lo a ha; have := hrow.lo b hb; omega)) u hu
      obtain ⟨j1, hj1, e1⟩ := hon s (by omega)
      obtain ⟨j2, hj2, e2⟩ := hon t ht
      obtain ⟨t1, -, q1, r1⟩ := hhit j1 hj1
      obtain ⟨t2, -, q2, r2⟩ := hhit j2 hj2
      obtain rfl : t1 = s := by omega
      obtain rfl : t2 = t := by omega
      have c1 := cF_at (F := F) (n := F.length) (i := i) (show t1 < F.length by omega) (hr t1 (by omega)).1
      have c2 := cF_at (F := F) (n := F.length) (i := i) ht (hr t2 ht).1
      have : j1 = j2 := by omega
      subst this
      omega

/-- the first n bytes of f -/
def bytN (n : Nat) (f : Nat → Nat) : List Value := (List.range n).map fun j => .int .u8 (f j : Nat)
theorem bytN_len (n : Nat) (f : Nat → Nat) : (bytN n f).length = n := by simp [bytN]
theorem bytN_set (n : Nat) (f : Nat → Nat) (c x : Nat) (hc : c < n) : (bytN n f).set c (.int .u8 (x : Nat)) = bytN n (setF f c x) := by
  apply List.ext_getElem
  · simp [bytN]
  · intro i h1 h2
    rw [List.getElem_set]
    simp only [bytN, List.getElem_map, List.getElem_range, setF]
    by_cases e : c = i
    · subst e
      rw [if_pos rfl, if_pos rfl]
    · rw [if_neg e, if_neg (fun q => e q.symm)]
theorem bytN_at {n : Nat} {f : Nat → Nat} {j : Nat} (h : j < n) : (bytN n f)[j]? = some (.int .u8 (f j : Nat)) := by simp [bytN, h]
end Go.Proofs.Ytpfnamiacagocaa
