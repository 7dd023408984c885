/- RowsOf in the program: rows out of lists of places. One row out of lists of places, in the program. RowsOf in the program. RowsOf in the model. RowsOf in the model, the function. -/
import Derived.Test.YtpfnamiacagocaaMA
import Derived.Test.YtpfnamiacagocaaI1
namespace Go.Proofs.Ytpfnamiacagocaa
open Go.RowKit
set_option linter.unusedSimpArgs false
set_option linter.unusedVariables false

/-- list k, its number at index i; the digits that say which place each bell has at index i -/
def lk (F : List (List Int)) (k : Nat) : List Int := F.getD k []
def pl (F : List (List Int)) (k i : Nat) : Int := gx (lk F k) i
def cF (F : List (List Int)) (n i k : Nat) : Nat := if k < n then 48 + (pl F k i).toNat else 0
theorem cF_at {F : List (List Int)} {n i k : Nat} (hk : k < n) (h : 1 ≤ pl F k i) : (cF F n i k : Int) = 48 + pl F k i := by
  unfold cF
  rw [if_pos hk]
  omega
theorem col_range {F : List (List Int)} {n i : Nat} (h : IsRow n (cF F n i)) {k : Nat} (hk : k < n) : 1 ≤ pl F k i ∧ pl F k i ≤ n := by
  have h1 := h.lo k hk
  have h2 := h.hi k hk
  unfold cF at h1 h2
  rw [if_pos hk] at h1 h2
  omega
theorem col_dup {F : List (List Int)} {n i t k : Nat} (ht : t < k) (hk : k < n) (e : pl F t i = pl F k i) : ¬ IsRow n (cF F n i) := by
  intro h
  have := h.inj t k (by omega) hk (by unfold cF; rw [if_pos (by omega), if_pos hk, e])
  omega
theorem col_yes {F : List (List Int)} {n i : Nat} (h3 : 3 ≤ n) (h8 : n ≤ 8) (hr : ∀ k, k < n → 1 ≤ pl F k i ∧ pl F k i ≤ n) (hd : ∀ t k, t < k → k < n → pl F t i ≠ pl F k i) : IsRow n (cF F n i) := by
  refine isRow_mk h3 h8 (fun k hk => ?_) (fun k hk => ?_) (fun s t hs ht e => ?_) (fun k hk => by unfold cF; rw [if_neg (by omega)])
  · have := hr k hk; have := cF_at (F := F) hk this.1; omega
  · have := hr k hk; have := cF_at (F := F) hk this.1; omega
  · have h1 := cF_at (F := F) hs (hr s hs).1
    have h2 := cF_at (F := F) ht (hr t ht).1
    rw [e] at h1
    rcases Nat.lt_trichotomy s t with q | q | q
    · exact absurd (by omega) (hd s t q ht)
    · exact q
    · exact absurd (by omega) (hd t s q hs)

/-- v reads as these lists of numbers, wherever they lie -/
def LLI (W : World) (v : Value) (F : List (List Int)) : Prop :=
  ∃ a cap, v = .slice a F.length cap ∧ (0 < F.length → ∃ ad : Addr, a = some ad ∧ ad.block < W.heap.size ∧ ∀ k, k < F.length → ∃ u, W.cell? (ad.add k) = some u ∧ ArgI W u (lk F k))
theorem LLI.kept {W W' : World} {v : Value} {F : List (List Int)} (h : LLI W v F) (hb : Below W.heap.size W W') : LLI W' v F := by
  obtain ⟨a, cap, rfl, ha⟩ := h
  refine ⟨a, cap, rfl, fun h0 => ?_⟩
  obtain ⟨ad, rfl, hlt, hc⟩ := ha h0
  refine ⟨ad, rfl, Nat.lt_of_lt_of_le hlt hb.size, fun k hk => ?_⟩
  obtain ⟨u, h1, h2⟩ := hc k hk
  exact ⟨u, by rw [hb.cell (by rw [addI_block]; exact hlt)]; exact h1, h2.kept hb⟩

/-- all lists are of one length, from 1 to 800 -/
def EqLong (F : List (List Int)) : Prop := ∀ k, k < F.length → (lk F k).length = (lk F 0).length ∧ 1 ≤ (lk F k).length ∧ (lk F k).length ≤ 800
open Classical in
noncomputable def eqB (F : List (List Int)) : Bool := decide (EqLong F)
open Classical in
theorem eqB_no {F : List (List Int)} {k : Nat} (hk : k < F.length) (h : ¬ ((lk F k).length = (lk F 0).length ∧ 1 ≤ (lk F k).length ∧ (lk F k).length ≤ 800)) : eqB F = false := by
  unfold eqB
  rw [decide_eq_false_iff_not]
  exact fun e => h (e k hk)
open Classical in
theorem eqB_yes {F : List (List Int)} (h : EqLong F) : eqB F = true := by
  unfold eqB
  rw [decide_eq_true_eq]
  exact h
open Classical in
theorem eqB_of {F : List (List Int)} (h : eqB F = true) : EqLong F := by
  unfold eqB at h
  rwa [decide_eq_true_eq] at h

set_option maxRecDepth 100000 in
set_option maxHeartbeats 1000000 in
theorem equallyLong_any (v : Value) (F : List (List Int)) (w : World) (h : LLI w v F) (hl : F.length ≤ 2000000) (hm : ∀ k, (lk F k).length ≤ 9223372036854775807) :
    Calls Try.prog 65 #[v] w fun e w' => e = .returned (.bool (eqB F)) ∧ w = w' := by
  obtain ⟨n, hn⟩ : ∃ n, F.length = n := ⟨_, rfl⟩
  obtain ⟨a, cap, rfl, ha⟩ := h
  rw [hn] at ha ⊢
  have HA := Lib.hid ha
  have HN := Lib.hid hn
  have HM := Lib.hid hm
  obtain ⟨res, hres⟩ : ∃ b, eqB F = b := ⟨_, rfl⟩
  rw [hres]
  have HRES := Lib.hid hres
  have hni : (n : Int) ≤ 2000000 := by omega
  clear ha hn hm hres hl
  go_enter Try.func65, Try.ntmps65
  go_wp2
  go_loopg [4, 7] n (fun q _ x wr => ∃ j : Nat, q + j = n ∧ x = .int .i64 j ∧ (∀ k, k < j → (lk F k).length = (lk F 0).length ∧ 1 ≤ (lk F k).length ∧ (lk F k).length ≤ 800) ∧ w = wr)
  case atStart => exact ⟨0, by omega, rfl, fun k hk => absurd hk (by omega), rfl⟩
  case round =>
    obtain ⟨j, hq, rfl, hok, rfl⟩ := hrel
    have HOK := Lib.hid hok
    clear hok
    by_cases hlt : j < n
    · have hji : (j : Int) < n := by omega
      obtain ⟨ad, rfl, had, hc⟩ := HA.out (by omega)
      obtain ⟨u, c1, hu⟩ := hc j hlt
      obtain ⟨u0, c0, hu0⟩ := hc 0 (by omega)
      obtain ⟨a1, k1, rfl, -⟩ := hu
      obtain ⟨a0, k0, rfl, -⟩ := hu0
      have c00 : w.cell? ad = some (.slice a0 (lk F 0).length k0) := by
        have e0 : ad.add 0 = ad := by
          rcases ad with ⟨b, o, x⟩
          unfold Addr.add
          split <;> simp_all
        rw [e0] at c0
        exact c0
      have h0n : (0 : Int) < (n : Int) := by omega
      have HNO : Hid (¬ ((lk F j).length = (lk F 0).length ∧ 1 ≤ (lk F j).length ∧ (lk F j).length ≤ 800) → res = false) := Lib.hid (fun h => by rw [← HRES.out]; exact eqB_no (by rw [HN.out]; exact hlt) h)
      have hm1 := HM.out j
      have hm0 := HM.out 0
      have HOK2 : Hid ((lk F j).length = (lk F 0).length ∧ 1 ≤ (lk F j).length ∧ (lk F j).length ≤ 800 → ∀ k, k < j + 1 → (lk F k).length = (lk F 0).length ∧ 1 ≤ (lk F k).length ∧ (lk F k).length ≤ 800) := Lib.hid (fun h k hk => by
        by_cases e : k = j
        · rw [e]; exact h
        · exact HOK.out k (by omega))
      generalize hlj : (lk F j).length = lj at c1 HNO hm1
      generalize hl0 : (lk F 0).length = l0 at c0 c00 HNO hm0
      have HLJ := Lib.hid hlj
      have HL0 := Lib.hid hl0
      clear hlj hl0
      clear hc
      have hmj : (lj : Int) ≤ 9223372036854775807 := by omega
      have hmz : (l0 : Int) ≤ 9223372036854775807 := by omega
      by_cases h1 : lj = l0
      · have e1 : ((lj : Int) != (l0 : Int)) = false := by rw [bne_eq_false_iff_eq]; omega
        by_cases h2 : lj = 0
        · have hr := HNO.out (by omega)
          subst hr
          have e2 : ((lj : Int) == 0) = true := by rw [beq_iff_eq]; omega
          clear h1 h2
          go_wp2
          go_ret
          exact ⟨rfl, rfl⟩
        · have e2 : ((lj : Int) == 0) = false := by rw [beq_eq_false_iff_ne]; omega
          by_cases h3 : 800 < lj
          · have hr := HNO.out (by omega)
            subst hr
            have h3' : (800 : Int) < lj := by omega
            clear h1 h2
            go_wp2
            go_ret
            exact ⟨rfl, rfl⟩
          · have h3' : ¬ (800 : Int) < lj := by omega
            have HO2 := Lib.hid (HOK2.out ⟨by rw [HLJ.out, HL0.out]; exact h1, by rw [HLJ.out]; omega, by rw [HLJ.out]; omega⟩)
            clear h1 h2 h3
            go_wp2
            go_roundg (n - (j + 1))
            case measure => omega
            case rel => exact ⟨j + 1, by omega, by go_num, HO2.out, rfl⟩
      · have hr := HNO.out (fun h => h1 h.1)
        subst hr
        have e1 : ((lj : Int) != (l0 : Int)) = true := by rw [bne_iff_ne]; omega
        clear h1
        go_wp2
        go_ret
        exact ⟨rfl, rfl⟩
    · obtain rfl : j = n := by omega
      have hr : res = true := by rw [← HRES.out]; exact eqB_yes (fun k hk => HOK.out k (by rw [HN.out] at hk; exact hk))
      subst hr
      go_wp2
      go_ret
      exact ⟨rfl, rfl⟩
end Go.Proofs.Ytpfnamiacagocaa
namespace Go.Proofs.Ytpfnamiacagocaa
open Go.RowKit
set_option linter.unusedSimpArgs false
set_option linter.unusedVariables false

open Classical in
noncomputable def colB (F : List (List Int)) (i : Nat) : Bool := decide (IsRow F.length (cF F F.length i))
theorem colB_yes {F : List (List Int)} {i : Nat} (h : IsRow F.length (cF F F.length i)) : colB F i = true := by
  unfold colB
  simpa using h
theorem colB_no {F : List (List Int)} {i : Nat} (h : ¬ IsRow F.length (cF F F.length i)) : colB F i = false := by
  unfold colB
  simpa using h
theorem colB_row {F : List (List Int)} {i : Nat} (h : colB F i = true) : IsRow F.length (cF F F.length i) := by
  unfold colB at h
  simpa using h
theorem cF_minus {F : List (List Int)} {n i k c : Nat} (hk : k < n) (h : pl F k i = (c : Int) + 1) : cF F n i k - 49 = c := by
  have := cF_at (F := F) (i := i) hk (by omega)
  omega

/-- what rowAt gives: the digits, where there is such a row -/
def CutOut (res : Bool) (iv : Nat → Nat) (w : World) (e : Ending) (w' : World) : Prop := ∃ g : Nat → Nat, e = .returned (.tuple #[.agg (dig8 g), .bool res]) ∧ (res = true → dig8 g = dig8 iv) ∧ Below w.heap.size w w'

set_option maxRecDepth 100000 in
set_option maxHeartbeats 1000000 in
theorem rowAt_any (v : Value) (F : List (List Int)) (i : Nat) (w : World) (h : LLI w v F) (h3 : 3 ≤ F.length) (h8 : F.length ≤ 8) (hlen : ∀ k, k < F.length → i < (lk F k).length) (hm : ∀ k, (lk F k).length ≤ 9223372036854775807) :
    Calls Try.prog 66 #[v, .int .i64 i] w (CutOut (colB F i) (invF F.length (cF F F.length i)) w) := by
  obtain ⟨n, hn⟩ : ∃ n, F.length = n := ⟨_, rfl⟩
  obtain ⟨res, hres⟩ : ∃ b, colB F i = b := ⟨_, rfl⟩
  rw [hres]
  have HRES := Lib.hid hres
  have HYES : Hid (IsRow n (cF F n i) → res = true ∧ dig8 (fill (cF F n i) (fun _ => 0) n) = dig8 (invF n (cF F n i))) := Lib.hid (fun h => ⟨by rw [← hres]; exact colB_yes (by rw [hn]; exact h), fill_zero h⟩)
  have HNO : Hid (¬ IsRow n (cF F n i) → res = false) := Lib.hid (fun h => by rw [← hres]; exact colB_no (by rw [hn]; exact h))
  have HL := Lib.hid h
  obtain ⟨a, cap, rfl, -⟩ := h
  rw [hn] at h3 h8 hlen ⊢
  have hni : (n : Int) ≤ 8 := by omega
  have HLEN := Lib.hid hlen
  have HM := Lib.hid hm
  have HN := Lib.hid hn
  have HR0 := Lib.hid ((RowAt.new w 68 zero8).push (.cells zero8 68))
  have HZ0 : Hid (RowAt ((w.alloc (.cells zero8 68)).alloc (.cells zero8 68)) (w.heap.size + 1) 68 (dig8 (fill (cF F n i) (fun _ => 0) 0))) := Lib.hid (by
    rw [dig8_fill0]
    have := RowAt.new (w.alloc (.cells zero8 68)) 68 zero8
    simpa using this)
  have HB0 := Lib.hid (((Below.refl _ w).alloc (Nat.le_refl _) (.cells zero8 68)).alloc (by simp) (.cells zero8 68))
  obtain ⟨iv, hiv⟩ : ∃ g, invF n (cF F n i) = g := ⟨_, rfl⟩
  rw [hiv] at HYES ⊢
  have hii : (0 : Int) ≤ (i : Int) := by omega
  clear hres hn hlen hm hiv
  simp only [zero8] at HR0 HZ0 HB0
  go_enter Try.func66, Try.ntmps66
  go_wp2
  go_loopg [7, 8, 9, 12] n (fun q _ _ _ x wr => ∃ k : Nat, q + k = n ∧ x = .int .i64 k ∧ (∀ t, t < k → 1 ≤ pl F t i ∧ pl F t i ≤ n) ∧ (∀ s t, s < t → t < k → pl F s i ≠ pl F t i) ∧ RowAt wr w.heap.size 68 zero8 ∧ RowAt wr (w.heap.size + 1) 68 (dig8 (fill (cF F n i) (fun _ => 0) k)) ∧ Below w.heap.size w wr)
  case atStart => exact ⟨0, by omega, rfl, fun t ht => absurd ht (by omega), fun s t _ ht => absurd ht (by omega), HR0.out, HZ0.out, HB0.out⟩
  case round =>
    clear HR0 HZ0 HB0
    obtain ⟨k, hq, rfl, hrg, hds, hr0, hz0, hb0⟩ := hrel
    have HRG := Lib.hid hrg
    have HDS := Lib.hid hds
    have HR := Lib.hid hr0
    have HZ := Lib.hid hz0
    have HB := Lib.hid hb0
    clear hrg hds hr0 hz0 hb0
    by_cases hlt : k < n
    · have hki : (k : Int) < n := by omega
      obtain ⟨a', cap', hv, ha⟩ := HL.out.kept HB.out
      rw [HN.out] at hv ha
      injection hv with e1 e2 e3
      subst e1 e3
      obtain ⟨ad, rfl, had, hc⟩ := ha (by omega)
      obtain ⟨u, c1, hu⟩ := hc k hlt
      obtain ⟨a1, k1, rfl, hin⟩ := hu
      have hil := HLEN.out k hlt
      obtain ⟨ad1, rfl, had1, hc1⟩ := hin (by omega)
      have c2 : wr.cell? (ad1.add i) = some (.int .i64 (pl F k i)) := hc1 i hil
      have hmk := HM.out k
      have hil' : (i : Int) < (lk F k).length := by omega
      have hmk' : ((lk F k).length : Int) ≤ 9223372036854775807 := by omega
      have HUP : Hid (1 ≤ pl F k i ∧ pl F k i ≤ n → ∀ t, t < k + 1 → 1 ≤ pl F t i ∧ pl F t i ≤ n) := Lib.hid (fun h t ht => by
        by_cases e : t = k
        · rw [e]; exact h
        · exact HRG.out t (by omega))
      have HDP : Hid ((∀ t, t < k → pl F t i ≠ pl F k i) → ∀ s t, s < t → t < k + 1 → pl F s i ≠ pl F t i) := Lib.hid (fun h s t hst ht => by
        by_cases e : t = k
        · rw [e]; exact h s (by omega)
        · exact HDS.out s t hst (by omega))
      generalize hll : (lk F k).length = ll at *
      clear hc hc1 hin hll
      by_cases hlo : pl F k i < 1
      · have hr := HNO.out (fun h => by have := col_range h hlt; omega)
        subst hr
        generalize pl F k i = x0 at *
        go_wp2_with (first | (refine wpList_store_row rfl 68 _ _ rfl _ _ rfl rfl 68 _ (HR.out) (by kernel_rfl) rfl (by kernel_rfl) ?_) | fail)
        refine bodyPost_ret (results_row_tmp rfl _ _ w.heap.size 68 _ (0, 0) _ rfl (HR.out.row _) Try.underlying68 rfl (by kernel_rfl)) rfl ?_
        exact ⟨fun _ => 0, rfl, fun h => (Bool.noConfusion h), below_setRow HB.out (Nat.le_refl _) _⟩
      · by_cases hhi : (n : Int) < pl F k i
        · have hr := HNO.out (fun h => by have := col_range h hlt; omega)
          subst hr
          generalize pl F k i = x0 at *
          go_wp2_with (first | (refine wpList_store_row rfl 68 _ _ rfl _ _ rfl rfl 68 _ (HR.out) (by kernel_rfl) rfl (by kernel_rfl) ?_) | fail)
          refine bodyPost_ret (results_row_tmp rfl _ _ w.heap.size 68 _ (0, 0) _ rfl (HR.out.row _) Try.underlying68 rfl (by kernel_rfl)) rfl ?_
          exact ⟨fun _ => 0, rfl, fun h => (Bool.noConfusion h), below_setRow HB.out (Nat.le_refl _) _⟩
        · obtain ⟨c, hcx⟩ : ∃ c : Nat, pl F k i = (c : Int) + 1 := ⟨(pl F k i - 1).toNat, by omega⟩
          have hc8 : c < 8 := by omega
          have hcn : (c : Int) < 8 := by omega
          have hc0 : (0 : Int) ≤ (c : Int) := by omega
          have hcw : IntKind.i64.wrap ((c : Int) + 1 - 1) = (c : Int) := by rw [Int.add_sub_cancel]; exact Go.IntWalk.i64_in _ ⟨by omega, by omega⟩
          have hcw2 : IntKind.i64.wrap (c : Int) = (c : Int) := Go.IntWalk.i64_in _ ⟨by omega, by omega⟩
          have c3 := HZ.out.cell c (dig8_get _ c hc8)
          have f3 := HZ.out.free c
          have HUP2 := Lib.hid (HUP.out ⟨by omega, by omega⟩)
          by_cases hdup : ∃ t, t < k ∧ pl F t i = pl F k i
          · obtain ⟨t, ht, he⟩ := hdup
            have hr := HNO.out (col_dup ht hlt he)
            subst hr
            obtain ⟨t2, ht2, -, hfl⟩ := fill_hit (cF F n i) (fun _ => 0) k c ⟨t, ht, cF_minus (by omega) (by rw [he, hcx])⟩
            rw [hfl] at c3
            have hnz : (((49 + t2 : Nat) : Int) != 0) = true := by rw [bne_iff_ne]; omega
            have hnz2 : ((49 + (t2 : Int)) != 0) = true := by rw [bne_iff_ne]; omega
            rw [hcx] at c2 hhi hlo
            generalize pl F k i = x0 at *
            clear he hcx hfl
            go_wp2_with (first | (refine wpList_store_row rfl 68 _ _ rfl _ _ rfl rfl 68 _ (HR.out) (by kernel_rfl) rfl (by kernel_rfl) ?_) | fail)
            refine bodyPost_ret (results_row_tmp rfl _ _ w.heap.size 68 _ (0, 0) _ rfl (HR.out.row _) Try.underlying68 rfl (by kernel_rfl)) rfl ?_
            exact ⟨fun _ => 0, rfl, fun h => (Bool.noConfusion h), below_setRow HB.out (Nat.le_refl _) _⟩
          · have hnd : ∀ t, t < k → pl F t i ≠ pl F k i := fun t ht e => hdup ⟨t, ht, e⟩
            have HD2 := Lib.hid (HDP.out hnd)
            have hfr := fill_free (cF F n i) (fun _ => 0) k c (fun t ht e => hnd t ht (by
              have h1 := HRG.out t ht
              have h2 := cF_at (F := F) (n := n) (i := i) (k := t) (by omega) h1.1
              omega))
            rw [hfr] at c3
            have HCM := Lib.hid (cF_minus (F := F) (n := n) (i := i) hlt hcx)
            have hu8 : IntKind.u8.wrap (49 + (k : Int)) = ((49 + k : Nat) : Int) := by
              rw [show (49 : Int) + k = ((49 + k : Nat) : Int) by omega]
              simp [IntKind.wrap, IntKind.bits]
              omega
            have hk49 : IntKind.i64.wrap (49 + (k : Int)) = 49 + (k : Int) := Go.IntWalk.i64_in _ ⟨by omega, by omega⟩
            rw [hcx] at c2 hhi hlo
            generalize pl F k i = x0 at *
            clear hcx hnd hdup hfr
            go_wp2
            go_roundg (n - (k + 1))
            case measure => omega
            case rel =>
              refine ⟨k + 1, by omega, by go_num, HUP2.out, HD2.out, HR.out.other _ _ (by simp), ?_, HB.out.setCell (by simp) _⟩
              have := HZ.out.set c (.int .u8 (49 + k : Nat))
              rw [dig8_set _ _ _ hc8, ← HCM.out] at this
              rw [← HCM.out]
              exact this
    · obtain rfl : k = n := by omega
      have hrow : IsRow k (cF F k i) := col_yes h3 h8 HRG.out HDS.out
      obtain ⟨hr, hd⟩ := HYES.out hrow
      subst hr
      have HD := Lib.hid hd
      clear hrow hd
      go_wp2_with (first | (refine wpList_load_row rfl 68 _ rfl _ rfl 68 _ _ _ (HZ.out) Try.underlying68 rfl (by kernel_rfl) ?_) | (refine wpList_store_row rfl 68 _ _ rfl _ _ rfl rfl 68 _ (HR.out) (by kernel_rfl) rfl (by kernel_rfl) ?_) | fail)
      refine bodyPost_ret (results_row_tmp rfl _ _ w.heap.size 68 _ (0, 0) _ rfl (HR.out.row _) Try.underlying68 rfl (by kernel_rfl)) rfl ?_
      exact ⟨_, rfl, fun _ => HD.out, below_setRow HB.out (Nat.le_refl _) _⟩
end Go.Proofs.Ytpfnamiacagocaa
namespace Go.Proofs.Ytpfnamiacagocaa
open Go.RowKit
set_option linter.unusedSimpArgs false
set_option linter.unusedVariables false

noncomputable def colsB (F : List (List Int)) : Bool := (List.range (lk F 0).length).all (colB F)
noncomputable def rowsB (F : List (List Int)) : Bool := (decide (3 ≤ F.length) && decide (F.length ≤ 8)) && (eqB F && colsB F)
/-- row number i, as letters -/
def rowI (F : List (List Int)) (i : Nat) : List Nat := rowL F.length (invF F.length (cF F F.length i))
noncomputable def rowsT (F : List (List Int)) : List (List Nat) := if rowsB F = true then (List.range (lk F 0).length).map (rowI F) else []
theorem colsB_no {F : List (List Int)} {i : Nat} (hi : i < (lk F 0).length) (h : colB F i = false) : colsB F = false := by
  unfold colsB
  rw [List.all_eq_false]
  exact ⟨i, List.mem_range.2 hi, by simp [h]⟩
theorem colsB_yes {F : List (List Int)} (h : ∀ i, i < (lk F 0).length → colB F i = true) : colsB F = true := by
  unfold colsB
  rw [List.all_eq_true]
  exact fun i hi => h i (List.mem_range.1 hi)
theorem upto_one (f : Nat → List Nat) (j : Nat) : (List.range (j + 1)).map f = (List.range j).map f ++ [f j] := by simp [List.range_succ]

set_option maxRecDepth 100000 in
set_option maxHeartbeats 1000000 in
theorem iRowsOf_any (v : Value) (F : List (List Int)) (w : World) (h : LLI w v F) (hl : F.length ≤ 2000000) (hm : ∀ k, (lk F k).length ≤ 9223372036854775807) :
    Calls Try.prog 18 #[v] w (TextsAny (rowsT F) (rowsB F) w) := by
  obtain ⟨n, hn⟩ : ∃ n, F.length = n := ⟨_, rfl⟩
  have HL := Lib.hid h
  have HEQ := Lib.hid (fun w h => equallyLong_any v F w h hl hm)
  have hGS := fun w => goodStage_any (n : Int) w
  obtain ⟨a, cap, rfl, -⟩ := id h
  have hni : (n : Int) ≤ 2000000 := by omega
  by_cases hst : 3 ≤ n ∧ n ≤ 8
  · rw [show (decide (3 ≤ (n : Int)) && decide ((n : Int) ≤ 8)) = true from by
      rw [Bool.and_eq_true, decide_eq_true_eq, decide_eq_true_eq]; omega] at hGS
    have HGS := Lib.hid hGS
    have hb : rowsB F = (eqB F && colsB F) := by
      unfold rowsB
      rw [hn, decide_eq_true hst.1, decide_eq_true hst.2]
      rfl
    rw [hn]
    by_cases heq : eqB F = true
    · have hlong := eqB_of heq
      have hl0 := hlong 0 (by omega)
      rw [heq, Bool.true_and] at hb
      rw [heq] at HEQ
      have HRA := Lib.hid (fun i (hi : i < (lk F 0).length) w h => rowAt_any (.slice a F.length cap) F i w h (by omega) (by omega) (fun k hk => by have := hlong k hk; omega) hm)
      unfold CutOut at HRA
      rw [hn] at HRA HEQ HL
      have HROW : Hid (∀ i, colB F i = true → ∀ w, Calls Try.prog 67 #[.agg (dig8 (invF n (cF F n i)))] w fun e w' => e = .returned (.string (txt (rowI F i))) ∧ Below w.heap.size w w') := Lib.hid (fun i hi w => by
        have hr := colB_row hi
        rw [hn] at hr
        have := row_any n _ (isDig_of (isRow_inv hr)) w
        unfold rowI
        rw [txt_rowL, hn]
        exact this)
      have hlen0 : (lk F 0).length = (lk F 0).length := rfl
      obtain ⟨res, hres⟩ : ∃ b, colsB F = b := ⟨_, rfl⟩
      have HCN : Hid (∀ i, i < (lk F 0).length → colB F i = false → res = false) := Lib.hid (fun i hi h => by rw [← hres]; exact colsB_no hi h)
      have HCY : Hid ((∀ i, i < (lk F 0).length → colB F i = true) → res = true) := Lib.hid (fun h => by rw [← hres]; exact colsB_yes h)
      have hT : rowsT F = if res = true then (List.range (lk F 0).length).map (rowI F) else [] := by
        unfold rowsT
        rw [hb, hres]
      obtain ⟨out, hout⟩ : ∃ o, (if res = true then (List.range (lk F 0).length).map (rowI F) else []) = o := ⟨_, rfl⟩
      rw [hT, hb, hres, hout]
      have HON : Hid (res = false → out = []) := Lib.hid (fun h => by rw [← hout, h]; rfl)
      have HOY : Hid (res = true → out = (List.range (lk F 0).length).map (rowI F)) := Lib.hid (fun h => by rw [← hout, h]; rfl)
      generalize hll : (lk F 0).length = m at *
      have HLL := Lib.hid hll
      have hmi : (m : Int) ≤ 800 := by omega
      obtain ⟨i0, hi0, hz0, hz1, hz2⟩ := info_parts infoText
      have I0 := Lib.hid (⟨hi0, hz0, hz1, hz2⟩ : _ ∧ _ ∧ _ ∧ _)
      have HN3 := Lib.hid (show 3 ≤ F.length by omega)
      have h0n : (0 : Int) < (n : Int) := by omega
      clear hi0 hz0 hz1 hz2 hb hT hres hout hlong hl0 heq h hl hm hst hlen0 hll
      have H0 : Hid (∀ wr, Below w.heap.size w wr → ∃ ad a0 k0, a = some ad ∧ wr.cell? ad = some (.slice a0 m k0)) := Lib.hid (fun wr hb => by
        obtain ⟨a', cap', hv, ha⟩ := HL.out.kept hb
        injection hv with e1 e2 e3
        subst e1 e3
        obtain ⟨ad, rfl, had, hc⟩ := ha (by have := HN3.out; omega)
        obtain ⟨u0, c0, hu0⟩ := hc 0 (by have := HN3.out; omega)
        obtain ⟨a0, k0, rfl, -⟩ := hu0
        refine ⟨ad, a0, k0, rfl, ?_⟩
        have e0 : ad.add 0 = ad := by
          rcases ad with ⟨b, o, x⟩
          unfold Addr.add
          split <;> simp_all
        rw [e0, HLL.out] at c0
        exact c0)
      obtain ⟨ad, a0, k0, rfl, c00⟩ := H0.out w (Below.refl _ _)
      clear H0
      go_enter Try.func18, Try.ntmps18
      go_wp2_with (first | (go_at_call 64; refine (HGS.out _).mono ?_; rintro e w1 ⟨rfl, rfl⟩) | (go_at_call 65; refine (HEQ.out _ HL.out).mono ?_; rintro e w1 ⟨rfl, rfl⟩) | fail)
      go_loopg [4, 21] m (fun q ov x wr => ∃ j : Nat, q + j = m ∧ x = .int .i64 j ∧ (∀ t, t < j → colB F t = true) ∧ New w.heap.size wr 9 ov (strs ((List.range j).map (rowI F))) ∧ Below w.heap.size w wr)
      case atStart => exact ⟨0, by omega, rfl, fun t ht => absurd ht (by omega), New.nil _ _ _, Below.refl _ _⟩
      case round =>
        obtain ⟨j, hq, rfl, hok, hnw, hb⟩ := hrel
        have HOK := Lib.hid hok
        have HN := Lib.hid hnw
        have HB := Lib.hid hb
        have hsz : w.heap.size ≤ wr.heap.size := hb.size
        obtain ⟨a9, c9, hv9, -⟩ := hnw.own.view
        subst hv9
        clear hok hnw hb
        by_cases hlt : j < m
        · have hji : (j : Int) < m := by omega
          have HC := Lib.hid (HRA.out j hlt wr (HL.out.kept HB.out))
          cases hcol : colB F j
          · have hr := HCN.out j hlt hcol
            have ho := HON.out hr
            subst hr
            subst ho
            rw [hcol] at HC
            clear hcol
            go_wp2_with fail
            refine HC.out.mono ?_
            rintro e w5 ⟨g, rfl, -, hb5⟩
            have HB5 := Lib.hid (HB.out.trans (hb5.mono hsz))
            have HB6 := Lib.hid (HB5.out.alloc HB5.out.size (.cells (dig8 g) 68))
            clear hb5
            simp only [dig8] at HB6 ⊢
            go_wp2_with (first | (refine wpList_store_row rfl 68 _ _ rfl _ _ rfl rfl 68 _ (heap_at _ _ _ (by simp)) (by kernel_rfl) rfl (by kernel_rfl) ?_; rw [setRow_at _ _ _ _ _ (by simp)]) | fail)
            go_ret2
            exact ⟨_, rfl, New.nil _ _ _, HB6.out⟩
          · have HRW := Lib.hid (HROW.out j hcol)
            have HOK2 : Hid (∀ t, t < j + 1 → colB F t = true) := Lib.hid (fun t ht => by
              by_cases e : t = j
              · rw [e]; exact hcol
              · exact HOK.out t (by omega))
            rw [hcol] at HC
            have HSN : Hid (strs ((List.range j).map (rowI F)) ++ [.string (txt (rowI F j))] = strs ((List.range (j + 1)).map (rowI F))) := Lib.hid (by rw [upto_one, strs_snoc])
            have hlen : (strs ((List.range j).map (rowI F))).length ≤ 100000 := by rw [strs_len, List.length_map, List.length_range]; omega
            have HLEN := Lib.hid hlen
            generalize (List.range j).map (rowI F) = acc at *
            generalize invF n (cF F n j) = iv at *
            generalize txt (rowI F j) = tx at *
            clear hcol hlen
            go_wp2_with fail
            refine HC.out.mono ?_
            rintro e w5 ⟨g, rfl, hg, hb5⟩
            rw [hg trivial]
            have HB5 := Lib.hid (HB.out.trans (hb5.mono hsz))
            have HB6 := Lib.hid (HB5.out.alloc HB5.out.size (.cells (dig8 iv) 68))
            have HN6 := Lib.hid ((HN.out.kept hb5).kept ((Below.refl _ _).alloc (Nat.le_refl _) (.cells (dig8 iv) 68)))
            have HR6 := Lib.hid (RowAt.new w5 68 (dig8 iv))
            clear hb5 hg HN HB
            simp only [dig8] at HB6 HN6 HR6 HRW ⊢
            go_wp2_with (first | (refine wpList_store_row rfl 68 _ _ rfl _ _ rfl rfl 68 _ (heap_at _ _ _ (by simp)) (by kernel_rfl) rfl (by kernel_rfl) ?_; rw [setRow_at _ _ _ _ _ (by simp)]) | (refine wpList_load_row rfl 68 _ rfl _ rfl 68 _ _ _ (HR6.out) Try.underlying68 rfl (by kernel_rfl) ?_) | fail)
            refine (HRW.out _).mono ?_
            rintro e w7 ⟨rfl, hb7⟩
            have HB7 := Lib.hid (HB6.out.trans (hb7.mono HB6.out.size))
            have HN7 := Lib.hid (HN6.out.kept hb7)
            have hs7 := HB7.out.size
            clear hb7 HB6 HN6
            go_wp2_with (first | (at_builtin; refine wpList_app1 rfl (.tmp 32) (.tmp 35) 24 rfl 9 i0 (.string ⟨#[]⟩) 16 Try.underlying24 I0.out.1 I0.out.2.1 I0.out.2.2.1 I0.out.2.2.2 rfl w.heap.size w _ _ rfl HN7.out rfl rfl hs7 HB7.out HLEN.out (by omega) ?_) | fail)
            intro v8 w8 hn8 hk8 hb8 hs8
            rw [HSN.out] at hn8
            have HN8 := Lib.hid hn8
            have HB8 := Lib.hid hb8
            clear hn8 hk8 hb8
            go_wp2
            go_roundg (m - (j + 1))
            case measure => omega
            case rel => exact ⟨j + 1, by omega, by go_num, HOK2.out, HN8.out, HB8.out⟩
        · obtain rfl : j = m := by omega
          have hr := HCY.out (fun i hi => HOK.out i hi)
          have ho := HOY.out hr
          subst hr
          generalize (List.range j).map (rowI F) = acc at *
          subst ho
          go_wp2
          go_ret2
          exact ⟨_, rfl, HN.out, HB.out⟩
    · have hf : eqB F = false := by simpa using heq
      have hb2 : rowsB F = false := by rw [hb, hf]; rfl
      have hT : rowsT F = [] := by unfold rowsT; rw [hb2]; rfl
      rw [hT, hb2]
      rw [hf, hn] at HEQ
      rw [hn] at HL
      clear hb hb2 hT heq hf h hl hm hst
      go_enter Try.func18, Try.ntmps18
      go_wp2_with (first | (go_at_call 64; refine (HGS.out _).mono ?_; rintro e w1 ⟨rfl, rfl⟩) | (go_at_call 65; refine (HEQ.out _ HL.out).mono ?_; rintro e w1 ⟨rfl, rfl⟩) | fail)
      go_ret2
      exact ⟨_, rfl, New.nil _ _ _, Below.refl _ _⟩
  · have hst2 : (decide (3 ≤ (n : Int)) && decide ((n : Int) ≤ 8)) = false := by
      cases h1 : decide (3 ≤ (n : Int))
      · rfl
      · cases h2 : decide ((n : Int) ≤ 8)
        · rfl
        · rw [decide_eq_true_eq] at h1 h2
          exact absurd ⟨by omega, by omega⟩ hst
    have hst3 : (decide (3 ≤ n) && decide (n ≤ 8)) = false := by
      cases h1 : decide (3 ≤ n)
      · rfl
      · cases h2 : decide (n ≤ 8)
        · rfl
        · rw [decide_eq_true_eq] at h1 h2
          exact absurd ⟨h1, h2⟩ hst
    rw [hst2] at hGS
    have HGS := Lib.hid hGS
    have hb2 : rowsB F = false := by unfold rowsB; rw [hn, hst3]; rfl
    have hT : rowsT F = [] := by unfold rowsT; rw [hb2]; rfl
    rw [hT, hb2, hn]
    clear hb2 hT h hl hm hst hst2 hst3 hGS
    go_enter Try.func18, Try.ntmps18
    go_wp2_with (first | (go_at_call 64; refine (HGS.out _).mono ?_; rintro e w1 ⟨rfl, rfl⟩) | fail)
    go_ret2
    exact ⟨_, rfl, New.nil _ _ _, Below.refl _ _⟩
end Go.Proofs.Ytpfnamiacagocaa
namespace Go.Proofs.Ytpfnamiacagocaa
open Go.RowKit
set_option linter.unusedSimpArgs false
set_option linter.unusedVariables false

set_option maxRecDepth 100000 in
set_option maxHeartbeats 1000000 in
theorem l1AllA_any (v : Value) (xs : List Int) (lo hi : Int) (w : World) (h : ArgI w v xs) (hl : xs.length ≤ 100000000) :
    Calls Try.prog 78 #[v, .int .i64 lo, .int .i64 hi] w fun e w' => e = .returned (.bool (allIn xs lo hi)) ∧ w = w' := by
  obtain ⟨n, hn⟩ : ∃ n, xs.length = n := ⟨_, rfl⟩
  obtain ⟨a, cap, rfl, ha⟩ := h
  rw [hn] at ha ⊢
  have HA := Lib.hid ha
  have HN := Lib.hid hn
  obtain ⟨res, hres⟩ : ∃ b, allIn xs lo hi = b := ⟨_, rfl⟩
  rw [hres]
  have HRES := Lib.hid hres
  have hni : (n : Int) ≤ 100000000 := by omega
  have HIN := Lib.hid (fun x w => l1In_any x lo hi w)
  clear ha hres hl hn
  go_enter Try.func78, Try.ntmps78
  go_wp2
  go_loopg [8, 11] n (fun q _ x wr => ∃ j : Nat, q + j = n ∧ x = .int .i64 j ∧ (∀ k, k < j → (decide (lo ≤ gx xs k) && decide (gx xs k ≤ hi)) = true) ∧ w = wr)
  case atStart => exact ⟨0, by omega, rfl, fun k hk => absurd hk (by omega), rfl⟩
  case round =>
    obtain ⟨j, hq, rfl, hok, rfl⟩ := hrel
    have HOK := Lib.hid hok
    clear hok
    by_cases hlt : j < n
    · have hjx : j < xs.length := by rw [HN.out]; exact hlt
      have hji : (j : Int) < n := by omega
      obtain ⟨ad, rfl, had, hcs⟩ := HA.out (by omega)
      have c1 := hcs j hlt
      clear hcs
      have HC := Lib.hid (fun w => HIN.out (gx xs j) w)
      obtain ⟨bb, hbb⟩ : ∃ b, (decide (lo ≤ gx xs j) && decide (gx xs j ≤ hi)) = b := ⟨_, rfl⟩
      rw [hbb] at HC
      have HBB := Lib.hid hbb
      have HNO : Hid (bb = false → res = false) := Lib.hid (fun h => by rw [← HRES.out]; exact allIn_no hjx (by rw [HBB.out]; exact h))
      clear hbb
      generalize hx : gx xs j = x0 at c1 HC
      clear hx
      cases bb
      · have hr := HNO.out rfl
        subst hr
        go_wp2_with (first | (go_at_call 77; refine (HC.out _).mono ?_; rintro e w2 ⟨rfl, rfl⟩) | fail)
        go_ret
        exact ⟨rfl, rfl⟩
      · go_wp2_with (first | (go_at_call 77; refine (HC.out _).mono ?_; rintro e w2 ⟨rfl, rfl⟩) | fail)
        go_roundg (n - (j + 1))
        case measure => omega
        case rel => exact ⟨j + 1, by omega, by go_num, fun k hk => by
          by_cases e : k = j
          · subst e; exact HBB.out
          · exact HOK.out k (by omega), rfl⟩
    · obtain rfl : j = n := by omega
      have hr : res = true := by rw [← HRES.out]; exact allIn_yes (fun i hi => HOK.out i (by rw [HN.out] at hi; exact hi))
      subst hr
      go_wp2
      go_ret
      exact ⟨rfl, rfl⟩


theorem dg_strOf2 {n : Nat} {f : Nat → Nat} (hf : ∀ i, i < n → f i < 256) {i : Nat} (hi : i < n) : dg (strOf n f) i = f i := by
  unfold dg
  rw [dif_pos (by rw [strOf_size]; exact hi)]
  exact strOf_get n f hf i _
theorem fill_small {f : Nat → Nat} {k : Nat} (hk : k ≤ 8) (j : Nat) : fill f (fun _ => 0) k j < 256 := by
  by_cases h : ∃ i, i < k ∧ f i - 49 = j
  · obtain ⟨i, hi, -, e⟩ := fill_hit f (fun _ => 0) k j h
    omega
  · rw [fill_free f _ k j (fun i hi e => h ⟨i, hi, e⟩)]
    omega
/-- the text that the places make is a row just where they are all different -/
theorem fill_row {F : List (List Int)} {i : Nat} (h3 : 3 ≤ F.length) (h8 : F.length ≤ 8) (hr : ∀ k, k < F.length → 1 ≤ pl F k i ∧ pl F k i ≤ F.length) :
    goodB (strOf F.length (fill (cF F F.length i) (fun _ => 0) F.length)) = colB F i := by
  by_cases hc : IsRow F.length (cF F F.length i)
  · rw [colB_yes hc, strOf_congr (fun j hj => fill_inv hc (fun _ => 0) j hj)]
    exact goodB_strOf (isRow_inv hc)
  · rw [colB_no hc]
    cases hg : goodB (strOf F.length (fill (cF F F.length i) (fun _ => 0) F.length))
    · rfl
    · exfalso
      have hrow := goodB_row hg
      rw [strOf_size] at hrow
      have hd : ∀ j, j < F.length → dg (strOf F.length (fill (cF F F.length i) (fun _ => 0) F.length)) j = fill (cF F F.length i) (fun _ => 0) F.length j := fun j hj => dg_strOf2 (fun t _ => fill_small h8 t) hj
      generalize dg (strOf F.length (fill (cF F F.length i) (fun _ => 0) F.length)) = R at hrow hd
      have hhit : ∀ j, j < F.length → ∃ t, t < F.length ∧ cF F F.length i t - 49 = j ∧ R j = 49 + t := fun j hj => by
        by_cases h : ∃ t, t < F.length ∧ cF F F.length i t - 49 = j
        · obtain ⟨t, h1, h2, h3⟩ := fill_hit (cF F F.length i) (fun _ => 0) F.length j h
          exact ⟨t, h1, h2, by rw [hd j hj]; exact h3⟩
        · have h1 := hd j hj
          rw [fill_free _ _ _ _ (fun t ht e => h ⟨t, ht, e⟩)] at h1
          have := hrow.lo j hj
          omega
      refine hc (col_yes h3 h8 hr fun s t hst ht e => ?_)
      have hon := fun u hu => pigeon F.length (fun j => R j - 49) (fun j hj => by obtain ⟨t, h1, -, h2⟩ := hhit j hj; omega) (fun a b ha hb hab => hrow.inj a b ha hb (by have := hrow.lo a ha; have := hrow.lo b hb; omega)) u hu
      obtain ⟨j1, hj1, e1⟩ := hon s (by omega)
      obtain ⟨j2, hj2, e2⟩ := hon t ht
      obtain ⟨t1, -, q1, r1⟩ := hhit j1 hj1
      obtain ⟨t2, -, q2, r2⟩ := hhit j2 hj2
      obtain rfl : t1 = s := by omega
      obtain rfl : t2 = t := by omega
      have c1 := cF_at (F := F) (n := F.length) (i := i) (show t1 < F.length by omega) (hr t1 (by omega)).1
      have c2 := cF_at (F := F) (n := F.length) (i := i) ht (hr t2 ht).1
      have : j1 = j2 := by omega
      subst this
      omega

/-- the first n bytes of f -/
def bytN (n : Nat) (f : Nat → Nat) : List Value := (List.range n).map fun j => .int .u8 (f j : Nat)
theorem bytN_len (n : Nat) (f : Nat → Nat) : (bytN n f).length = n := by simp [bytN]
theorem bytN_set (n : Nat) (f : Nat → Nat) (c x : Nat) (hc : c < n) : (bytN n f).set c (.int .u8 (x : Nat)) = bytN n (setF f c x) := by
  apply List.ext_getElem
  · simp [bytN]
  · intro i h1 h2
    rw [List.getElem_set]
    simp only [bytN, List.getElem_map, List.getElem_range, setF]
    by_cases e : c = i
    · subst e
      rw [if_pos rfl, if_pos rfl]
    · rw [if_neg e, if_neg (fun q => e q.symm)]
theorem bytN_at {n : Nat} {f : Nat → Nat} {j : Nat} (h : j < n) : (bytN n f)[j]? = some (.int .u8 (f j : Nat)) := by simp [bytN, h]
end Go.Proofs.Ytpfnamiacagocaa
namespace Go.Proofs.Ytpfnamiacagocaa
open Go.RowKit
set_option linter.unusedSimpArgs false
set_option linter.unusedVariables false

theorem allIn_fail {xs : List Int} {lo hi : Int} (h : allIn xs lo hi = false) : ∃ i, i < xs.length ∧ ¬ (lo ≤ gx xs i ∧ gx xs i ≤ hi) := by
  unfold allIn at h
  rw [List.all_eq_false] at h
  obtain ⟨i, hi, h⟩ := h
  exact ⟨i, List.mem_range.1 hi, by simpa using h⟩
theorem rowI_txt {F : List (List Int)} {n i : Nat} (hn : F.length = n) (hc : colB F i = true) : strOf n (fill (cF F n i) (fun _ => 0) n) = txt (rowI F i) := by
  have h := colB_row hc
  unfold rowI
  rw [txt_rowL]
  subst hn
  exact strOf_congr (fun j hj => fill_inv h (fun _ => 0) j hj)

set_option maxRecDepth 100000 in
set_option maxHeartbeats 1000000 in
theorem sRowsOf_any (v : Value) (F : List (List Int)) (w : World) (h : LLI w v F) (hl : F.length ≤ 2000000) (hm : ∀ k, (lk F k).length ≤ 100000000) :
    Calls Try.prog 27 #[v] w (TextsAny (rowsT F) (rowsB F) w) := by
  obtain ⟨n, hn⟩ : ∃ n, F.length = n := ⟨_, rfl⟩
  have HL := Lib.hid h
  obtain ⟨a, cap, rfl, -⟩ := id h
  have hni : (n : Int) ≤ 2000000 := by omega
  have HIN := Lib.hid (fun x a b w => l1In_any x a b w)
  obtain ⟨res, hres⟩ : ∃ b, rowsB F = b := ⟨_, rfl⟩
  obtain ⟨out, hout⟩ : ∃ o, rowsT F = o := ⟨_, rfl⟩
  rw [hres, hout]
  have HON : Hid (res = false → out = []) := Lib.hid (fun h => by rw [← hout]; unfold rowsT; rw [hres, h]; rfl)
  by_cases hst : 3 ≤ n ∧ n ≤ 8
  · obtain ⟨h3, h8⟩ := hst
    obtain ⟨m, hll⟩ : ∃ m, (lk F 0).length = m := ⟨_, rfl⟩
    have hb : rowsB F = (eqB F && colsB F) := by
      unfold rowsB
      rw [hn, decide_eq_true h3, decide_eq_true h8]
      rfl
    have HOY : Hid (res = true → out = (List.range m).map (rowI F)) := Lib.hid (fun h => by rw [← hout, ← hll]; unfold rowsT; rw [hres, h]; rfl)
    have HEQ : Hid (∀ k, k < n → ¬ ((lk F k).length = m ∧ 1 ≤ (lk F k).length ∧ (lk F k).length ≤ 800) → res = false) := Lib.hid (fun k hk h => by
      rw [← hres, hb, eqB_no (by rw [hn]; exact hk) (by rw [hll]; exact h)]; rfl)
    have HCN : Hid (∀ i, i < m → colB F i = false → res = false) := Lib.hid (fun i hi h => by
      rw [← hres, hb, colsB_no (by rw [hll]; exact hi) h, Bool.and_false])
    have HRG : Hid (∀ k, k < n → (lk F k).length = m → allIn (lk F k) 1 n = false → res = false) := Lib.hid (fun k hk he h => by
      obtain ⟨i, hi, hno⟩ := allIn_fail h
      refine HCN.out i (by omega) (colB_no (fun hr => hno ?_))
      rw [hn] at hr
      exact col_range hr hk)
    have HY : Hid (1 ≤ m → m ≤ 800 → (∀ k, k < n → (lk F k).length = m) → (∀ i, i < m → colB F i = true) → res = true) := Lib.hid (fun h1 h2 h3 h4 => by
      rw [← hres, hb, eqB_yes (fun k hk => by rw [hn] at hk; rw [h3 k hk, hll]; exact ⟨rfl, h1, h2⟩), colsB_yes (by rw [hll]; exact h4)]; rfl)
    have HN0 := Lib.hid hn
    have HM := Lib.hid hm
    have HLL := Lib.hid hll
    rw [hn] at h ⊢
    have hmi : (m : Int) ≤ 100000000 := by have := hm 0; omega
    obtain ⟨i0, hi0, hz0, hz1, hz2⟩ := info_parts infoText
    have I0 := Lib.hid (⟨hi0, hz0, hz1, hz2⟩ : _ ∧ _ ∧ _ ∧ _)
    obtain ⟨i8, hi8, hy0, hy1, hy2⟩ := info_parts infoByte
    have I8 := Lib.hid (⟨hi8, hy0, hy1, hy2⟩ : _ ∧ _ ∧ _ ∧ _)
    have h0n : (0 : Int) < (n : Int) := by omega
    have hr0 : (0 : Int) ≤ (0 : Int) := by omega
    have d3 : decide (3 ≤ (n : Int)) = true := by rw [decide_eq_true_eq]; omega
    have d8 : decide ((n : Int) ≤ 8) = true := by rw [decide_eq_true_eq]; omega
    clear hi0 hz0 hz1 hz2 hi8 hy0 hy1 hy2 hb hres hout hl
    have H0 : Hid (∀ wr, Below w.heap.size w wr → ∃ ad a0 k0, a = some ad ∧ wr.cell? ad = some (.slice a0 m k0)) := Lib.hid (fun wr hb => by
      obtain ⟨a', cap', hv, ha⟩ := HL.out.kept hb
      injection hv with e1 e2 e3
      subst e1 e3
      obtain ⟨ad, rfl, had, hc⟩ := ha (by have := HN0.out; omega)
      obtain ⟨u0, c0, hu0⟩ := hc 0 (by have := HN0.out; omega)
      obtain ⟨a0, k0, rfl, -⟩ := hu0
      refine ⟨ad, a0, k0, rfl, ?_⟩
      have e0 : ad.add 0 = ad := by
        rcases ad with ⟨b, o, x⟩
        unfold Addr.add
        split <;> simp_all
      rw [e0, HLL.out] at c0
      exact c0)
    have HPK : Hid (∀ wr, Below w.heap.size w wr → ∃ ad : Addr, a = some ad ∧ ∀ k, k < n → ∃ a1 k1, wr.cell? (ad.add k) = some (.slice a1 (lk F k).length k1) ∧ ArgI wr (.slice a1 (lk F k).length k1) (lk F k)) := Lib.hid (fun wr hb => by
      obtain ⟨a', cap', hv, ha⟩ := HL.out.kept hb
      injection hv with e1 e2 e3
      subst e1 e3
      obtain ⟨ad, rfl, had, hc⟩ := ha (by have := HN0.out; omega)
      refine ⟨ad, rfl, fun k hk => ?_⟩
      obtain ⟨u, c1, hu⟩ := hc k (by have := HN0.out; omega)
      obtain ⟨a1, k1, rfl, -⟩ := id hu
      exact ⟨a1, k1, c1, hu⟩)
    clear h hn hm hll HL
    obtain ⟨ad, a0, k0, rfl, c00⟩ := H0.out w (Below.refl _ _)
    by_cases hml : 1 ≤ m ∧ m ≤ 800
    · have hm1 : (1 : Int) ≤ (m : Int) := by omega
      have hm8 : (m : Int) ≤ 800 := by omega
      have e1 : decide (1 ≤ (m : Int)) = true := by rw [decide_eq_true_eq]; exact hm1
      have e8 : decide ((m : Int) ≤ 800) = true := by rw [decide_eq_true_eq]; exact hm8
      have HY2 := Lib.hid (HY.out hml.1 hml.2)
      have q1 : (decide (3 ≤ (n : Int)) && decide ((n : Int) ≤ 8)) = true := by rw [d3, d8]; rfl
      have q2 : (decide (1 ≤ (m : Int)) && decide ((m : Int) ≤ 800)) = true := by rw [e1, e8]; rfl
      clear HY hml d3 d8 e1 e8
      go_enter Try.func27, Try.ntmps27
      go_wp2_with (first | (go_at_call 77; refine (HIN.out _ _ _ _).mono ?_; rintro e w1 ⟨rfl, rfl⟩; first | rw [q1] | rw [q2]) | fail)
      clear c00
      go_loopg [6, 27] n (fun q _ x wr => ∃ j : Nat, q + j = n ∧ x = .int .i64 j ∧ (∀ t, t < j → (lk F t).length = m ∧ allIn (lk F t) 1 n = true) ∧ w = wr)
      case atStart => exact ⟨0, by omega, rfl, fun t ht => absurd ht (by omega), rfl⟩
      case round =>
        obtain ⟨j, hq, rfl, hok, rfl⟩ := hrel
        have HOK := Lib.hid hok
        clear hok
        by_cases hlt : j < n
        · have hji : (j : Int) < n := by omega
          obtain ⟨ad', hva, hpk⟩ := HPK.out w (Below.refl _ _)
          injection hva with hva
          subst hva
          obtain ⟨a1, k1, c1, hu⟩ := hpk j hlt
          clear hpk
          obtain ⟨a0', k0', c00⟩ : ∃ a0 k0, w.cell? ad = some (.slice a0 m k0) := by
            obtain ⟨ad', a0, k0, hv, c⟩ := H0.out w (Below.refl _ _)
            injection hv with hv
            subst hv
            exact ⟨a0, k0, c⟩
          have hmj := HM.out j
          have HA := Lib.hid (fun w hu => l1AllA_any (.slice a1 (lk F j).length k1) (lk F j) 1 n w hu hmj)
          have HU := Lib.hid hu
          have HEJ := Lib.hid (HEQ.out j hlt)
          have HRJ := Lib.hid (HRG.out j hlt)
          have HUP : Hid ((lk F j).length = m → allIn (lk F j) 1 n = true → ∀ t, t < j + 1 → (lk F t).length = m ∧ allIn (lk F t) 1 n = true) := Lib.hid (fun h1 h2 t ht => by
            by_cases e : t = j
            · rw [e]; exact ⟨h1, h2⟩
            · exact HOK.out t (by omega))
          obtain ⟨lj, hlj⟩ : ∃ lj, (lk F j).length = lj := ⟨_, rfl⟩
          obtain ⟨bj, hbj⟩ : ∃ bj, allIn (lk F j) 1 n = bj := ⟨_, rfl⟩
          rw [hlj] at c1 HU HA HEJ HUP HRJ hmj
          rw [hbj] at HA HUP HRJ
          clear hu hlj hbj
          have hmji : (lj : Int) ≤ 100000000 := by omega
          by_cases hq1 : lj = m
          · have e1 : ((lj : Int) != (m : Int)) = false := by rw [bne_eq_false_iff_eq]; omega
            cases bj
            · have hr := HRJ.out hq1 rfl
              have ho := HON.out hr
              subst hr
              subst ho
              clear hq1
              go_wp2_with (first | (go_at_call 78; refine (HA.out _ HU.out).mono ?_; rintro e w2 ⟨rfl, rfl⟩) | fail)
              go_ret2
              exact ⟨_, rfl, New.nil _ _ _, Below.refl _ _⟩
            · have HUP2 := Lib.hid (HUP.out hq1 rfl)
              clear hq1
              go_wp2_with (first | (go_at_call 78; refine (HA.out _ HU.out).mono ?_; rintro e w2 ⟨rfl, rfl⟩) | fail)
              go_roundg (n - (j + 1))
              case measure => omega
              case rel => exact ⟨j + 1, by omega, by go_num, HUP2.out, rfl⟩
          · have e1 : ((lj : Int) != (m : Int)) = true := by rw [bne_iff_ne]; omega
            have hr := HEJ.out (fun h => hq1 h.1)
            have ho := HON.out hr
            subst hr
            subst ho
            clear hq1
            go_wp2
            go_ret2
            exact ⟨_, rfl, New.nil _ _ _, Below.refl _ _⟩
        · obtain rfl : j = n := by omega
          have HY3 := Lib.hid (HY2.out (fun k hk => (HOK.out k hk).1))
          have HOL : Hid (∀ k, k < j → (lk F k).length = m ∧ ∀ i, i < m → 1 ≤ pl F k i ∧ pl F k i ≤ j) := Lib.hid (fun k hk => by
            obtain ⟨h1, h2⟩ := HOK.out k hk
            exact ⟨h1, fun i hi => allIn_at h2 (by rw [h1]; exact hi)⟩)
          clear HY2 HOK HEQ HRG
          obtain ⟨a0', k0', c00⟩ : ∃ a0 k0, w.cell? ad = some (.slice a0 m k0) := by
            obtain ⟨ad', a0, k0, hv, c⟩ := H0.out w (Below.refl _ _)
            injection hv with hv
            subst hv
            exact ⟨a0, k0, c⟩
          go_wp2
          clear c00
          go_loopg [7, 49] m (fun q ov x wr => ∃ i : Nat, q + i = m ∧ x = .int .i64 i ∧ (∀ t, t < i → colB F t = true) ∧ New w.heap.size wr 9 ov (strs ((List.range i).map (rowI F))) ∧ Below w.heap.size w wr)
          case atStart => exact ⟨0, by omega, rfl, fun t ht => absurd ht (by omega), New.nil _ _ _, Below.refl _ _⟩
          case round =>
            clear H0
            obtain ⟨i, hq, rfl, hok, hnw, hb⟩ := hrel
            have HOK := Lib.hid hok
            have HN := Lib.hid hnw
            have HB := Lib.hid hb
            have hsz : w.heap.size ≤ wr.heap.size := hb.size
            obtain ⟨a9, c9, hv9, -⟩ := hnw.own.view
            subst hv9
            clear hok hnw hb
            by_cases hlti : i < m
            · have hii : (i : Int) < m := by omega
              generalize wr = W1 at *
              have HR : Hid (∀ k, k < j → 1 ≤ pl F k i ∧ pl F k i ≤ j) := Lib.hid (fun k hk => (HOL.out k hk).2 i hlti)
              have HLE : Hid (∀ k, k < j → (lk F k).length = m) := Lib.hid (fun k hk => (HOL.out k hk).1)
              obtain ⟨cf0, hcf⟩ : ∃ f, cF F j i = f := ⟨_, rfl⟩
              have HCF : Hid (∀ k, k < j → ∃ c : Nat, pl F k i = (c : Int) + 1 ∧ c < j ∧ cf0 k - 49 = c) := Lib.hid (fun k hk => by
                obtain ⟨h1, h2⟩ := HR.out k hk
                refine ⟨(pl F k i - 1).toNat, by omega, by omega, ?_⟩
                rw [← hcf]
                exact cF_minus hk (by omega))
              have HFR : Hid (goodB (strOf j (fill cf0 (fun _ => 0) j)) = colB F i) := Lib.hid (by
                rw [← hcf]
                have := fill_row (F := F) (i := i) (by rw [HN0.out]; exact h3) (by rw [HN0.out]; exact h8) (by rw [HN0.out]; exact HR.out)
                rw [HN0.out] at this
                exact this)
              have HTX : Hid (colB F i = true → strOf j (fill cf0 (fun _ => 0) j) = txt (rowI F i)) := Lib.hid (fun h => by
                rw [← hcf]; exact rowI_txt HN0.out h)
              clear hcf
              go_wp2_with (first | (at_make; refine wpList_make_full _ rfl _ _ 22 rfl W1.heap.size 5 i8 (.int .u8 0) 1 Try.underlying22 I8.out.1 I8.out.2.1 I8.out.2.2.1 .i64 .i64 _ _ j rfl rfl rfl rfl (by rw [I8.out.2.2.2]; omega) (by unfold maxLen; omega) (Nat.le_refl _) ?_) | fail)
              intro w2 hown hgrow
              have HB2 := Lib.hid ((Below.refl _ W1).grown hgrow (Nat.le_refl _) (fun k hk => by cases hk))
              have HN2 : Hid (New W1.heap.size w2 5 (.slice (some ⟨W1.heap.size, 0, none⟩) j j) (bytN j (fill cf0 (fun _ => 0) 0))) := Lib.hid (by
                have := hown
                rw [toList_madeCells_one] at this
                have e0 : List.replicate j (Value.int .u8 0) = bytN j (fill cf0 (fun _ => 0) 0) := by
                  apply List.ext_getElem
                  · simp [bytN]
                  · intro i h1 h2
                    simp [bytN, fill]
                rw [e0] at this
                exact New.of_owns this (bytN_len _ _))
              clear hown hgrow
              go_wp2
              go_loopg [56] j (fun q x wq => ∃ k : Nat, q + k = j ∧ x = .int .i64 k ∧ New W1.heap.size wq 5 (.slice (some ⟨W1.heap.size, 0, none⟩) j j) (bytN j (fill cf0 (fun _ => 0) k)) ∧ Below W1.heap.size W1 wq)
              case atStart => exact ⟨0, by omega, rfl, HN2.out, HB2.out⟩
              case round =>
                clear HN2 HB2
                obtain ⟨k, hqk, rfl, hn, hbl⟩ := hrel
                have HNK := Lib.hid hn
                have HBK := Lib.hid hbl
                clear hn hbl
                by_cases hltk : k < j
                · have hki : (k : Int) < j := by omega
                  have hbw : Below w.heap.size w wr := HB.out.trans (HBK.out.mono hsz)
                  obtain ⟨ad', hva, hpk⟩ := HPK.out wr hbw
                  injection hva with hva
                  subst hva
                  obtain ⟨a1, k1, c1, hu⟩ := hpk k hltk
                  rw [HLE.out k hltk] at c1 hu
                  have hlk := HLE.out k hltk
                  obtain ⟨a1', k1', hv1, ha1⟩ := hu
                  rw [hlk] at hv1 ha1
                  injection hv1 with q1 q2 q3
                  subst q1 q3
                  obtain ⟨ad1, rfl, had1, hc1⟩ := ha1 (by omega)
                  obtain ⟨c, hcx, hcn, hcf⟩ := HCF.out k hltk
                  have c2 : wr.cell? (ad1.add i) = some (.int .i64 ((c : Int) + 1)) := by
                    have := hc1 i hlti
                    rw [show gx (lk F k) i = pl F k i from rfl, hcx] at this
                    exact this
                  have hcn' : (c : Int) < j := by omega
                  have hc0 : (0 : Int) ≤ (c : Int) := by omega
                  have hcw : IntKind.i64.wrap ((c : Int) + 1 - 1) = (c : Int) := by rw [Int.add_sub_cancel]; exact Go.IntWalk.i64_in _ ⟨by omega, by omega⟩
                  obtain ⟨old, hold⟩ : ∃ u, (bytN j (fill cf0 (fun _ => 0) k))[c]? = some u := ⟨_, List.getElem?_eq_getElem (by rw [bytN_len]; exact hcn)⟩
                  have c5 : wr.cell? ⟨W1.heap.size, c, none⟩ = some old := HNK.out.own.cell c _ hold
                  have f5 : wr.frozen? ⟨W1.heap.size, c, none⟩ = false := HNK.out.own.free c
                  have hu8 : IntKind.u8.wrap (49 + (k : Int)) = ((49 + k : Nat) : Int) := by
                    rw [show (49 : Int) + k = ((49 + k : Nat) : Int) by omega]
                    simp [IntKind.wrap, IntKind.bits]
                    omega
                  have hk49 : IntKind.i64.wrap (49 + (k : Int)) = 49 + (k : Int) := Go.IntWalk.i64_in _ ⟨by omega, by omega⟩
                  have HN6 : Hid (New W1.heap.size (wr.setCell ⟨W1.heap.size, c, none⟩ (.int .u8 (49 + k : Nat))) 5 (.slice (some ⟨W1.heap.size, 0, none⟩) j j) (bytN j (fill cf0 (fun _ => 0) (k + 1)))) := Lib.hid (by
                    have e : bytN j (fill cf0 (fun _ => 0) (k + 1)) = (bytN j (fill cf0 (fun _ => 0) k)).set c (.int .u8 (49 + k : Nat)) := by
                      rw [bytN_set _ _ _ _ hcn]
                      show bytN j (setF (fill cf0 (fun _ => 0) k) (cf0 k - 49) (49 + k)) = _
                      rw [hcf]
                    rw [e]
                    exact ⟨(show Own wr 5 _ _ from HNK.out.own).set c _, HNK.out.base⟩)
                  have HB6 : Hid (Below W1.heap.size W1 (wr.setCell ⟨W1.heap.size, c, none⟩ (.int .u8 (49 + k : Nat)))) := Lib.hid (HBK.out.setCell (p := ⟨W1.heap.size, c, none⟩) (Nat.le_refl _) _)
                  clear hpk hc1 hold hcx hcf hlk ha1 hbw HNK HBK
                  go_wp2
                  go_roundg (j - (k + 1))
                  case measure => omega
                  case rel => exact ⟨k + 1, by omega, by go_num, HN6.out, HB6.out⟩
                · obtain rfl : k = j := by omega
                  obtain ⟨fl, hfl⟩ : ∃ f, fill cf0 (fun _ => 0) k = f := ⟨_, rfl⟩
                  rw [hfl] at HNK HFR HTX
                  have hconv := conv_dig wr W1.heap.size k k fl (fun i hi => HNK.out.own.cell i _ (bytN_at hi))
                  have HROW := Lib.hid (fun w => l1Row_any (strOf k fl) (by rw [strOf_size]; unfold maxLen; omega) w)
                  rw [HFR.out] at HROW
                  have HCV := Lib.hid (fun (W : World) (hb : Below wr.heap.size wr W) => conv_dig W W1.heap.size k k fl (fun i hi => (HNK.out.kept hb).own.cell i _ (bytN_at hi)))
                  have HBW := Lib.hid (HB.out.trans (HBK.out.mono hsz))
                  have HNW := Lib.hid (HN.out.kept HBK.out)
                  have hsw : w.heap.size ≤ wr.heap.size := HBW.out.size
                  clear hfl HNK HCF HR HLE
                  cases hcol : colB F i
                  · have hr := HCN.out i hlti hcol
                    have ho := HON.out hr
                    subst hr
                    subst ho
                    rw [hcol] at HROW
                    clear hcol
                    go_wp2_with fail
                    refine (HROW.out _).mono ?_
                    rintro e w5 ⟨rfl, hb5⟩
                    have HB5 := Lib.hid (HBW.out.trans (hb5.mono hsw))
                    clear hb5
                    go_wp2
                    go_ret2
                    exact ⟨_, rfl, New.nil _ _ _, HB5.out⟩
                  · have HTX2 := Lib.hid (HTX.out hcol)
                    have HOK2 : Hid (∀ t, t < i + 1 → colB F t = true) := Lib.hid (fun t ht => by
                      by_cases e : t = i
                      · rw [e]; exact hcol
                      · exact HOK.out t (by omega))
                    rw [hcol] at HROW
                    have HSN : Hid (strs ((List.range i).map (rowI F)) ++ [.string (strOf k fl)] = strs ((List.range (i + 1)).map (rowI F))) := Lib.hid (by rw [HTX2.out, upto_one, strs_snoc])
                    have hlen : (strs ((List.range i).map (rowI F))).length ≤ 100000 := by rw [strs_len, List.length_map, List.length_range]; omega
                    have HLEN := Lib.hid hlen
                    generalize (List.range i).map (rowI F) = acc at *
                    clear hcol hlen HTX
                    go_wp2_with fail
                    refine (HROW.out _).mono ?_
                    rintro e w5 ⟨rfl, hb5⟩
                    have HB5 := Lib.hid (HBW.out.trans (hb5.mono hsw))
                    have HN5 := Lib.hid (HNW.out.kept hb5)
                    have hconv5 := HCV.out w5 hb5
                    have hs5 := HB5.out.size
                    clear hb5 hconv
                    go_wp2_with (first | (at_builtin; refine wpList_app1 rfl (.tmp 76) (.tmp 79) 24 rfl 9 i0 (.string ⟨#[]⟩) 16 Try.underlying24 I0.out.1 I0.out.2.1 I0.out.2.2.1 I0.out.2.2.2 rfl w.heap.size w _ _ rfl HN5.out rfl rfl hs5 HB5.out HLEN.out (by omega) ?_) | fail)
                    intro v8 w8 hn8 hk8 hb8 hs8
                    rw [HSN.out] at hn8
                    have HN8 := Lib.hid hn8
                    have HB8 := Lib.hid hb8
                    clear hn8 hk8 hb8
                    go_wp2
                    go_roundg (m - (i + 1))
                    case measure => omega
                    case rel => exact ⟨i + 1, by omega, by go_num, HOK2.out, HN8.out, HB8.out⟩
            · obtain rfl : i = m := by omega
              have hr := HY3.out (fun t ht => HOK.out t ht)
              have ho := HOY.out hr
              subst hr
              generalize (List.range i).map (rowI F) = acc at *
              subst ho
              go_wp2
              go_ret2
              exact ⟨_, rfl, HN.out, HB.out⟩
    · have e2 : (decide (1 ≤ (m : Int)) && decide ((m : Int) ≤ 800)) = false := by
        cases h1 : decide (1 ≤ (m : Int))
        · rfl
        · cases h2 : decide ((m : Int) ≤ 800)
          · rfl
          · rw [decide_eq_true_eq] at h1 h2
            exact absurd ⟨by omega, by omega⟩ hml
      have q1 : (decide (3 ≤ (n : Int)) && decide ((n : Int) ≤ 8)) = true := by rw [d3, d8]; rfl
      have hr := HEQ.out 0 (by omega) (fun h => hml (by have := HLL.out; omega))
      have ho := HON.out hr
      subst hr
      subst ho
      clear HEQ HRG HCN HY HOY hml
      go_enter Try.func27, Try.ntmps27
      go_wp2_with (first | (go_at_call 77; refine (HIN.out _ _ _ _).mono ?_; rintro e w1 ⟨rfl, rfl⟩; first | rw [q1] | rw [e2]) | fail)
      go_ret2
      exact ⟨_, rfl, New.nil _ _ _, Below.refl _ _⟩
  · have e2 : (decide (3 ≤ (n : Int)) && decide ((n : Int) ≤ 8)) = false := by
      cases h1 : decide (3 ≤ (n : Int))
      · rfl
      · cases h2 : decide ((n : Int) ≤ 8)
        · rfl
        · rw [decide_eq_true_eq] at h1 h2
          exact absurd ⟨by omega, by omega⟩ hst
    have hr : res = false := by
      rw [← hres]
      unfold rowsB
      rw [hn]
      cases h1 : decide (3 ≤ n)
      · rfl
      · cases h2 : decide (n ≤ 8)
        · rfl
        · rw [decide_eq_true_eq] at h1 h2
          exact absurd ⟨h1, h2⟩ hst
    have ho := HON.out hr
    subst hr
    subst ho
    rw [hn]
    clear hst hres hout h hl hm HL hn HON
    go_enter Try.func27, Try.ntmps27
    go_wp2_with (first | (go_at_call 77; refine (HIN.out _ _ _ _).mono ?_; rintro e w1 ⟨rfl, rfl⟩; rw [e2]) | fail)
    go_ret2
    exact ⟨_, rfl, New.nil _ _ _, Below.refl _ _⟩
end Go.Proofs.Ytpfnamiacagocaa
