/- One row out of lists of places, in the program. -/
import Derived.Test.YtpfnamiacagocaaI3
namespace Go.Proofs.Ytpfnamiacagocaa
open Go.RowKit
set_option linter.unusedSimpArgs false
set_option linter.unusedVariables false

open Classical in
noncomputable def colB (F : List (List Int)) (i : Nat) : Bool := decide (IsRow F.length (cF F F.length i))
theorem colB_yes {F : List (List Int)} {i : Nat} (h : IsRow F.length (cF F F.length i)) : colB F i = true := by
  unfold colB
  simpa using h
theorem colB_no {F : List (List Int)} {i : Nat} (h : ¬ IsRow F.length (cF F F.length i)) : colB F i = false := by
  unfold colB
  simpa using h
theorem colB_row {F : List (List Int)} {i : Nat} (h : colB F i = true) : IsRow F.length (cF F F.length i) := by
  unfold colB at h
  simpa using h
theorem cF_minus {F : List (List Int)} {n i k c : Nat} (hk : k < n) (h : pl F k i = (c : Int) + 1) : cF F n i k - 49 = c := by
  have := cF_at (F := F) (i := i) hk (by omega)
  omega

/-- what rowAt gives: the digits, where there is such a row -/
def CutOut (res : Bool) (iv : Nat → Nat) (w : World) (e : Ending) (w' : World) : Prop := ∃ g : Nat → Nat, e = .returned (.tuple #[.agg (dig8 g), .bool res]) ∧ (res = true → dig8 g = dig8 iv) ∧ Below w.heap.size w w'

set_option maxRecDepth 100000 in
set_option maxHeartbeats 1000000 in
theorem rowAt_any (v : Value) (F : List (List Int)) (i : Nat) (w : World) (h : LLI w v F) (h3 : 3 ≤ F.length) (h8 : F.length ≤ 8) (hlen : ∀ k, k < F.length → i < (lk F k).length) (hm : ∀ k, (lk F k).length ≤ 9223372036854775807) :
    Calls Try.prog 66 #[v, .int .i64 i] w (CutOut (colB F i) (invF F.length (cF F F.length i)) w) := by
  obtain ⟨n, hn⟩ : ∃ n, F.length = n := ⟨_, rfl⟩
  obtain ⟨res, hres⟩ : ∃ b, colB F i = b := ⟨_, rfl⟩
  rw [hres]
  have HRES := Lib.hid hres
  have HYES : Hid (IsRow n (cF F n i) → res = true ∧ dig8 (fill (cF F n i) (fun _ => 0) n) = dig8 (invF n (cF F n i))) := Lib.hid (fun h => ⟨by rw [← hres]; exact colB_yes (by rw [hn]; exact h), fill_zero h⟩)
  have HNO : Hid (¬ IsRow n (cF F n i) → res = false) := Lib.hid (fun h => by rw [← hres]; exact colB_no (by rw [hn]; exact h))
  have HL := Lib.hid h
  obtain ⟨a, cap, rfl, -⟩ := h
  rw [hn] at h3 h8 hlen ⊢
  have hni : (n : Int) ≤ 8 := by omega
  have HLEN := Lib.hid hlen
  have HM := Lib.hid hm
  have HN := Lib.hid hn
  have HR0 := Lib.hid ((RowAt.new w 68 zero8).push (.cells zero8 68))
  have HZ0 : Hid (RowAt ((w.alloc (.cells zero8 68)).alloc (.cells zero8 68)) (w.heap.size + 1) 68 (dig8 (fill (cF F n i) (fun _ => 0) 0))) := Lib.hid (by
    rw [dig8_fill0]
    have := RowAt.new (w.alloc (.cells zero8 68)) 68 zero8
    simpa using this)
  have HB0 := Lib.hid (((Below.refl _ w).alloc (Nat.le_refl _) (.cells zero8 68)).alloc (by simp) (.cells zero8 68))
  obtain ⟨iv, hiv⟩ : ∃ g, invF n (cF F n i) = g := ⟨_, rfl⟩
  rw [hiv] at HYES ⊢
  have hii : (0 : Int) ≤ (i : Int) := by omega
  clear hres hn hlen hm hiv
  simp only [zero8] at HR0 HZ0 HB0
  go_enter Try.func66, Try.ntmps66
  go_wp2
  go_loopg [7, 8, 9, 12] n (fun q _ _ _ x wr => ∃ k : Nat, q + k = n ∧ x = .int .i64 k ∧ (∀ t, t < k → 1 ≤ pl F t i ∧ pl F t i ≤ n) ∧ (∀ s t, s < t → t < k → pl F s i ≠ pl F t i) ∧ RowAt wr w.heap.size 68 zero8 ∧ RowAt wr (w.heap.size + 1) 68 (dig8 (fill (cF F n i) (fun _ => 0) k)) ∧ Below w.heap.size w wr)
  case atStart => exact ⟨0, by omega, rfl, fun t ht => absurd ht (by omega), fun s t _ ht => absurd ht (by omega), HR0.out, HZ0.out, HB0.out⟩
  case round =>
    clear HR0 HZ0 HB0
    obtain ⟨k, hq, rfl, hrg, hds, hr0, hz0, hb0⟩ := hrel
    have HRG := Lib.hid hrg
    have HDS := Lib.hid hds
    have HR := Lib.hid hr0
    have HZ := Lib.hid hz0
    have HB := Lib.hid hb0
    clear hrg hds hr0 hz0 hb0
    by_cases hlt : k < n
    · have hki : (k : Int) < n := by omega
      obtain ⟨a', cap', hv, ha⟩ := HL.out.kept HB.out
      rw [HN.out] at hv ha
      injection hv with e1 e2 e3
      subst e1 e3
      obtain ⟨ad, rfl, had, hc⟩ := ha (by omega)
      obtain ⟨u, c1, hu⟩ := hc k hlt
      obtain ⟨a1, k1, rfl, hin⟩ := hu
      have hil := HLEN.out k hlt
      obtain ⟨ad1, rfl, had1, hc1⟩ := hin (by omega)
      have c2 : wr.cell? (ad1.add i) = some (.int .i64 (pl F k i)) := hc1 i hil
      have hmk := HM.out k
      have hil' : (i : Int) < (lk F k).length := by omega
      have hmk' : ((lk F k).length : Int) ≤ 9223372036854775807 := by omega
      have HUP : Hid (1 ≤ pl F k i ∧ pl F k i ≤ n → ∀ t, t < k + 1 → 1 ≤ pl F t i ∧ pl F t i ≤ n) := Lib.hid (fun h t ht => by
        by_cases e : t = k
        · rw [e]; exact h
        · exact HRG.out t (by omega))
      have HDP : Hid ((∀ t, t < k → pl F t i ≠ pl F k i) → ∀ s t, s < t → t < k + 1 → pl F s i ≠ pl F t i) := Lib.hid (fun h s t hst ht => by
        by_cases e : t = k
        · rw [e]; exact h s (by omega)
        · exact HDS.out s t hst (by omega))
      generalize hll : (lk F k).length = ll at *
      clear hc hc1 hin hll
      by_cases hlo : pl F k i < 1
      · have hr := HNO.out (fun h => by have := col_range h hlt; omega)
        subst hr
        generalize pl F k i = x0 at *
        go_wp2_with (first | (refine wpList_store_row rfl 68 _ _ rfl _ _ rfl rfl 68 _ (HR.out) (by kernel_rfl) rfl (by kernel_rfl) ?_) | fail)
        refine bodyPost_ret (results_row_tmp rfl _ _ w.heap.size 68 _ (0, 0) _ rfl (HR.out.row _) Try.underlying68 rfl (by kernel_rfl)) rfl ?_
        exact ⟨fun _ => 0, rfl, fun h => (Bool.noConfusion h), below_setRow HB.out (Nat.le_refl _) _⟩
      · by_cases hhi : (n : Int) < pl F k i
        · have hr := HNO.out (fun h => by have := col_range h hlt; omega)
          subst hr
          generalize pl F k i = x0 at *
          go_wp2_with (first | (refine wpList_store_row rfl 68 _ _ rfl _ _ rfl rfl 68 _ (HR.out) (by kernel_rfl) rfl (by kernel_rfl) ?_) | fail)
          refine bodyPost_ret (results_row_tmp rfl _ _ w.heap.size 68 _ (0, 0) _ rfl (HR.out.row _) Try.underlying68 rfl (by kernel_rfl)) rfl ?_
          exact ⟨fun _ => 0, rfl, fun h => (Bool.noConfusion h), below_setRow HB.out (Nat.le_refl _) _⟩
        · obtain ⟨c, hcx⟩ : ∃ c : Nat, pl F k i = (c : Int) + 1 := ⟨(pl F k i - 1).toNat, by omega⟩
          have hc8 : c < 8 := by omega
          have hcn : (c : Int) < 8 := by omega
          have hc0 : (0 : Int) ≤ (c : Int) := by omega
          have hcw : IntKind.i64.wrap ((c : Int) + 1 - 1) = (c : Int) := by rw [Int.add_sub_cancel]; exact Go.IntWalk.i64_in _ ⟨by omega, by omega⟩
          have hcw2 : IntKind.i64.wrap (c : Int) = (c : Int) := Go.IntWalk.i64_in _ ⟨by omega, by omega⟩
          have c3 := HZ.out.cell c (dig8_get _ c hc8)
          have f3 := HZ.out.free c
          have HUP2 := Lib.hid (HUP.out ⟨by omega, by omega⟩)
          by_cases hdup : ∃ t, t < k ∧ pl F t i = pl F k i
          · obtain ⟨t, ht, he⟩ := hdup
            have hr := HNO.out (col_dup ht hlt he)
            subst hr
            obtain ⟨t2, ht2, -, hfl⟩ := fill_hit (cF F n i) (fun _ => 0) k c ⟨t, ht, cF_minus (by omega) (by rw [he, hcx])⟩
            rw [hfl] at c3
            have hnz : (((49 + t2 : Nat) : Int) != 0) = true := by rw [bne_iff_ne]; omega
            have hnz2 : ((49 + (t2 : Int)) != 0) = true := by rw [bne_iff_ne]; omega
            rw [hcx] at c2 hhi hlo
            generalize pl F k i = x0 at *
            clear he hcx hfl
            go_wp2_with (first | (refine wpList_store_row rfl 68 _ _ rfl _ _ rfl rfl 68 _ (HR.out) (by kernel_rfl) rfl (by kernel_rfl) ?_) | fail)
            refine bodyPost_ret (results_row_tmp rfl _ _ w.heap.size 68 _ (0, 0) _ rfl (HR.out.row _) Try.underlying68 rfl (by kernel_rfl)) rfl ?_
            exact ⟨fun _ => 0, rfl, fun h => (Bool.noConfusion h), below_setRow HB.out (Nat.le_refl _) _⟩
          · have hnd : ∀ t, t < k → pl F t i ≠ pl F k i := fun t ht e => hdup ⟨t, ht, e⟩
            have HD2 := Lib.hid (HDP.out hnd)
            have hfr := fill_free (cF F n i) (fun _ => 0) k c (fun t ht e => hnd t ht (by
              have h1 := HRG.out t ht
              have h2 := cF_at (F := F) (n := n) (i := i) (k := t) (by omega) h1.1
              omega))
            rw [hfr] at c3
            have HCM := Lib.hid (cF_minus (F := F) (n := n) (i := i) hlt hcx)
            have hu8 : IntKind.u8.wrap (49 + (k : Int)) = ((49 + k : Nat) : Int) := by
              rw [show (49 : Int) + k = ((49 + k : Nat) : Int) by omega]
              simp [IntKind.wrap, IntKind.bits]
              omega
            have hk49 : IntKind.i64.wrap (49 + (k : Int)) = 49 + (k : Int) := Go.IntWalk.i64_in _ ⟨by omega, by omega⟩
            rw [hcx] at c2 hhi hlo
            generalize pl F k i = x0 at *
            clear hcx hnd hdup hfr
            go_wp2
            go_roundg (n - (k + 1))
            case measure => omega
            case rel =>
              refine ⟨k + 1, by omega, by go_num, HUP2.out, HD2.out, HR.out.other _ _ (by simp), ?_, HB.out.setCell (by simp) _⟩
              have := HZ.out.set c (.int .u8 (49 + k : Nat))
              rw [dig8_set _ _ _ hc8, ← HCM.out] at this
              rw [← HCM.out]
              exact this
    · obtain rfl : k = n := by omega
      have hrow : IsRow k (cF F k i) := col_yes h3 h8 HRG.out HDS.out
      obtain ⟨hr, hd⟩ := HYES.out hrow
      subst hr
      have HD := Lib.hid hd
      clear hrow hd
      go_wp2_with (first | (refine wpList_load_row rfl 68 _ rfl _ rfl 68 _ _ _ (HZ.out) Try.underlying68 rfl (by kernel_rfl) ?_) | (refine wpList_store_row rfl 68 _ _ rfl _ _ rfl rfl 68 _ (HR.out) (by kernel_rfl) rfl (by kernel_rfl) ?_) | fail)
      refine bodyPost_ret (results_row_tmp rfl _ _ w.heap.size 68 _ (0, 0) _ rfl (HR.out.row _) Try.underlying68 rfl (by kernel_rfl)) rfl ?_
      exact ⟨_, rfl, fun _ => HD.out, below_setRow HB.out (Nat.le_refl _) _⟩
end Go.Proofs.Ytpfnamiacagocaa
