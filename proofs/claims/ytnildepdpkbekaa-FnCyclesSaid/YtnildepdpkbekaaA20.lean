/- RowOf in the program. -/
import Derived.Test.YtnildepdpkbekaaA19
import Derived.Laws.CopyOwn
import Derived.StillTailTactics
namespace Go.Proofs.Ytnildepdpkbekaa
open Go.RowKit
set_option linter.unusedSimpArgs false

/-- eight digits behind the copy that moves all behind place p one place up -/
def moveF (h : Nat → Nat) (p : Nat) (i : Nat) : Nat := if i < p then h i else if i < 7 then h (i + 1) else h 7
theorem dig8_move (h : Nat → Nat) (p L : Nat) (hL : p + 1 + L = 8) : splice (dig8 h).toList p ((List.range L).map fun t => Value.int .u8 (h (p + 1 + t))) = (dig8 (moveF h p)).toList := by
  have hp : p = 0 ∨ p = 1 ∨ p = 2 ∨ p = 3 ∨ p = 4 ∨ p = 5 ∨ p = 6 ∨ p = 7 := by omega
  rcases hp with rfl | rfl | rfl | rfl | rfl | rfl | rfl | rfl
  · obtain rfl : L = 7 := by omega
    rfl
  · obtain rfl : L = 6 := by omega
    rfl
  · obtain rfl : L = 5 := by omega
    rfl
  · obtain rfl : L = 4 := by omega
    rfl
  · obtain rfl : L = 3 := by omega
    rfl
  · obtain rfl : L = 2 := by omega
    rfl
  · obtain rfl : L = 1 := by omega
    rfl
  · obtain rfl : L = 0 := by omega
    rfl
set_option maxRecDepth 100000 in
set_option maxHeartbeats 1000000 in
theorem slice_from (b p L : Nat) (hL : p + 1 + L = 8) : ∀ W, (Instr.sliceAt 56 (.pointer (some ⟨b, 0, none⟩)) (some (.int .i64 p)) none none).run Try.prog W = .ok (.slice (some ⟨b, p, none⟩) (L + 1) (L + 1)) W := by
  intro W
  have hA : Try.prog.arrayLen 56 = 8 := by kernel_rfl
  rw [run_sliceAt_array_l W _ _ Try.underlying56 .i64 _ (by omega) (by rw [hA]; omega)]
  have hs : (sizeOf (Try.prog.elem 56)).run Try.prog W = .ok 1 W := by kernel_rfl
  rw [hs, hA]
  simp [Result.andThen, slicedAt, Addr.add, show ¬ 8 = p by omega]
  exact ⟨fun e => e.symm, by omega⟩
set_option maxRecDepth 100000 in
set_option maxHeartbeats 1000000 in
theorem slice_from1 (b p L : Nat) (hL : p + 1 + L = 8) : ∃ ad : Addr, (∀ W, (Instr.sliceAt 56 (.pointer (some ⟨b, 0, none⟩)) (some (.int .i64 ((p : Int) + 1))) none none).run Try.prog W = .ok (.slice (some ad) L L) W) ∧ ∀ t, t < L → ad.add t = ⟨b, p + 1 + t, none⟩ := by
  refine ⟨if 8 = p + 1 then ⟨b, 0, none⟩ else (⟨b, 0, none⟩ : Addr).add (p + 1), fun W => ?_, fun t ht => ?_⟩
  · have hA : Try.prog.arrayLen 56 = 8 := by kernel_rfl
    rw [run_sliceAt_array_l W _ _ Try.underlying56 .i64 _ (by omega) (by rw [hA]; omega)]
    have hs : (sizeOf (Try.prog.elem 56)).run Try.prog W = .ok 1 W := by kernel_rfl
    rw [hs, hA]
    simp [Result.andThen, slicedAt, show ((p : Int) + 1).toNat = p + 1 from by omega]
    omega
  · rw [if_neg (by omega)]
    simp [Addr.add]

set_option maxRecDepth 100000 in
set_option maxHeartbeats 1000000 in
theorem iRowOf_yes (n k : Nat) (h3 : 3 ≤ n) (h8 : n ≤ 8) (hk : k < fact n) (w : World) :
    Calls Try.prog 20 #[.int .i64 n, .int .i64 k] w fun e w' => e = .returned (.tuple #[.string (strOf n (pickAt n k (rdf n))), .bool true]) ∧ Below w.heap.size w w' := by
  have h3' : (3 : Int) ≤ n := by omega
  have h8' : (n : Int) ≤ 8 := by omega
  have hf8 := fact_le h8
  have hk' : (k : Int) < fact n := by omega
  have HK := Lib.hid hk
  clear hk
  go_enter Try.func20, Try.ntmps20
  go_wp2_with (first | (go_at_call 57; refine (goodStage_any _ _).mono ?_; rintro e w' ⟨rfl, rfl⟩) | (go_at_call 58; refine (factorial_any _ h8 _).mono ?_; rintro e w' ⟨rfl, rfl⟩))
  refine (roundsDigits_any n h8 _).mono ?_
  rintro e w1 ⟨rfl, hb1⟩
  have hD := Lib.hid (((RowAt.new w 56 (dig8 (cutF 0 (pickAt n k (rdf n))))).kept hb1).push (.cells (dig8 (rdf n)) 56))
  have hlt1 : w.heap.size < w1.heap.size := Nat.lt_of_lt_of_le (by simp) hb1.size
  have hbel := Lib.hid ((((Below.refl _ w).alloc (Nat.le_refl _) (.cells zero8 56)).trans (hb1.mono (by simp))).alloc (Nat.le_of_lt hlt1) (.cells (dig8 (rdf n)) 56))
  clear hb1
  go_wp2_with (refine wpList_store_row rfl 56 _ _ rfl _ _ rfl rfl 56 _ (heap_at _ _ _ (by simp)) (by kernel_rfl) rfl (by kernel_rfl) ?_; rw [setRow_at _ _ _ _ _ (by simp)])
  go_loopg [1, 8, 9, 10, 27] n (fun q kk _ _ _ i wr => ∃ (j : Nat) (h : Nat → Nat), j ≤ n ∧ q + j = n ∧ i = .int .i64 j ∧ kk = .int .i64 (leftK n k j) ∧ (∀ t, t < n - j → h t = leftH n k (rdf n) j t) ∧ RowAt wr w.heap.size 56 (dig8 (cutF j (pickAt n k (rdf n)))) ∧ RowAt wr w1.heap.size 56 (dig8 h) ∧ Below w.heap.size w wr)
  case atStart => exact ⟨0, rdf n, Nat.zero_le _, rfl, rfl, rfl, fun t _ => rfl, hD.out, heap_at _ _ _ rfl, hbel.out⟩
  case round =>
    obtain ⟨j, h, hj, hq, rfl, rfl, hh, hD1, hL1, hB1⟩ := hrel
    have HQ := Lib.hid hq
    have HD := Lib.hid hD1
    have HL := Lib.hid hL1
    have HB := Lib.hid hB1
    have HH := Lib.hid hh
    clear hq hD1 hL1 hB1 hh hD hbel
    by_cases hlt : j < n
    · have hj8 : j < 8 := by omega
      have hp1 := pick_lt HK.out j hlt
      have hF1 := fact_pos (n - (j + 1))
      have hF2 := fact_le (show n - (j + 1) ≤ 8 by omega)
      have hKl := leftK_lt HK.out j hj
      have hK2 := fact_le (show n - j ≤ 8 by omega)
      have hpick : h (leftK n k j / fact (n - (j + 1))) = pickAt n k (rdf n) j := HH.out _ hp1
      have hKs : leftK n k (j + 1) = leftK n k j % fact (n - (j + 1)) := rfl
      have hHs : leftH n k (rdf n) (j + 1) = dropF (leftH n k (rdf n) j) (leftK n k j / fact (n - (j + 1))) := rfl
      have HKS := Lib.hid hKs
      have HHS := Lib.hid hHs
      have HP := Lib.hid hpick
      clear hKs hHs hpick
      generalize hKe : leftK n k j = K at *
      generalize hFe : fact (n - (j + 1)) = F at *
      obtain ⟨p, hp⟩ : ∃ p, K / F = p := ⟨_, rfl⟩
      obtain ⟨r, hr⟩ : ∃ r, K % F = r := ⟨_, rfl⟩
      rw [hp] at hp1 HHS HP
      rw [hr] at HKS
      have hpi : (K : Int) / (F : Int) = p := by rw [← hp]; simp
      have hri : (K : Int) % (F : Int) = r := by rw [← hr]; simp
      have HKe := Lib.hid hKe
      have HFe := Lib.hid hFe
      clear hKe hFe hp hr
      have hp8 : p < 8 := by omega
      obtain ⟨L, hL⟩ : ∃ L, p + 1 + L = 8 := ⟨8 - (p + 1), by omega⟩
      have hs1 := slice_from w1.heap.size p L hL
      obtain ⟨ad, hs2, hadd⟩ := slice_from1 w1.heap.size p L hL
      have HADD := Lib.hid hadd
      have HLL := Lib.hid hL
      clear hadd hL
      have c1 := HL.out.cell p (dig8_get h p hp8)
      have c2 := HD.out.cell j (dig8_get _ j hj8)
      have c3 := HD.out.free j
      have hFi : (1 : Int) ≤ F := by omega
      go_wp2_with fail
      rw [show (n : Int) - 1 - j = ((n - (j + 1) : Nat) : Int) from by omega]
      refine (factorial_any _ (by omega) _).mono ?_
      rintro e w' ⟨rfl, rfl⟩
      rw [HFe.out]
      go_wp2
      have hL2 := HL.out.other ⟨w.heap.size, j, none⟩ (.int .u8 (h p)) (by simp <;> omega)
      have hD2 := HD.out.set j (.int .u8 (h p))
      rw [dig8_set _ _ _ hj8, HP.out, cutF_succ, ← HP.out] at hD2
      have hB2 := HB.out.setCell (p := ⟨w.heap.size, j, none⟩) (Nat.le_refl _) (.int .u8 (h p))
      generalize wr.setCell ⟨w.heap.size, j, none⟩ (.int .u8 (h p)) = w2 at *
      have HL2 := Lib.hid hL2
      have HD2 := Lib.hid hD2
      have HB2 := Lib.hid hB2
      clear hL2 hD2 hB2 c1 c2 c3
      have hwp : IntKind.i64.wrap ((p : Int) + 1) = (p : Int) + 1 := IntWalk.i64_in _ (by omega)
      go_still_tail 5, (by kernel_rfl)
      clear hwp
      change wpList _ _ _ _ _ w2.drew
      have hL3 : RowAt w2.drew w1.heap.size 56 (dig8 h) := HL2.out
      have hD3 : RowAt w2.drew w.heap.size 56 (dig8 (cutF (j + 1) (pickAt n k (rdf n)))) := HD2.out
      have hB3 : Below w.heap.size w w2.drew := HB2.out.drew
      generalize w2.drew = w3 at *
      refine wpList_copy_splice rfl (.tmp 47) (.tmp 50) 28 28 rfl 5 Try.underlying28 (by kernel_rfl) _ _ _ _ _ _ rfl rfl w1.heap.size p (dig8 h).toList 56 hL3 ((List.range L).map fun t => Value.int .u8 (h (p + 1 + t))) (by simp [Nat.min_def]) ?_ ?_ ?_ (w.heap.size + 1) w3 (Below.refl _ _) (by omega) ?_
      · intro hpos
        refine ⟨rfl, ad, rfl, fun t v hv => ?_⟩
        have ht : t < L := by
          have := (List.getElem?_eq_some_iff.1 hv).1
          simpa using this
        simp [ht] at hv
        rw [HADD.out t ht, hL3.cell (p + 1 + t) (dig8_get h _ (by have := HLL.out; omega)), hv]
      · have := HLL.out
        simp [dig8]; omega
      · intro v hv
        simp only [List.mem_map] at hv
        obtain ⟨t, _, rfl⟩ := hv
        rfl
      · intro w4 hL4 hB4
        have hL5 : RowAt w4 w1.heap.size 56 (dig8 (moveF h p)) := by
          have := hL4.out
          rw [dig8_move h p L HLL.out] at this
          exact this
        have HL5 := Lib.hid hL5
        have HD5 := Lib.hid (hD3.keep hB4 (by omega))
        have HB5 := Lib.hid (hB3.trans (hB4.mono (by omega)))
        clear hL4 hB4 hL5 hL3 hD3 hB3
        go_wp2
        go_roundg (n - (j + 1))
        case measure => have := HQ.out; omega
        case rel =>
          refine ⟨j + 1, moveF h p, by omega, by have := HQ.out; omega, by go_num, by rw [HKS.out], fun t ht => ?_, HD5.out, HL5.out, HB5.out⟩
          rw [HHS.out]
          unfold moveF dropF
          by_cases htp : t < p
          · rw [if_pos htp, if_pos htp]; exact HH.out t (by omega)
          · rw [if_neg htp, if_neg htp, if_pos (by omega)]; exact HH.out (t + 1) (by omega)
    · obtain rfl : j = n := by omega
      have hdig : IsDig j (cutF j (pickAt j k (rdf j))) := by
        refine ⟨h8, fun i hi => ?_, fun i hi _ => by simp [cutF]; omega⟩
        simp only [cutF, hi, if_true]
        exact pickAt_ok (P := fun d => 49 ≤ d ∧ d ≤ 56) HK.out (fun t ht => by simp [rdf, ht]; omega) i hi
      have HDG := Lib.hid hdig
      clear hdig
      go_wp2_with (refine wpList_load_row rfl 56 _ rfl _ rfl 56 _ _ _ (HD.out) Try.underlying56 rfl (by kernel_rfl) ?_)
      refine (row_any j _ HDG.out _).mono ?_
      rintro e w6 ⟨rfl, hb6⟩
      rw [strOf_congr (fun i hi => show cutF j (pickAt j k (rdf j)) i = pickAt j k (rdf j) i by simp [cutF, hi])]
      go_wp2
      go_ret2
      exact ⟨rfl, HB.out.trans (hb6.mono HB.out.size)⟩

set_option maxRecDepth 100000 in
set_option maxHeartbeats 1000000 in
theorem iRowOf_no (n k : Int) (h : ¬ (3 ≤ n ∧ n ≤ 8 ∧ 0 ≤ k ∧ k < fact n.toNat)) (w : World) :
    Calls Try.prog 20 #[.int .i64 n, .int .i64 k] w fun e w' => e = .returned (.tuple #[.string ⟨#[]⟩, .bool false]) ∧ Below w.heap.size w w' := by
  by_cases hn : 3 ≤ n ∧ n ≤ 8
  · obtain ⟨h3, h8⟩ := hn
    obtain ⟨m, rfl⟩ := Int.eq_ofNat_of_zero_le (show 0 ≤ n by omega)
    have h8n : m ≤ 8 := by omega
    by_cases hk : k < 0
    · clear h
      go_enter Try.func20, Try.ntmps20
      go_wp2_with (first | (go_at_call 57; refine (goodStage_any _ _).mono ?_; rintro e w' ⟨rfl, rfl⟩))
      go_ret2
      exact ⟨rfl, Below.refl _ _⟩
    · have hge : (fact m : Int) ≤ k := by simp at h; omega
      clear h
      go_enter Try.func20, Try.ntmps20
      go_wp2_with (first | (go_at_call 57; refine (goodStage_any _ _).mono ?_; rintro e w' ⟨rfl, rfl⟩) | (go_at_call 58; refine (factorial_any _ h8n _).mono ?_; rintro e w' ⟨rfl, rfl⟩))
      go_ret2
      exact ⟨rfl, Below.refl _ _⟩
  · have hd : (decide (3 ≤ n) && decide (n ≤ 8)) = false := by simp; omega
    clear h
    go_enter Try.func20, Try.ntmps20
    go_wp2_with (first | (go_at_call 57; refine (goodStage_any _ _).mono ?_; rintro e w' ⟨rfl, rfl⟩))
    go_ret2
    exact ⟨rfl, Below.refl _ _⟩
end Go.Proofs.Ytnildepdpkbekaa
