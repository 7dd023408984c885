/- The program's change as digits: no change. -/
import Derived.Test.YtkeighlcdnfjcaaB3
namespace Go.Proofs.Ytkeighlcdnfjcaa
open Go.RowKit

set_option maxRecDepth 100000 in
set_option maxHeartbeats 1000000 in
theorem changeDigits_walk (n : Nat) (s : ByteArray) (h3 : 3 ≤ n) (h8 : n ≤ 8) (hempty : s.toList.isEmpty = false) (res : Option (Nat → Nat)) (hw : walkC n 0 (rdf n) (if lets s = [45] then [] else lets s) = res) (hres : res = none ∨ ∃ e, res = some e ∧ to8 e = to8 (rdf n)) (w : World) :
    Calls Try.prog 48 #[.int .i64 n, .string s] w fun e w' => e = .returned (.tuple #[.agg zero8, .bool false]) ∧ Below w.heap.size w w' := by
  have h3' : (3 : Int) ≤ n := by omega
  have h8' : (n : Int) ≤ 8 := by omega
  have hM := dash_lets s
  by_cases hd : lets s = [45]
  · have hM' : (s.toList == [45]) = true := by rw [hM, decide_eq_true hd]
    rw [if_pos hd] at hw
    have hw : walkC n 0 (rdf n) (lets ⟨#[]⟩) = res := hw
    have HW := Lib.hid hw
    clear hw hd hM
    go_enter Try.func48, Try.ntmps48
    go_wp2_with (first | (go_at_call 63; refine (goodStage_any _ _).mono ?_; rintro e w' ⟨rfl, rfl⟩))
    refine (roundsDigits_any n h8 _).mono ?_
    rintro e1 w1 ⟨rfl, hb1⟩
    have hR1 : RowAt w1 w.heap.size 56 zero8 := (RowAt.new w _ zero8).kept hb1
    have hB1 : Below w.heap.size w w1 := ((Below.refl _ w).alloc (Nat.le_refl _) _).trans (hb1.mono (by simp))
    have hlt1 := hR1.lt
    have HR1 := Lib.hid hR1
    have HB1 := Lib.hid hB1
    clear hR1 hB1 hb1
    go_wp2_with (refine wpList_store_row rfl 56 _ _ rfl _ _ rfl rfl 56 _ (heap_at _ _ _ (by simp)) (by kernel_rfl) rfl (by kernel_rfl) ?_; rw [setRow_at _ _ _ _ _ (by simp)])
    have hI0 : ((w1.alloc (.cells (dig8 (rdf n)) 56)).iter (⟨#[]⟩ : ByteArray) 0).heap[w1.heap.size + 1]? = some (.stringIter (⟨#[]⟩ : ByteArray) 0) := by
      have := World.iter_heap (w1.alloc (.cells (dig8 (rdf n)) 56)) (⟨#[]⟩ : ByteArray) 0
      simpa using this
    have hD0 : RowAt ((w1.alloc (.cells (dig8 (rdf n)) 56)).iter (⟨#[]⟩ : ByteArray) 0) w1.heap.size 56 (dig8 (rdf n)) := (RowAt.new w1 _ _).push _
    have hR0 : RowAt ((w1.alloc (.cells (dig8 (rdf n)) 56)).iter (⟨#[]⟩ : ByteArray) 0) w.heap.size 56 zero8 := (HR1.out.push _).push _
    have hB0 : Below w.heap.size w ((w1.alloc (.cells (dig8 (rdf n)) 56)).iter (⟨#[]⟩ : ByteArray) 0) := (HB1.out.alloc (by omega) _).alloc (by simp; omega) _
    have HI0 := Lib.hid hI0
    have HD0 := Lib.hid hD0
    have HR0 := Lib.hid hR0
    have HB0 := Lib.hid hB0
    clear hI0 hD0 hR0 hB0 HR1 HB1
    go_loopg [8] ((⟨#[]⟩ : ByteArray)).size (fun q nx wr => ∃ (pos last : Nat) (d : Nat → Nat), pos ≤ ((⟨#[]⟩ : ByteArray)).size ∧ q + pos = ((⟨#[]⟩ : ByteArray)).size ∧ nx = .int .i64 ((last : Int) + 1) ∧ last ≤ n ∧ walkC n last d ((lets (⟨#[]⟩ : ByteArray)).drop pos) = res ∧ wr.heap[w1.heap.size + 1]? = some (.stringIter (⟨#[]⟩ : ByteArray) pos) ∧ RowAt wr w1.heap.size 56 (dig8 d) ∧ RowAt wr w.heap.size 56 zero8 ∧ Below w.heap.size w wr)
    case atStart => exact ⟨0, 0, rdf n, Nat.zero_le _, rfl, rfl, Nat.zero_le _, by simpa using HW.out, HI0.out, HD0.out, HR0.out, HB0.out⟩
    case round =>
      clear HI0 HD0 HR0 HB0 HW
      obtain ⟨pos, last, d, hpos, hq, rfl, hln, hwk, hI, hD, hR, hB⟩ := hrel
      have HQ := Lib.hid hq
      have HI := Lib.hid hI
      have HD := Lib.hid hD
      have HR := Lib.hid hR
      have HB := Lib.hid hB
      have hKlt : w1.heap.size + 1 < wr.heap.size := (Array.getElem?_eq_some_iff.1 hI).1
      clear hq hI hD hR hB
      by_cases hlt : pos < ((⟨#[]⟩ : ByteArray)).size
      · exact absurd hlt (Nat.not_lt_zero _)
      · obtain rfl : pos = ((⟨#[]⟩ : ByteArray)).size := by omega
        have hnx := fun ty => Lib.run_next_end_at (P := Try.prog) wr (w1.heap.size + 1) (⟨#[]⟩ : ByteArray) ((⟨#[]⟩ : ByteArray)).size ty HI.out hlt
        rw [lets_all] at hwk
        unfold walkC at hwk
        by_cases h2 : (n - last) % 2 = 0
        · rw [if_pos h2] at hwk
          have e8 : dig8 (swF d last n) = dig8 (rdf n) := by
            rcases hres with h | ⟨e, h, he⟩
            · rw [h] at hwk; cases hwk
            · rw [h] at hwk; cases hwk; exact dig8_congr fun i hi => to8_at he i hi
          have HEV := Lib.hid h2
          clear h2 hwk
          go_wp2_with (first | (refine wpList_load_row rfl 56 _ rfl _ rfl 56 _ _ _ HD.out Try.underlying56 rfl (by kernel_rfl) ?_) | fail)
          refine (swapped_yes d last n hln h8 HEV.out _ _ rfl rfl _).mono ?_
          rintro e2 w2 ⟨rfl, hb2⟩
          have hD2 := HD.out.kept hb2
          have hR2 := HR.out.kept hb2
          have hB2 := HB.out.trans (hb2.mono HB.out.size)
          have HD2 := Lib.hid hD2
          have HR2 := Lib.hid hR2
          have HB2 := Lib.hid hB2
          rw [e8]
          clear hD2 hR2 hB2 hb2 HD HR HB e8
          go_wp2_with (refine wpList_store_row rfl 56 _ _ rfl _ _ rfl rfl 56 _ HD2.out (by kernel_rfl) rfl (by kernel_rfl) ?_)
          have hD3 := HD2.out.row (dig8 (rdf n))
          have hR3 := HR2.out.rowOther (dig8 (rdf n)) (show w.heap.size ≠ w1.heap.size by omega)
          have hB3 := below_setRow HB2.out (g := w1.heap.size) (by omega) (dig8 (rdf n))
          generalize w2.setRow w1.heap.size (dig8 (rdf n)) = w3 at *
          have hld : ∀ W : World, RowAt W w1.heap.size 56 (dig8 (rdf n)) → W.cell? ⟨w1.heap.size, 0, none⟩ = some (.int .u8 (rdf n 0)) ∧ W.cell? ⟨w1.heap.size, 1, none⟩ = some (.int .u8 (rdf n 1)) ∧ W.cell? ⟨w1.heap.size, 2, none⟩ = some (.int .u8 (rdf n 2)) ∧ W.cell? ⟨w1.heap.size, 3, none⟩ = some (.int .u8 (rdf n 3)) ∧ W.cell? ⟨w1.heap.size, 4, none⟩ = some (.int .u8 (rdf n 4)) ∧ W.cell? ⟨w1.heap.size, 5, none⟩ = some (.int .u8 (rdf n 5)) ∧ W.cell? ⟨w1.heap.size, 6, none⟩ = some (.int .u8 (rdf n 6)) ∧ W.cell? ⟨w1.heap.size, 7, none⟩ = some (.int .u8 (rdf n 7)) := fun W hW => ⟨hW.cell 0 rfl, hW.cell 1 rfl, hW.cell 2 rfl, hW.cell 3 rfl, hW.cell 4 rfl, hW.cell 5 rfl, hW.cell 6 rfl, hW.cell 7 rfl⟩
          have hS3 : RowAt w3.drew w.heap.size 56 zero8 ∧ Below w.heap.size w w3.drew ∧ RowAt w3.drew w1.heap.size 56 (dig8 (rdf n)) ∧ w3.drew.cell? ⟨w1.heap.size, 0, none⟩ = some (.int .u8 (rdf n 0)) ∧ w3.drew.cell? ⟨w1.heap.size, 1, none⟩ = some (.int .u8 (rdf n 1)) ∧ w3.drew.cell? ⟨w1.heap.size, 2, none⟩ = some (.int .u8 (rdf n 2)) ∧ w3.drew.cell? ⟨w1.heap.size, 3, none⟩ = some (.int .u8 (rdf n 3)) ∧ w3.drew.cell? ⟨w1.heap.size, 4, none⟩ = some (.int .u8 (rdf n 4)) ∧ w3.drew.cell? ⟨w1.heap.size, 5, none⟩ = some (.int .u8 (rdf n 5)) ∧ w3.drew.cell? ⟨w1.heap.size, 6, none⟩ = some (.int .u8 (rdf n 6)) ∧ w3.drew.cell? ⟨w1.heap.size, 7, none⟩ = some (.int .u8 (rdf n 7)) := ⟨hR3, hB3.drew, hD3, hld _ hD3⟩
          have hS4 : ∀ w4, Below w3.drew.heap.size w3.drew w4 → RowAt w4 w.heap.size 56 zero8 ∧ Below w.heap.size w w4 ∧ RowAt w4 w1.heap.size 56 (dig8 (rdf n)) ∧ w4.cell? ⟨w1.heap.size, 0, none⟩ = some (.int .u8 (rdf n 0)) ∧ w4.cell? ⟨w1.heap.size, 1, none⟩ = some (.int .u8 (rdf n 1)) ∧ w4.cell? ⟨w1.heap.size, 2, none⟩ = some (.int .u8 (rdf n 2)) ∧ w4.cell? ⟨w1.heap.size, 3, none⟩ = some (.int .u8 (rdf n 3)) ∧ w4.cell? ⟨w1.heap.size, 4, none⟩ = some (.int .u8 (rdf n 4)) ∧ w4.cell? ⟨w1.heap.size, 5, none⟩ = some (.int .u8 (rdf n 5)) ∧ w4.cell? ⟨w1.heap.size, 6, none⟩ = some (.int .u8 (rdf n 6)) ∧ w4.cell? ⟨w1.heap.size, 7, none⟩ = some (.int .u8 (rdf n 7)) := fun w4 hb => ⟨hS3.1.kept hb, hS3.2.1.trans (hb.mono hS3.2.1.size), hS3.2.2.1.kept hb, hld _ (hS3.2.2.1.kept hb)⟩
          have HS3 := Lib.hid hS3
          have HS4 := Lib.hid hS4
          clear hS3 hS4 hld
          have heq : ∀ W, (binOp .eql 56 (.agg #[.int .u8 (rdf n 0), .int .u8 (rdf n 1), .int .u8 (rdf n 2), .int .u8 (rdf n 3), .int .u8 (rdf n 4), .int .u8 (rdf n 5), .int .u8 (rdf n 6), .int .u8 (rdf n 7)]) (.agg (dig8 (rdf n)))).run Try.prog W = .ok (.bool true) W := fun W => run_eql_dig8 W (rdf n) (rdf n) (isRow_rdf h3 h8).byte (isRow_rdf h3 h8).byte _ (dig8_same _)
          clear hD3 hR3 hB3 HD2 HR2 HB2
          go_region_held3 (fun w' => RowAt w' w.heap.size 56 zero8 ∧ Below w.heap.size w w' ∧ RowAt w' w1.heap.size 56 (dig8 (rdf n)) ∧ w'.cell? ⟨w1.heap.size, 0, none⟩ = some (.int .u8 (rdf n 0)) ∧ w'.cell? ⟨w1.heap.size, 1, none⟩ = some (.int .u8 (rdf n 1)) ∧ w'.cell? ⟨w1.heap.size, 2, none⟩ = some (.int .u8 (rdf n 2)) ∧ w'.cell? ⟨w1.heap.size, 3, none⟩ = some (.int .u8 (rdf n 3)) ∧ w'.cell? ⟨w1.heap.size, 4, none⟩ = some (.int .u8 (rdf n 4)) ∧ w'.cell? ⟨w1.heap.size, 5, none⟩ = some (.int .u8 (rdf n 5)) ∧ w'.cell? ⟨w1.heap.size, 6, none⟩ = some (.int .u8 (rdf n 6)) ∧ w'.cell? ⟨w1.heap.size, 7, none⟩ = some (.int .u8 (rdf n 7))) (first | exact HS3.out | exact HS4.out _ hb4) (first | (go_at_call 55; refine (roundsDigits_any n h8 _).mono ?_; rintro e3 w4 ⟨rfl, hb4⟩) | fail)
          have hS := HS4.out _ hb4
          have HR5 := Lib.hid hS.1
          have HB5 := Lib.hid hS.2.1
          clear hS HS3 HS4 hb4
          go_wp2_with (first | (refine wpList_store_row rfl 56 _ _ rfl _ _ rfl rfl 56 _ HR5.out (by kernel_rfl) rfl (by kernel_rfl) ?_))
          exact bodyPost_ret (results_row_tmp rfl _ _ w.heap.size 56 zero8 (0, 0) _ rfl (HR5.out.row _) Try.underlying56 rfl (by kernel_rfl)) rfl ⟨rfl, below_setRow HB5.out (Nat.le_refl _) _⟩
        · have HEV := Lib.hid h2
          clear hwk h2
          go_wp2_with (first | (refine wpList_load_row rfl 56 _ rfl _ rfl 56 _ _ _ HD.out Try.underlying56 rfl (by kernel_rfl) ?_) | fail)
          refine (swapped_no d last n hln h8 HEV.out _ _ rfl rfl _).mono ?_
          rintro e2 w2 ⟨rfl, hb2⟩
          have hD2 := HD.out.kept hb2
          have hR2 := (HR.out.kept hb2).rowOther zero8 (show w.heap.size ≠ w1.heap.size by omega)
          have hB2 := below_setRow (HB.out.trans (hb2.mono HB.out.size)) (g := w1.heap.size) (by omega) zero8
          have HD2 := Lib.hid hD2
          have HR2 := Lib.hid hR2
          have HB2 := Lib.hid hB2
          clear hD2 hR2 hB2 hb2 HD HR HB
          go_wp2_with (first | (refine wpList_store_row rfl 56 _ _ rfl _ _ rfl rfl 56 _ HD2.out (by kernel_rfl) rfl (by kernel_rfl) ?_) | fail)
          go_quiet (fail)
          have hR3 : RowAt ((w2.setRow w1.heap.size zero8).drewN nq) w.heap.size 56 zero8 := HR2.out
          have hB3 : Below w.heap.size w ((w2.setRow w1.heap.size zero8).drewN nq) := below_drewN HB2.out _
          generalize (w2.setRow w1.heap.size zero8).drewN nq = w5 at *
          have HR5 := Lib.hid hR3
          have HB5 := Lib.hid hB3
          clear hR3 hB3 HR2 HB2
          go_wp2_with (first | (refine wpList_store_row rfl 56 _ _ rfl _ _ rfl rfl 56 _ HR5.out (by kernel_rfl) rfl (by kernel_rfl) ?_))
          exact bodyPost_ret (results_row_tmp rfl _ _ w.heap.size 56 zero8 (0, 0) _ rfl (HR5.out.row _) Try.underlying56 rfl (by kernel_rfl)) rfl ⟨rfl, below_setRow HB5.out (Nat.le_refl _) _⟩
  · have hM' : (s.toList == [45]) = false := by rw [hM, decide_eq_false hd]
    rw [if_neg hd] at hw
    have HW := Lib.hid hw
    clear hw hd hM
    go_enter Try.func48, Try.ntmps48
    go_wp2_with (first | (go_at_call 63; refine (goodStage_any _ _).mono ?_; rintro e w' ⟨rfl, rfl⟩))
    refine (roundsDigits_any n h8 _).mono ?_
    rintro e1 w1 ⟨rfl, hb1⟩
    have hR1 : RowAt w1 w.heap.size 56 zero8 := (RowAt.new w _ zero8).kept hb1
    have hB1 : Below w.heap.size w w1 := ((Below.refl _ w).alloc (Nat.le_refl _) _).trans (hb1.mono (by simp))
    have hlt1 := hR1.lt
    have HR1 := Lib.hid hR1
    have HB1 := Lib.hid hB1
    clear hR1 hB1 hb1
    go_wp2_with (refine wpList_store_row rfl 56 _ _ rfl _ _ rfl rfl 56 _ (heap_at _ _ _ (by simp)) (by kernel_rfl) rfl (by kernel_rfl) ?_; rw [setRow_at _ _ _ _ _ (by simp)])
    have hI0 : ((w1.alloc (.cells (dig8 (rdf n)) 56)).iter s 0).heap[w1.heap.size + 1]? = some (.stringIter s 0) := by
      have := World.iter_heap (w1.alloc (.cells (dig8 (rdf n)) 56)) s 0
      simpa using this
    have hD0 : RowAt ((w1.alloc (.cells (dig8 (rdf n)) 56)).iter s 0) w1.heap.size 56 (dig8 (rdf n)) := (RowAt.new w1 _ _).push _
    have hR0 : RowAt ((w1.alloc (.cells (dig8 (rdf n)) 56)).iter s 0) w.heap.size 56 zero8 := (HR1.out.push _).push _
    have hB0 : Below w.heap.size w ((w1.alloc (.cells (dig8 (rdf n)) 56)).iter s 0) := (HB1.out.alloc (by omega) _).alloc (by simp; omega) _
    have HI0 := Lib.hid hI0
    have HD0 := Lib.hid hD0
    have HR0 := Lib.hid hR0
    have HB0 := Lib.hid hB0
    clear hI0 hD0 hR0 hB0 HR1 HB1
    go_loopg [8] (s).size (fun q nx wr => ∃ (pos last : Nat) (d : Nat → Nat), pos ≤ (s).size ∧ q + pos = (s).size ∧ nx = .int .i64 ((last : Int) + 1) ∧ last ≤ n ∧ walkC n last d ((lets s).drop pos) = res ∧ wr.heap[w1.heap.size + 1]? = some (.stringIter s pos) ∧ RowAt wr w1.heap.size 56 (dig8 d) ∧ RowAt wr w.heap.size 56 zero8 ∧ Below w.heap.size w wr)
    case atStart => exact ⟨0, 0, rdf n, Nat.zero_le _, rfl, rfl, Nat.zero_le _, by simpa using HW.out, HI0.out, HD0.out, HR0.out, HB0.out⟩
    case round =>
      clear HI0 HD0 HR0 HB0 HW
      obtain ⟨pos, last, d, hpos, hq, rfl, hln, hwk, hI, hD, hR, hB⟩ := hrel
      have HQ := Lib.hid hq
      have HI := Lib.hid hI
      have HD := Lib.hid hD
      have HR := Lib.hid hR
      have HB := Lib.hid hB
      have hKlt : w1.heap.size + 1 < wr.heap.size := (Array.getElem?_eq_some_iff.1 hI).1
      clear hq hI hD hR hB
      by_cases hlt : pos < (s).size
      · by_cases hasc : dg s pos < 128
        · have hnx := fun ty => Lib.run_next_ascii_at (P := Try.prog) wr (w1.heap.size + 1) s pos ty HI.out hlt (by rw [dg_at _ pos hlt]; omega)
          rw [dg_at _ pos hlt] at hnx
          have hI' := Lib.iterAt_heap wr (w1.heap.size + 1) s pos (pos + 1) HI.out
          have hD' : RowAt (wr.iterAt (w1.heap.size + 1) s (pos + 1)) w1.heap.size 56 (dig8 d) := (Lib.iterAt_other wr _ _ s (pos + 1) (by omega)).trans HD.out
          have hR' : RowAt (wr.iterAt (w1.heap.size + 1) s (pos + 1)) w.heap.size 56 zero8 := (Lib.iterAt_other wr _ _ s (pos + 1) (by omega)).trans HR.out
          have hB' := Lib.below_iterAt HB.out (k := w1.heap.size + 1) (by omega) s (pos + 1)
          have HI' := Lib.hid hI'
          have HD' := Lib.hid hD'
          have HR' := Lib.hid hR'
          have HB' := Lib.hid hB'
          clear hI' hD' hR' hB' HI HD HR HB
          have hwk2 := hwk
          rw [lets_drop _ pos hlt] at hwk2
          unfold walkC at hwk2
          by_cases h1 : 48 + last + 1 ≤ dg s pos ∧ dg s pos ≤ 48 + n
          · rw [if_pos h1] at hwk2
            obtain ⟨p, hp⟩ : ∃ p : Nat, dg s pos = 48 + p := ⟨dg s pos - 48, by omega⟩
            rw [hp] at hnx hwk2
            have ep : ((48 + p : Nat) : Int) - 48 = p := by omega
            have a1 : (last : Int) + 1 ≤ p := by omega
            have a2 : (p : Int) ≤ n := by omega
            by_cases h2 : (48 + p - 48 - last) % 2 = 1
            · rw [if_pos h2] at hwk2
              have HWK := Lib.hid hwk2
              have HEV := Lib.hid (show (p - 1 - last) % 2 = 0 by omega)
              clear hwk hwk2 h1 h2
              go_wp2_with (first | (refine wpList_load_row rfl 56 _ rfl _ rfl 56 _ _ _ HD'.out Try.underlying56 rfl (by kernel_rfl) ?_) | fail)
              refine (swapped_yes d last (p - 1) (by omega) (by omega) HEV.out _ _ rfl (by omega) _).mono ?_
              rintro e2 w2 ⟨rfl, hb2⟩
              have hI2 := (hb2.block _ (by rw [Lib.iterAt_size]; exact hKlt)).trans HI'.out
              have hD2 := HD'.out.kept hb2
              have hR2 := HR'.out.kept hb2
              have hB2 := HB'.out.trans (hb2.mono HB'.out.size)
              have HI2 := Lib.hid hI2
              have HD2 := Lib.hid hD2
              have HR2 := Lib.hid hR2
              have HB2 := Lib.hid hB2
              clear hI2 hD2 hR2 hB2 hb2 HI' HD' HR' HB'
              go_wp2_with (refine wpList_store_row rfl 56 _ _ rfl _ _ rfl rfl 56 _ HD2.out (by kernel_rfl) rfl (by kernel_rfl) ?_)
              go_roundg ((s).size - (pos + 1))
              case measure => have := HQ.out; omega
              case rel =>
                refine ⟨pos + 1, p, _, hlt, by have := HQ.out; omega, by go_num, by omega, ?_, (setRow_other _ _ _ _ (by omega)).trans HI2.out, HD2.out.row _, HR2.out.rowOther _ (by omega), below_setRow HB2.out (by omega) _⟩
                have := HWK.out
                rw [show 48 + p - 48 = p by omega, show 48 + p - 49 = p - 1 by omega] at this
                exact this
            · have HEV := Lib.hid (show ¬ (p - 1 - last) % 2 = 0 by omega)
              clear hwk hwk2 h1 h2
              go_wp2_with (first | (refine wpList_load_row rfl 56 _ rfl _ rfl 56 _ _ _ HD'.out Try.underlying56 rfl (by kernel_rfl) ?_) | fail)
              refine (swapped_no d last (p - 1) (by omega) (by omega) HEV.out _ _ rfl (by omega) _).mono ?_
              rintro e2 w2 ⟨rfl, hb2⟩
              have hD2 := HD'.out.kept hb2
              have hR2 := (HR'.out.kept hb2).rowOther zero8 (show w.heap.size ≠ w1.heap.size by omega)
              have hB2 := below_setRow (HB'.out.trans (hb2.mono HB'.out.size)) (g := w1.heap.size) (by omega) zero8
              have HD2 := Lib.hid hD2
              have HR2 := Lib.hid hR2
              have HB2 := Lib.hid hB2
              clear hD2 hR2 hB2 hb2 HI' HD' HR' HB'
              go_wp2_with (first | (refine wpList_store_row rfl 56 _ _ rfl _ _ rfl rfl 56 _ HD2.out (by kernel_rfl) rfl (by kernel_rfl) ?_) | (refine wpList_store_row rfl 56 _ _ rfl _ _ rfl rfl 56 _ HR2.out (by kernel_rfl) rfl (by kernel_rfl) ?_))
              exact bodyPost_ret (results_row_tmp rfl _ _ w.heap.size 56 zero8 (0, 0) _ rfl (HR2.out.row _) Try.underlying56 rfl (by kernel_rfl)) rfl ⟨rfl, below_setRow HB2.out (Nat.le_refl _) _⟩
          · clear hwk hwk2
            by_cases h1a : 48 + last + 1 ≤ dg s pos
            · have a2 : (n : Int) < (dg s pos : Int) - 48 := by omega
              clear h1
              go_wp2_with (refine wpList_store_row rfl 56 _ _ rfl _ _ rfl rfl 56 _ HR'.out (by kernel_rfl) rfl (by kernel_rfl) ?_)
              exact bodyPost_ret (results_row_tmp rfl _ _ w.heap.size 56 zero8 (0, 0) _ rfl (HR'.out.row _) Try.underlying56 rfl (by kernel_rfl)) rfl ⟨rfl, below_setRow HB'.out (Nat.le_refl _) _⟩
            · have a2 : (dg s pos : Int) - 48 < (last : Int) + 1 := by omega
              clear h1 h1a
              go_wp2_with (refine wpList_store_row rfl 56 _ _ rfl _ _ rfl rfl 56 _ HR'.out (by kernel_rfl) rfl (by kernel_rfl) ?_)
              exact bodyPost_ret (results_row_tmp rfl _ _ w.heap.size 56 zero8 (0, 0) _ rfl (HR'.out.row _) Try.underlying56 rfl (by kernel_rfl)) rfl ⟨rfl, below_setRow HB'.out (Nat.le_refl _) _⟩
        · have hhi := decode_high s pos hlt (by rw [dg_at _ pos hlt]; omega)
          have hle := decode_le s pos
          have hnx := fun ty => Lib.run_next_any_at (P := Try.prog) wr (w1.heap.size + 1) s pos ty HI.out hlt
          generalize (Utf8.decode s pos).1 = c at *
          generalize pos + (Utf8.decode s pos).2 = pos2 at *
          have hR' : RowAt (wr.iterAt (w1.heap.size + 1) s pos2) w.heap.size 56 zero8 := (Lib.iterAt_other wr _ _ s pos2 (by omega)).trans HR.out
          have hB' := Lib.below_iterAt HB.out (k := w1.heap.size + 1) (by omega) s pos2
          have HR' := Lib.hid hR'
          have HB' := Lib.hid hB'
          have a1 : (128 : Int) ≤ c := by have := hhi.1; omega
          have a2 : (c : Int) ≤ 2147483647 := by omega
          clear hR' hB' HI HD HR HB hwk hhi hle
          go_wp2_with (refine wpList_store_row rfl 56 _ _ rfl _ _ rfl rfl 56 _ HR'.out (by kernel_rfl) rfl (by kernel_rfl) ?_)
          exact bodyPost_ret (results_row_tmp rfl _ _ w.heap.size 56 zero8 (0, 0) _ rfl (HR'.out.row _) Try.underlying56 rfl (by kernel_rfl)) rfl ⟨rfl, below_setRow HB'.out (Nat.le_refl _) _⟩

      · obtain rfl : pos = (s).size := by omega
        have hnx := fun ty => Lib.run_next_end_at (P := Try.prog) wr (w1.heap.size + 1) s (s).size ty HI.out hlt
        rw [lets_all] at hwk
        unfold walkC at hwk
        by_cases h2 : (n - last) % 2 = 0
        · rw [if_pos h2] at hwk
          have e8 : dig8 (swF d last n) = dig8 (rdf n) := by
            rcases hres with h | ⟨e, h, he⟩
            · rw [h] at hwk; cases hwk
            · rw [h] at hwk; cases hwk; exact dig8_congr fun i hi => to8_at he i hi
          have HEV := Lib.hid h2
          clear h2 hwk
          go_wp2_with (first | (refine wpList_load_row rfl 56 _ rfl _ rfl 56 _ _ _ HD.out Try.underlying56 rfl (by kernel_rfl) ?_) | fail)
          refine (swapped_yes d last n hln h8 HEV.out _ _ rfl rfl _).mono ?_
          rintro e2 w2 ⟨rfl, hb2⟩
          have hD2 := HD.out.kept hb2
          have hR2 := HR.out.kept hb2
          have hB2 := HB.out.trans (hb2.mono HB.out.size)
          have HD2 := Lib.hid hD2
          have HR2 := Lib.hid hR2
          have HB2 := Lib.hid hB2
          rw [e8]
          clear hD2 hR2 hB2 hb2 HD HR HB e8
          go_wp2_with (refine wpList_store_row rfl 56 _ _ rfl _ _ rfl rfl 56 _ HD2.out (by kernel_rfl) rfl (by kernel_rfl) ?_)
          have hD3 := HD2.out.row (dig8 (rdf n))
          have hR3 := HR2.out.rowOther (dig8 (rdf n)) (show w.heap.size ≠ w1.heap.size by omega)
          have hB3 := below_setRow HB2.out (g := w1.heap.size) (by omega) (dig8 (rdf n))
          generalize w2.setRow w1.heap.size (dig8 (rdf n)) = w3 at *
          have hld : ∀ W : World, RowAt W w1.heap.size 56 (dig8 (rdf n)) → W.cell? ⟨w1.heap.size, 0, none⟩ = some (.int .u8 (rdf n 0)) ∧ W.cell? ⟨w1.heap.size, 1, none⟩ = some (.int .u8 (rdf n 1)) ∧ W.cell? ⟨w1.heap.size, 2, none⟩ = some (.int .u8 (rdf n 2)) ∧ W.cell? ⟨w1.heap.size, 3, none⟩ = some (.int .u8 (rdf n 3)) ∧ W.cell? ⟨w1.heap.size, 4, none⟩ = some (.int .u8 (rdf n 4)) ∧ W.cell? ⟨w1.heap.size, 5, none⟩ = some (.int .u8 (rdf n 5)) ∧ W.cell? ⟨w1.heap.size, 6, none⟩ = some (.int .u8 (rdf n 6)) ∧ W.cell? ⟨w1.heap.size, 7, none⟩ = some (.int .u8 (rdf n 7)) := fun W hW => ⟨hW.cell 0 rfl, hW.cell 1 rfl, hW.cell 2 rfl, hW.cell 3 rfl, hW.cell 4 rfl, hW.cell 5 rfl, hW.cell 6 rfl, hW.cell 7 rfl⟩
          have hS3 : RowAt w3.drew w.heap.size 56 zero8 ∧ Below w.heap.size w w3.drew ∧ RowAt w3.drew w1.heap.size 56 (dig8 (rdf n)) ∧ w3.drew.cell? ⟨w1.heap.size, 0, none⟩ = some (.int .u8 (rdf n 0)) ∧ w3.drew.cell? ⟨w1.heap.size, 1, none⟩ = some (.int .u8 (rdf n 1)) ∧ w3.drew.cell? ⟨w1.heap.size, 2, none⟩ = some (.int .u8 (rdf n 2)) ∧ w3.drew.cell? ⟨w1.heap.size, 3, none⟩ = some (.int .u8 (rdf n 3)) ∧ w3.drew.cell? ⟨w1.heap.size, 4, none⟩ = some (.int .u8 (rdf n 4)) ∧ w3.drew.cell? ⟨w1.heap.size, 5, none⟩ = some (.int .u8 (rdf n 5)) ∧ w3.drew.cell? ⟨w1.heap.size, 6, none⟩ = some (.int .u8 (rdf n 6)) ∧ w3.drew.cell? ⟨w1.heap.size, 7, none⟩ = some (.int .u8 (rdf n 7)) := ⟨hR3, hB3.drew, hD3, hld _ hD3⟩
          have hS4 : ∀ w4, Below w3.drew.heap.size w3.drew w4 → RowAt w4 w.heap.size 56 zero8 ∧ Below w.heap.size w w4 ∧ RowAt w4 w1.heap.size 56 (dig8 (rdf n)) ∧ w4.cell? ⟨w1.heap.size, 0, none⟩ = some (.int .u8 (rdf n 0)) ∧ w4.cell? ⟨w1.heap.size, 1, none⟩ = some (.int .u8 (rdf n 1)) ∧ w4.cell? ⟨w1.heap.size, 2, none⟩ = some (.int .u8 (rdf n 2)) ∧ w4.cell? ⟨w1.heap.size, 3, none⟩ = some (.int .u8 (rdf n 3)) ∧ w4.cell? ⟨w1.heap.size, 4, none⟩ = some (.int .u8 (rdf n 4)) ∧ w4.cell? ⟨w1.heap.size, 5, none⟩ = some (.int .u8 (rdf n 5)) ∧ w4.cell? ⟨w1.heap.size, 6, none⟩ = some (.int .u8 (rdf n 6)) ∧ w4.cell? ⟨w1.heap.size, 7, none⟩ = some (.int .u8 (rdf n 7)) := fun w4 hb => ⟨hS3.1.kept hb, hS3.2.1.trans (hb.mono hS3.2.1.size), hS3.2.2.1.kept hb, hld _ (hS3.2.2.1.kept hb)⟩
          have HS3 := Lib.hid hS3
          have HS4 := Lib.hid hS4
          clear hS3 hS4 hld
          have heq : ∀ W, (binOp .eql 56 (.agg #[.int .u8 (rdf n 0), .int .u8 (rdf n 1), .int .u8 (rdf n 2), .int .u8 (rdf n 3), .int .u8 (rdf n 4), .int .u8 (rdf n 5), .int .u8 (rdf n 6), .int .u8 (rdf n 7)]) (.agg (dig8 (rdf n)))).run Try.prog W = .ok (.bool true) W := fun W => run_eql_dig8 W (rdf n) (rdf n) (isRow_rdf h3 h8).byte (isRow_rdf h3 h8).byte _ (dig8_same _)
          clear hD3 hR3 hB3 HD2 HR2 HB2
          go_region_held3 (fun w' => RowAt w' w.heap.size 56 zero8 ∧ Below w.heap.size w w' ∧ RowAt w' w1.heap.size 56 (dig8 (rdf n)) ∧ w'.cell? ⟨w1.heap.size, 0, none⟩ = some (.int .u8 (rdf n 0)) ∧ w'.cell? ⟨w1.heap.size, 1, none⟩ = some (.int .u8 (rdf n 1)) ∧ w'.cell? ⟨w1.heap.size, 2, none⟩ = some (.int .u8 (rdf n 2)) ∧ w'.cell? ⟨w1.heap.size, 3, none⟩ = some (.int .u8 (rdf n 3)) ∧ w'.cell? ⟨w1.heap.size, 4, none⟩ = some (.int .u8 (rdf n 4)) ∧ w'.cell? ⟨w1.heap.size, 5, none⟩ = some (.int .u8 (rdf n 5)) ∧ w'.cell? ⟨w1.heap.size, 6, none⟩ = some (.int .u8 (rdf n 6)) ∧ w'.cell? ⟨w1.heap.size, 7, none⟩ = some (.int .u8 (rdf n 7))) (first | exact HS3.out | exact HS4.out _ hb4) (first | (go_at_call 55; refine (roundsDigits_any n h8 _).mono ?_; rintro e3 w4 ⟨rfl, hb4⟩) | fail)
          have hS := HS4.out _ hb4
          have HR5 := Lib.hid hS.1
          have HB5 := Lib.hid hS.2.1
          clear hS HS3 HS4 hb4
          go_wp2_with (first | (refine wpList_store_row rfl 56 _ _ rfl _ _ rfl rfl 56 _ HR5.out (by kernel_rfl) rfl (by kernel_rfl) ?_))
          exact bodyPost_ret (results_row_tmp rfl _ _ w.heap.size 56 zero8 (0, 0) _ rfl (HR5.out.row _) Try.underlying56 rfl (by kernel_rfl)) rfl ⟨rfl, below_setRow HB5.out (Nat.le_refl _) _⟩
        · have HEV := Lib.hid h2
          clear hwk h2
          go_wp2_with (first | (refine wpList_load_row rfl 56 _ rfl _ rfl 56 _ _ _ HD.out Try.underlying56 rfl (by kernel_rfl) ?_) | fail)
          refine (swapped_no d last n hln h8 HEV.out _ _ rfl rfl _).mono ?_
          rintro e2 w2 ⟨rfl, hb2⟩
          have hD2 := HD.out.kept hb2
          have hR2 := (HR.out.kept hb2).rowOther zero8 (show w.heap.size ≠ w1.heap.size by omega)
          have hB2 := below_setRow (HB.out.trans (hb2.mono HB.out.size)) (g := w1.heap.size) (by omega) zero8
          have HD2 := Lib.hid hD2
          have HR2 := Lib.hid hR2
          have HB2 := Lib.hid hB2
          clear hD2 hR2 hB2 hb2 HD HR HB
          go_wp2_with (first | (refine wpList_store_row rfl 56 _ _ rfl _ _ rfl rfl 56 _ HD2.out (by kernel_rfl) rfl (by kernel_rfl) ?_) | fail)
          go_quiet (fail)
          have hR3 : RowAt ((w2.setRow w1.heap.size zero8).drewN nq) w.heap.size 56 zero8 := HR2.out
          have hB3 : Below w.heap.size w ((w2.setRow w1.heap.size zero8).drewN nq) := below_drewN HB2.out _
          generalize (w2.setRow w1.heap.size zero8).drewN nq = w5 at *
          have HR5 := Lib.hid hR3
          have HB5 := Lib.hid hB3
          clear hR3 hB3 HR2 HB2
          go_wp2_with (first | (refine wpList_store_row rfl 56 _ _ rfl _ _ rfl rfl 56 _ HR5.out (by kernel_rfl) rfl (by kernel_rfl) ?_))
          exact bodyPost_ret (results_row_tmp rfl _ _ w.heap.size 56 zero8 (0, 0) _ rfl (HR5.out.row _) Try.underlying56 rfl (by kernel_rfl)) rfl ⟨rfl, below_setRow HB5.out (Nat.le_refl _) _⟩
end Go.Proofs.Ytkeighlcdnfjcaa
