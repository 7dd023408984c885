/- Paths and place bells in the model. -/
import Derived.Test.YtpfnamiacagocaaZ1
namespace Go.Proofs.Ytpfnamiacagocaa
open Go.RowKit
set_option linter.unusedSimpArgs false
set_option linter.unusedVariables false

theorem plc_le (n : Nat) (f : Nat → Nat) (b : Nat) (h : IsRow n f) (h1 : 1 ≤ b) (hb : b ≤ n) : plc n f b ≤ 8 := by
  have := plc_spec h h1 hb
  have := h.eight
  omega
set_option maxRecDepth 100000 in
set_option maxHeartbeats 1000000 in
theorem l5Path_any (s : ByteArray) (n : Nat) (v : Value) (L : List (List Nat)) (hg : goodAll n L = true) (h40 : L.length ≤ 40) (b : Nat) (h1 : 1 ≤ b) (hb : b ≤ n) (w : World) (h : Txts w v L) :
    Calls Try.prog 63 #[.agg #[.string s, .int .i64 n, v], .int .i64 b] w (NumsOut (pathF n (chR n L) (rdf n) b) w) := by
  obtain ⟨a, cap, rfl, hcap, -⟩ := id h
  have hr := goodAll_range hg
  have HT := Lib.hid h
  have HR0 := Lib.hid (RowAt.new w 26 #[.string s, .int .i64 n, .slice a L.length cap])
  have HB0 := Lib.hid ((Below.refl _ w).alloc (Nat.le_refl _) (.cells #[.string s, .int .i64 n, .slice a L.length cap] 26))
  have HR := Lib.hid (l1Rounds_any n (by omega))
  have hrd : IsRow n (rdf n) := isRow_rdf (by omega) (by omega)
  have HL := Lib.hid (fun w h => l4Lead_any n (.slice a L.length cap) L (rdf n) hrd hg w h)
  rw [strOf_rdf] at HL
  unfold LeadOut at HL
  have hrows := goodAll_rows hg
  have hlead := rows_lead hrows hrd
  have hend := isRow_end hrows hrd
  have hpath : pathF n (chR n L) (rdf n) b = (leadF n (chR n L) (rdf n)).map (fun g => plc n g b) ++ [plc n (endF n (chR n L) (rdf n)) b] := by simp [pathF]
  rw [hpath]
  have HPE := Lib.hid (fun w => l5Place_any n _ hend b h1 hb w)
  have hpe8 := plc_le n _ b hend h1 hb
  have hll : (leadF n (chR n L) (rdf n)).length = L.length := by rw [leadF_len, chR_len]
  have HLR : Hid (∀ i (hi : i < (leadF n (chR n L) (rdf n)).length) w, Calls Try.prog 105 #[.string (strOf n (leadF n (chR n L) (rdf n))[i]), .int .i64 b] w fun e w' => e = .returned (.int .i64 (plc n (leadF n (chR n L) (rdf n))[i] b)) ∧ w = w') := Lib.hid (fun i hi w => l5Place_any n _ (hlead _ (List.getElem_mem hi)) b h1 hb w)
  generalize plc n (endF n (chR n L) (rdf n)) b = pe at *
  generalize strOf n (endF n (chR n L) (rdf n)) = th at *
  generalize leadF n (chR n L) (rdf n) = lf at *
  generalize rnds n = rn at *
  have HLL := Lib.hid hll
  obtain ⟨i0, hi0, hz0, hz1, hz2⟩ := info_parts infoInt
  have I0 := Lib.hid (⟨hi0, hz0, hz1, hz2⟩ : _ ∧ _ ∧ _ ∧ _)
  have c1 := HR0.out.cell 1 rfl
  have c2 := HR0.out.cell 2 rfl
  clear h hcap hg hr hrows hlead hend hpath hll hi0 hz0 hz1 hz2 hrd
  unfold NumsOut
  have hm40 : (L.length : Int) ≤ 40 := by omega
  generalize L.length = m at *
  go_enter Try.func63, Try.ntmps63
  go_wp2
  generalize w.alloc (.cells #[.string s, .int .i64 n, .slice a m cap] 26) = w0 at *
  have hlt : w.heap.size < w0.heap.size := HR0.out.lt
  have HS : Hid (∀ W, (W.cell? ⟨w.heap.size, 1, none⟩ = some (.int .i64 n) ∧ W.cell? ⟨w.heap.size, 2, none⟩ = some (.slice a m cap) ∧ Below w0.heap.size w0 W) → Calls Try.prog 103 #[.slice a m cap, .string rn] W fun e w' => (∃ v, (∃ b c, v = .slice b m c) ∧ New w0.heap.size w' 9 v (strs (rowsL n lf)) ∧ e = .returned (.tuple #[v, .string th])) ∧ (w'.cell? ⟨w.heap.size, 1, none⟩ = some (.int .i64 n) ∧ w'.cell? ⟨w.heap.size, 2, none⟩ = some (.slice a m cap) ∧ Below w0.heap.size w0 w')) := Lib.hid (fun W hW => by
    obtain ⟨h1, h2, hW⟩ := hW
    refine (HL.out W ((HT.out.kept HB0.out).kept hW)).mono fun e w' h => ?_
    obtain ⟨v, rfl, hn, hb⟩ := h
    obtain ⟨b, c, rfl, -⟩ := hn.own.view
    have hlt2 := Nat.lt_of_lt_of_le hlt hW.size
    exact ⟨⟨_, ⟨b, c, by rw [strs_len, rowsL_len, HLL.out]⟩, hn.lower hW.size, rfl⟩, (hb.cell (p := ⟨w.heap.size, 1, none⟩) hlt2).trans h1, (hb.cell (p := ⟨w.heap.size, 2, none⟩) hlt2).trans h2, hW.trans (hb.mono hW.size)⟩)
  clear HL
  go_region_held3 (fun w' => w'.cell? ⟨w.heap.size, 1, none⟩ = some (.int .i64 n) ∧ w'.cell? ⟨w.heap.size, 2, none⟩ = some (.slice a m cap) ∧ Below w0.heap.size w0 w') (first | exact ⟨c1, c2, Below.refl _ _⟩ | exact ⟨c1, c2, (Below.refl _ _).drew⟩ | assumption) (first | (go_at_call 104; refine (HR.out _).mono ?_; rintro e4 w4 ⟨rfl, rfl⟩) | (go_at_call 103; refine (HS.out _ (by first | assumption | exact ⟨c1, c2, Below.refl _ _⟩ | exact ⟨c1, c2, (Below.refl _ _).drew⟩)).mono ?_; rintro e5 w5 ⟨⟨_, ⟨b5, k5, rfl⟩, hn5, rfl⟩, hS5⟩) | fail)
  have HN5 := Lib.hid hn5
  have HB5 := Lib.hid (HB0.out.trans (hS5.2.2.mono HB0.out.size))
  have HW5 := Lib.hid (Nat.le_trans HB0.out.size (Nat.le_refl w0.heap.size))
  have hw5 : w.heap.size ≤ w5.heap.size := HB5.out.size
  clear hn5 hS5 c1 c2
  go_wp2
  go_loopg [7, 21] m (fun q ov x wr => ∃ (j : Nat) (acc : List Nat), q + j = m ∧ x = .int .i64 j ∧ acc.length = j ∧ acc ++ ((lf.map fun g => plc n g b).drop j) = lf.map (fun g => plc n g b) ∧ New w5.heap.size wr 3 ov (nums acc) ∧ Below w5.heap.size w5 wr)
  case atStart => exact ⟨0, [], by omega, rfl, rfl, rfl, New.nil _ _ _, Below.refl _ _⟩
  case round =>
    obtain ⟨j, acc, hq, rfl, hac, hall, hn, hbl⟩ := hrel
    have HALL := Lib.hid hall
    have HAC := Lib.hid hac
    have HN := Lib.hid hn
    have HB := Lib.hid hbl
    have hsz : w5.heap.size ≤ wr.heap.size := hbl.size
    have hlen : (nums acc).length ≤ 100000 := by rw [nums_len]; omega
    have HLEN := Lib.hid hlen
    obtain ⟨a9, c9, hv9, -⟩ := hn.own.view
    subst hv9
    clear hn hbl hlen hall hac
    by_cases hlt2 : j < m
    · have hj : j < lf.length := by rw [HLL.out]; exact hlt2
      have hji : (j : Int) < m := by omega
      have HC := Lib.hid (fun w => HLR.out j hj w)
      have HT2 : Hid (nums acc ++ [.int .i64 (plc n lf[j] b)] = nums (acc ++ [plc n lf[j] b])) := Lib.hid (by simp [nums, ints])
      have HALL2 : Hid ((acc ++ [plc n lf[j] b]) ++ ((lf.map fun g => plc n g b).drop (j + 1)) = lf.map (fun g => plc n g b)) := Lib.hid (by
        have := HALL.out
        rw [List.drop_eq_getElem_cons (by simpa using hj)] at this
        simpa using this)
      obtain ⟨g5, rfl⟩ : ∃ g, b5 = some ⟨g, 0, none⟩ := by
        obtain ⟨-, h2⟩ := HN5.out.own
        rcases h2 with ⟨h0, _⟩ | ⟨g, cap', cur, h0, _⟩
        · injection h0 with e1 e2; subst e2; omega
        · injection h0 with e1; exact ⟨g, e1⟩
      have c3 : wr.cell? ⟨g5, j, none⟩ = some (.string (strOf n lf[j])) := by
        have := (HN5.out.own.kept HB.out).cell j (.string (strOf n lf[j])) (by simp [strs, rowsL, hj, txt_rowL])
        simpa using this
      generalize plc n lf[j] b = pj at *
      generalize strOf n lf[j] = sj at *
      go_wp2_with (first | (go_at_call 105; refine (HC.out _).mono ?_; rintro e w6 ⟨rfl, rfl⟩) | (at_builtin; refine wpList_app1 rfl (.tmp 25) (.tmp 29) 39 rfl 3 i0 (.int .i64 0) 8 Try.underlying39 I0.out.1 I0.out.2.1 I0.out.2.2.1 I0.out.2.2.2 rfl w5.heap.size w5 _ _ rfl HN.out rfl rfl hsz HB.out HLEN.out (by omega) ?_) | fail)
      intro v7 w7 hn7 hk7 hb7 hs7
      rw [HT2.out] at hn7
      have HN7 := Lib.hid hn7
      have HB7 := Lib.hid hb7
      clear hn7 hk7 hb7 c3
      go_wp2
      go_roundg (m - (j + 1))
      case measure => omega
      case rel => exact ⟨j + 1, acc ++ [pj], by omega, by go_num, by rw [List.length_append, HAC.out]; rfl, HALL2.out, HN7.out, HB7.out⟩
    · obtain rfl : j = m := by omega
      have HT2 : Hid (nums acc ++ [.int .i64 pe] = nums (lf.map (fun g => plc n g b) ++ [pe])) := Lib.hid (by
        have := HALL.out
        rw [List.drop_eq_nil_of_le (by rw [List.length_map, HLL.out]; exact Nat.le_refl _), List.append_nil] at this
        rw [← this]
        simp [nums, ints])
      go_wp2_with (first | (go_at_call 105; refine (HPE.out _).mono ?_; rintro e w6 ⟨rfl, rfl⟩) | (at_builtin; refine wpList_app1 rfl (.tmp 32) (.tmp 36) 39 rfl 3 i0 (.int .i64 0) 8 Try.underlying39 I0.out.1 I0.out.2.1 I0.out.2.2.1 I0.out.2.2.2 rfl w5.heap.size w5 _ _ rfl HN.out rfl rfl hsz HB.out HLEN.out (by omega) ?_) | fail)
      intro v7 w7 hn7 hk7 hb7 hs7
      rw [HT2.out] at hn7
      have HN7 := Lib.hid (hn7.lower hw5)
      have HB7 := Lib.hid (HB5.out.trans (hb7.mono hw5))
      clear hn7 hk7 hb7
      go_wp2
      go_ret
      exact ⟨_, rfl, HN7.out, HB7.out⟩
end Go.Proofs.Ytpfnamiacagocaa
