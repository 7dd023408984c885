/- The rows of a touch, in the program. -/
import Derived.Test.YtkhglknpcajmiaaXN
namespace Go.Proofs.Ytkhglknpcajmiaa
open Go.RowKit
set_option linter.unusedSimpArgs false
set_option linter.unusedVariables false

set_option maxRecDepth 100000 in
set_option maxHeartbeats 1000000 in
theorem allRows_big (n : Nat) (a : Option Addr) (m cap : Nat) (h0 h1 h2 : Nat → Nat) (h3 : 3 ≤ n) (h8 : n ≤ 8) (r0 : IsRow n h0) (r1 : IsRow n h1) (r2 : IsRow n h2) (ks : List Nat) (hks : ∀ k ∈ ks, k < 3) (a2 : Option Addr) (k2 : Nat) (w : World) (hbig : 800 < ks.length * m) (hl : ks.length ≤ 60) (hm : m ≤ 40) :
    Calls Try.prog 112 #[.agg (touV (.slice a m cap) (rdf n) h0 h1 h2 (.slice a2 ks.length k2))] w fun e w' => e = .returned (.tuple #[.slice none 0 0, .bool false]) ∧ Below w.heap.size w w' := by
  generalize ks.length = p at *
  obtain ⟨x, hx⟩ : ∃ x, p * m = x := ⟨_, rfl⟩
  have hmul : (p : Int) * (m : Int) = (x : Int) := by rw [← hx]; exact (Int.natCast_mul p m).symm
  have hx2 : x ≤ 2400 := by rw [← hx]; exact Nat.mul_le_mul hl hm
  have hxb : (800 : Int) < x := by omega
  have hwp : IntKind.i64.wrap (x : Int) = (x : Int) := IntWalk.i64_in _ (by omega)
  generalize rdf n = f at *
  have HX0 := Lib.hid (RowAt.new w 116 (touV (.slice a m cap) f h0 h1 h2 (.slice a2 p k2)))
  have HB0 := Lib.hid ((Below.refl _ w).alloc (Nat.le_refl _) (.cells (touV (.slice a m cap) f h0 h1 h2 (.slice a2 p k2)) 116))
  have c0 := HX0.out.cell 0 rfl
  have c33 := HX0.out.cell 33 rfl
  clear hbig hl hm h3 h8 r0 r1 r2 hks hx hx2 HX0
  simp only [touV] at c0 c33 HB0 ⊢
  go_enter Try.func112, Try.ntmps112
  go_wp2
  go_ret2
  exact ⟨rfl, HB0.out⟩

/-- rows of its own, and a flag -/
def RowsYes (fs : List (Nat → Nat)) (w : World) (e : Ending) (w' : World) : Prop := ∃ v, e = .returned (.tuple #[v, .bool true]) ∧ NewD w.heap.size w' v fs ∧ Below w.heap.size w w'
set_option maxRecDepth 100000 in
set_option maxHeartbeats 1000000 in
theorem allRows_ok (n : Nat) (a : Option Addr) (m cap : Nat) (h0 h1 h2 : Nat → Nat) (h3 : 3 ≤ n) (h8 : n ≤ 8) (r0 : IsRow n h0) (r1 : IsRow n h1) (r2 : IsRow n h2) (ks : List Nat) (hks : ∀ k ∈ ks, k < 3) (a2 : Option Addr) (k2 : Nat) (w : World) (cs : List (Nat → Nat)) (hcs : Rows n cs) (hcl : cs.length = m) (hd : Digs w (.slice a m cap) cs) (hv : Own w 3 (.slice a2 ks.length k2) (nums ks)) (hbig : ks.length * m ≤ 800) (hl : ks.length ≤ 60) (hm : m ≤ 40) (hm1 : 1 ≤ m) :
    Calls Try.prog 112 #[.agg (touV (.slice a m cap) (rdf n) h0 h1 h2 (.slice a2 ks.length k2))] w (RowsYes (rowsT n cs (leadF n (ks.map (pk3 h0 h1 h2)) (rdf n))) w) := by
  have HLH : Hid (∀ W, Below w.heap.size w W → Calls Try.prog 109 #[.agg (touV (.slice a m cap) (rdf n) h0 h1 h2 (.slice a2 ks.length k2))] W (RowsOut (leadF n (ks.map (pk3 h0 h1 h2)) (rdf n) ++ [headF n (ks.map (pk3 h0 h1 h2))]) W)) := Lib.hid (fun W hW => leadHeads_any n a m cap h0 h1 h2 h3 h8 r0 r1 r2 ks hks a2 k2 W (hv.kept hW) hl)
  unfold RowsOut at HLH
  unfold RowsYes
  have hll : (leadF n (ks.map (pk3 h0 h1 h2)) (rdf n)).length = ks.length := by rw [leadF_len, List.length_map]
  have hrr : Rows n (leadF n (ks.map (pk3 h0 h1 h2)) (rdf n)) := rows_lead (fun c hc => by
    obtain ⟨k, -, rfl⟩ := List.mem_map.1 hc
    exact pk3_row r0 r1 r2 k) (isRow_rdf h3 h8)
  have HRW := Lib.hid (fun v g hg W hW => rows_any n v cs g hg hcs (by omega) W hW)
  unfold RowsOut at HRW
  have HLF : Hid (∀ g, (leadF n cs g).length = m) := Lib.hid (fun g => by rw [leadF_len, hcl])
  have HSN := Lib.hid (rowsT_snoc n cs)
  have HLN := Lib.hid (fun hs => by have := rowsT_len n cs hs; rwa [hcl] at this)
  have H00 : Hid (rowsT n cs [] = []) := Lib.hid rfl
  generalize leadF n (ks.map (pk3 h0 h1 h2)) (rdf n) = D at *
  generalize headF n (ks.map (pk3 h0 h1 h2)) = ee at *
  generalize rowsT n cs = RT at *
  generalize leadF n cs = LF at *
  generalize rdf n = f at *
  generalize ks.length = p at *
  obtain ⟨x, hx⟩ : ∃ x, p * m = x := ⟨_, rfl⟩
  have hmul : (p : Int) * (m : Int) = (x : Int) := by rw [← hx]; exact (Int.natCast_mul p m).symm
  have hxb : ¬ (800 : Int) < x := by omega
  have hwp : IntKind.i64.wrap (x : Int) = (x : Int) := IntWalk.i64_in _ (by omega)
  have HX0 := Lib.hid (RowAt.new w 116 (touV (.slice a m cap) f h0 h1 h2 (.slice a2 p k2)))
  have HB0 := Lib.hid ((Below.refl _ w).alloc (Nat.le_refl _) (.cells (touV (.slice a m cap) f h0 h1 h2 (.slice a2 p k2)) 116))
  have HDG := Lib.hid (hd.kept ((Below.refl w.heap.size w).alloc (Nat.le_refl _) (.cells (touV (.slice a m cap) f h0 h1 h2 (.slice a2 p k2)) 116)))
  have c0 : (w.alloc (.cells (touV (.slice a m cap) f h0 h1 h2 (.slice a2 p k2)) 116)).cell? ⟨w.heap.size, 0, none⟩ = some (.slice a m cap) := HX0.out.cell 0 rfl
  have c33 : (w.alloc (.cells (touV (.slice a m cap) f h0 h1 h2 (.slice a2 p k2)) 116)).cell? ⟨w.heap.size, 33, none⟩ = some (.slice a2 p k2) := HX0.out.cell 33 rfl
  have HLL := Lib.hid hll
  have HRR := Lib.hid hrr
  have HPM := Lib.hid hbig
  have HXX := Lib.hid hx
  have hpi : (p : Int) ≤ 60 := by omega
  have HM1 := Lib.hid hm1
  have HM4 := Lib.hid hm
  have HP6 := Lib.hid hl
  obtain ⟨w0, hw0⟩ : ∃ w0, w.alloc (.cells (touV (.slice a m cap) f h0 h1 h2 (.slice a2 p k2)) 116) = w0 := ⟨_, rfl⟩
  rw [hw0] at HX0 HB0 HDG c0 c33
  clear hbig hl hm h3 h8 r0 r1 r2 hks hx hcs hcl hd hv hll hrr hm1
  simp only [touV] at hw0
  go_enter Try.func112, Try.ntmps112
  simp only [touV]
  go_wp2_with fail
  clear hw0
  have HS0 : Hid (Below w0.heap.size w0 w0.drew) := Lib.hid (Below.refl _ _).drew
  have HG : Hid (∀ W', Below w0.heap.size w0 W' → W'.rangeAt w.heap.size 0 (touV (.slice a m cap) f h0 h1 h2 (.slice a2 p k2)).toList) := Lib.hid (fun W' h => tou_all (HX0.out.keep h HX0.out.lt))
  have HC33 : Hid (∀ W', Below w0.heap.size w0 W' → W'.cell? ⟨w.heap.size, 33, none⟩ = some (.slice a2 p k2)) := Lib.hid (fun W' h => (HX0.out.keep h HX0.out.lt).cell 33 rfl)
  have hs0 := HS0.out
  have HCL := Lib.hid (HLH.out w0.drew HB0.out.drew)
  clear c0 c33
  refine wp_region_held_drew (S := fun w' => Below w0.heap.size w0 w') (by kernel_rfl) hs0 (fun hHeld => ?_)
  refine heldLoad 0 (some 17) 116 _ w.heap.size 0 (touV (.slice a m cap) f h0 h1 h2 (.slice a2 p k2)).toList _ ⟨_, rfl, rfl, rfl, by rfl⟩ rfl HG.out Try.underlying116 rfl (sizeTouch _ _ _ _ _ _) (by kernel_rfl) (by kernel_rfl) (by kernel_rfl) (fun _ _ _ h => h) (by assumption) ?_
  simp only [Act.put, List.setIfInBounds_toArray, List.set_cons_zero, List.set_cons_succ, Array.toArray_toList]
  refine heldYield 2 (some 19) (.pointer (some ⟨w.heap.size, 33, none⟩)) ⟨_, rfl, rfl, by rfl, fun w hw => by rfl⟩ (by kernel_rfl) (by kernel_rfl) (by kernel_rfl) (fun _ _ _ h => h) (by assumption) ?_
  simp only [Act.put, List.setIfInBounds_toArray, List.set_cons_zero, List.set_cons_succ, Array.toArray_toList]
  refine heldYield 3 (some 20) (.slice a2 p k2) ⟨_, rfl, rfl, by rfl, fun w hw => by have c33 := HC33.out w hw; go_simp⟩ (by kernel_rfl) (by kernel_rfl) (by kernel_rfl) (fun _ _ _ h => h) (by assumption) ?_
  simp only [Act.put, List.setIfInBounds_toArray, List.set_cons_zero, List.set_cons_succ, Array.toArray_toList]
  refine heldYield 4 (some 21) (.int .i64 p) ⟨_, rfl, rfl, by rfl, fun w hw => by go_simp⟩ (by kernel_rfl) (by kernel_rfl) (by kernel_rfl) (fun _ _ _ h => h) (by assumption) ?_
  simp only [Act.put, List.setIfInBounds_toArray, List.set_cons_zero, List.set_cons_succ, Array.toArray_toList]
  refine heldYield 7 (some 24) (.int .i64 0) ⟨_, rfl, rfl, by rfl, fun w hw => by rfl⟩ (by kernel_rfl) (by kernel_rfl) (by kernel_rfl) (fun _ _ _ h => h) (by assumption) ?_
  simp only [Act.put, List.setIfInBounds_toArray, List.set_cons_zero, List.set_cons_succ, Array.toArray_toList]
  refine wpAnyH_ready (rs := [1]) (by kernel_rfl) (by simp) ?_
  refine AllReadyH.cons rfl (fun K hK => ?_) AllReadyH.nil
  go_simp
  go_wp2_with fail
  refine HCL.out.mono ?_
  rintro e5 w5 ⟨v5, rfl, hn5, hb5⟩
  have hs5 : Below w0.heap.size w0 w5 := HS0.out.trans (hb5.mono HS0.out.size)
  obtain ⟨a5, k5, rfl, hk5, hg5⟩ := hn5.view (n := p + 1) (by rw [List.length_append, HLL.out]; rfl)
  go_wp2
  refine hK.out _ _ hs5 (fun hHeld => ?_)
  clear hK K
  obtain ⟨g5, rfl⟩ := hg5 (by omega)
  have HDL := Lib.hid (hn5.digs.prefix p (by rw [List.length_append, HLL.out]; omega))
  have hpk : (p : Int) ≤ k5 := by omega
  have hpk2 : p ≤ k5 := by omega
  have hp0 : (0 : Int) ≤ p := by omega
  refine wpAnyH_ready (rs := [5]) (by kernel_rfl) (by simp) ?_
  refine AllReadyH.cons rfl (fun K hK => ?_) AllReadyH.nil
  go_simp
  go_wp2
  refine hK.out _ _ hs5 (fun hHeld => ?_)
  clear hK K
  refine wpAnyH_ready (rs := [6]) (by kernel_rfl) (by simp) ?_
  refine AllReadyH.cons rfl (fun K hK => ?_) AllReadyH.nil
  go_simp
  go_wp2
  refine hK.out _ _ hs5 (fun hHeld => ?_)
  clear hK K
  refine wpAnyH_done (by kernel_rfl) ?_ _
  have HS5 := Lib.hid hs5
  clear hs5 hb5 hs0 hn5 hk5 hg5 hpk hpk2 HCL HG HC33
  have HX5 := Lib.hid (HX0.out.keep HS5.out HX0.out.lt)
  have HDG5 := Lib.hid (HDG.out.kept HS5.out)
  have HB5 := Lib.hid (HB0.out.trans (HS5.out.mono HB0.out.size))
  have HRNG : Hid (0 < p → g5 < w5.heap.size ∧ ∀ j (h : j < D.length), w5.rangeAt g5 (j * 8) (cells8 D[j])) := Lib.hid (fun hp => by
    have htk : (D ++ [ee]).take p = D := by rw [← HLL.out, List.take_left]
    have h1 := HDL.out
    rw [htk] at h1
    obtain ⟨ad, cap2, hv, -, hdd⟩ := h1
    injection hv with e1 e2 e3
    subst e1
    obtain ⟨g', off, hg', hlt, hr⟩ := hdd (by rw [HLL.out]; exact hp)
    injection hg' with hg'
    injection hg' with e4 e5
    subst e4 e5
    exact ⟨hlt, fun j h => by have := hr j h; rwa [Nat.zero_add] at this⟩)
  clear HX0 HDG HB0 HDL hHeld HS0 HS5
  go_wp2
  go_loopg [4, 24] p (fun q v i wr => ∃ j : Nat, q + j = p ∧ i = .int .i64 j ∧ NewD w5.heap.size wr v (RT (D.take j)) ∧ Below w5.heap.size w5 wr)
  case atStart => exact ⟨0, by omega, rfl, by rw [List.take_zero, H00.out]; exact NewD.nil _ _, Below.refl _ _⟩
  case round =>
    obtain ⟨j, hq, rfl, hn, hb⟩ := hrel
    have HQ := Lib.hid hq
    have HN := Lib.hid hn
    have HB := Lib.hid hb
    clear hq hn hb
    by_cases hlt : j < p
    · have hjx : j < D.length := by rw [HLL.out]; exact hlt
      have hrow := HRR.out _ (List.getElem_mem hjx)
      obtain ⟨hgl, hrg⟩ := HRNG.out (by omega)
      have hload := hrg j hjx
      have htk : D.take (j + 1) = D.take j ++ [D[j]] := List.take_succ_eq_append_getElem hjx
      have hlen0 := HLN.out (D.take j)
      rw [List.length_take, HLL.out, Nat.min_eq_left (by omega)] at hlen0
      have hsn := HSN.out (D.take j) D[j]
      rw [← htk] at hsn
      have hlen : (RT (D.take j)).length ≤ 800 := by
        rw [hlen0]
        exact Nat.le_trans (Nat.mul_le_mul_right m (by omega)) HPM.out
      generalize D[j] = z at *
      have HSN1 := Lib.hid hsn
      have HLEN := Lib.hid hlen
      have HLZ := Lib.hid (HLF.out z)
      have HL : Hid (wr.rangeAt g5 (j * 8) (cells8 z)) := Lib.hid (fun k u hu => (HB.out.cell (p := ⟨g5, j * 8 + k, none⟩) hgl).trans (hload k u hu))
      have hji : (j : Int) < p := by omega
      have hal := (Below.refl wr.heap.size wr).alloc (Nat.le_refl _) (.cells (dig8 z) 87)
      have HX6 := Lib.hid ((HX5.out.keep HB.out HX5.out.lt).kept hal)
      have HZ6 := Lib.hid (RowAt.new wr 87 (dig8 z))
      have HD6 := Lib.hid ((HDG5.out.kept HB.out).kept hal)
      have HB6 := Lib.hid (HB.out.trans (hal.mono HB.out.size))
      have HN6 := Lib.hid (HN.out.kept hal)
      have HCALL := Lib.hid (HRW.out (.slice a m cap) z hrow _ HD6.out)
      have c0 : (wr.alloc (.cells (dig8 z) 87)).cell? ⟨w.heap.size, 0, none⟩ = some (.slice a m cap) := HX6.out.cell 0 rfl
      clear hlen0 hsn hlen htk hload hrg hgl hrow hjx hal HB HN HX6 HD6
      generalize RT (D.take j) = A at *
      generalize LF z = lz at *
      go_wp2_with (first | (refine wpList_store_row rfl 87 _ _ rfl _ _ rfl rfl 87 _ (heap_at _ _ _ (by simp)) (by kernel_rfl) rfl (by kernel_rfl) ?_; rw [setRow_at _ _ _ _ _ (by simp)]) | (refine wpList_load8 rfl _ rfl g5 (j * 8) rfl z HL.out ?_) | (refine wpList_load_row rfl 87 _ rfl _ rfl 87 _ _ _ (HZ6.out) Try.underlying87 rfl (by kernel_rfl) ?_) | fail)
      refine HCALL.out.mono ?_
      rintro e7 w7 ⟨v7, rfl, hn7, hb7⟩
      have HB7 := Lib.hid (HB6.out.trans (hb7.mono HB6.out.size))
      have HN7 := Lib.hid (HN6.out.kept hb7)
      have HD7 := Lib.hid hn7.digs
      clear hb7 hn7 HB6 HN6 HCALL HZ6 HL c0
      go_wp2_with (first | (at_builtin; refine wpList_app8 rfl _ _ 84 rfl Try.underlying84 w5.heap.size w5.heap.size (Nat.le_refl _) _ A lz rfl HN7.out _ rfl HD7.out (by have := HLZ.out; have := HM1.out; omega) HB7.out.size HB7.out (by have := HLZ.out; have := HM4.out; have := HLEN.out; omega) ?_) | fail)
      intro v9 w9 hn9 hk9 hb9 hs9
      rw [← HSN1.out] at hn9
      have HN9 := Lib.hid hn9
      have HB9 := Lib.hid hb9
      clear hn9 hk9 hb9 hs9 HN7 HD7 HB7
      go_wp2
      go_roundg (p - (j + 1))
      case measure => have := HQ.out; omega
      case rel => exact ⟨j + 1, by have := HQ.out; omega, by go_num, HN9.out, HB9.out⟩
    · obtain rfl : j = p := by have := HQ.out; omega
      have hn := HN.out
      rw [List.take_of_length_le (by rw [HLL.out]; exact Nat.le_refl _)] at hn
      have HN2 := Lib.hid (hn.lower HB5.out.size)
      have HB2 := Lib.hid (HB5.out.trans (HB.out.mono HB5.out.size))
      clear hn HN HB
      go_wp2
      go_ret2
      exact ⟨_, rfl, HN2.out, HB2.out⟩
end Go.Proofs.Ytkhglknpcajmiaa

