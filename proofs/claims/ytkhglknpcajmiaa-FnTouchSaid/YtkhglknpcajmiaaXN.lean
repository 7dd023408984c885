/- IsRound in the program. -/
import Derived.Test.YtkhglknpcajmiaaXM
import Derived.Deep.RegionHeld
import Derived.Deep.MidRow
import Derived.BigGuardPart
namespace Go.Proofs.Ytkhglknpcajmiaa
open Go.RowKit
set_option linter.unusedSimpArgs false
set_option linter.unusedVariables false

section
variable {P : Program} {ops : Array Oper} {Q : Exit → Act → World → Prop} {md : Region.Mode} {S : World → Prop} {fuel : Nat} {listed : Array Bool} {a : Act} {w : World}
/-- an operation that is wanted and yields v -/
theorem heldYield (i : Nat) (d : Option Tmp) (v : Value) (hi : ∃ oi, ops[i]? = some oi ∧ oi.dst = d ∧ Region.wanted oi (yielded ops a.tmps) = true ∧ ∀ w, S w → (execOp a.eval oi).run P w = .ok (.value v) w) (hs : Region.noSelect ops = true) (hf : Region.free md ops listed i = true) (hr : (Region.ready md ops listed).contains i = true)
    (hQ : ∀ c a w, Q (.panic c) (a.put d v) w → Q (.panic c) a w) (hS : S w) (h : wpAnyH P md ops Q S fuel (listed.setIfInBounds i true) (a.put d v) w) : wpAnyH P md ops Q S (fuel + 1) listed a w := by
  obtain ⟨oi, h1, rfl, h3, h4⟩ := hi
  exact wpAnyH_take h1 hs hf hr hQ (.inl ⟨h3, h4⟩) hS h
/-- a load of a row, or of a part of one -/
theorem heldLoad (i : Nat) (d : Option Tmp) (ty : TypeId) (x : Operand) (b o : Nat) (cs : List Value) (dd : TypeDesc) (hi : ∃ oi, ops[i]? = some oi ∧ oi.dst = d ∧ oi.op = .load ty x ∧ Region.wanted oi (yielded ops a.tmps) = true) (hx : a.eval x = .pointer (some ⟨b, o, none⟩)) (hc : ∀ w, S w → w.rangeAt b o cs)
    (hu : P.underlying ty = some dd) (hd : dd.isRow = true) (hz : (P.info? ty).map (·.size) = some cs.length) (hs : Region.noSelect ops = true) (hf : Region.free md ops listed i = true) (hr : (Region.ready md ops listed).contains i = true)
    (hQ : ∀ c a w, Q (.panic c) (a.put d (.agg cs.toArray)) w → Q (.panic c) a w) (hS : S w) (h : wpAnyH P md ops Q S fuel (listed.setIfInBounds i true) (a.put d (.agg cs.toArray)) w) : wpAnyH P md ops Q S (fuel + 1) listed a w := by
  obtain ⟨oi, h1, rfl, h2, h3⟩ := hi
  exact wpAnyH_take h1 hs hf hr hQ (yieldsIf_load_mid h3 ty x h2 b o hx cs dd hc hu hd hz) hS h
end
theorem tou_all {W : World} {c : Nat} {u kv : Value} {f h0 h1 h2 : Nat → Nat} (h : RowAt W c 116 (touV u f h0 h1 h2 kv)) : W.rangeAt c 0 (touV u f h0 h1 h2 kv).toList := by
  intro j v hv
  rw [Nat.zero_add]
  exact h.cell j (by rw [← Array.getElem?_toList]; exact hv)
theorem sizeTouch (u kv : Value) (f h0 h1 h2 : Nat → Nat) : (Try.prog.info? 116).map (·.size) = some (touV u f h0 h1 h2 kv).toList.length := by
  have : (Try.prog.info? 116).map (·.size) = some 34 := by kernel_rfl
  exact this

set_option maxRecDepth 100000 in
set_option maxHeartbeats 1000000 in
theorem iIsRound_yes (s : ByteArray) (hs : s.size ≤ maxLen) (n : Nat) (v : Value) (L : List (List Nat)) (b q t : ByteArray) (w : World) (h : Txts w v L) (hl : L.length ≤ 2000000) (hg : goodK s n L b q = true) (hgt : goodT t = true) :
    Calls Try.prog 48 #[.agg #[.string s, .int .i64 n, v], .agg #[.string b, .string q], .string t] w fun e w' => e = .returned (.tuple #[.bool (roundT n L b q t), .bool true]) ∧ Below w.heap.size w w' := by
  obtain ⟨a, cap, rfl, hcap, -⟩ := id h
  have HT := Lib.hid h
  have HR0 := Lib.hid ((RowAt.new w 25 #[.string s, .int .i64 n, .slice a L.length cap]).push (.cells #[.string b, .string q] 27))
  have HK0 : Hid (RowAt ((w.alloc (.cells #[.string s, .int .i64 n, .slice a L.length cap] 25)).alloc (.cells #[.string b, .string q] 27)) (w.heap.size + 1) 27 #[.string b, .string q]) := Lib.hid (by
    have := RowAt.new (w.alloc (.cells #[.string s, .int .i64 n, .slice a L.length cap] 25)) 27 #[.string b, .string q]
    simpa using this)
  have HB0 := Lib.hid (((Below.refl _ w).alloc (Nat.le_refl _) (.cells #[.string s, .int .i64 n, .slice a L.length cap] 25)).alloc (by simp) (.cells #[.string b, .string q] 27))
  have HC := Lib.hid (fun w h => touchOf_yes s hs n (.slice a L.length cap) L b q t w h hl hg hgt)
  unfold TouYes at HC
  have hlen := goodM_nat (goodK_parts hg).1
  have h60 := (goodT_parts hgt).2.1
  have hks := kindsT_lt t
  have hkl := kindsT_len t
  have r0 := isRow_hdK hg 0
  have r1 := isRow_hdK hg 1
  have r2 := isRow_hdK hg 2
  have HLH : Hid (∀ a m cap a2 k2 W, Own W 3 (.slice a2 t.size k2) (nums (kindsT t)) → Calls Try.prog 114 #[.agg (touV (.slice a m cap) (rdf n) (hdK n L b q 0) (hdK n L b q 1) (hdK n L b q 2) (.slice a2 t.size k2))] W fun e w' => e = .returned (.agg (dig8 (headF n (turnsT n L b q t)))) ∧ Below W.heap.size W w') := Lib.hid (fun a m cap a2 k2 W hW => by
    have := lastHead_any n a m cap _ _ _ hlen.1 hlen.2.1 r0 r1 r2 (kindsT t) hks a2 k2 W (by rw [hkl]; exact hW) (by omega)
    rw [pk3_turns, hkl] at this
    exact this)
  have hre := isRow_head hlen.1 hlen.2.1 (rows_turnsT hg t)
  have hst := eq8_strT hre (isRow_rdf hlen.1 hlen.2.1)
  rw [strOf_rdf] at hst
  rw [show roundT n L b q t = ((strOf n (headF n (turnsT n L b q t))).toList == (rnds n).toList) from rfl, ← hst]
  have heq := fun W => run_eql_dig8 W (headF n (turnsT n L b q t)) (rdf n) (fun i => by
    by_cases hi : i < n
    · have := hre.hi i hi; have := hre.eight; omega
    · rw [hre.zero i (by omega)]; omega) (fun i => by
    unfold rdf
    split
    · have := hre.eight; omega
    · omega) _ rfl
  clear hst
  generalize headF n (turnsT n L b q t) = z at *
  generalize rdf n = f at *
  generalize ((List.range 8).map (fun i => UInt8.ofNat (z i)) == (List.range 8).map (fun i => UInt8.ofNat (f i))) = res at *
  clear hre
  generalize hdK n L b q 0 = h0 at *
  generalize hdK n L b q 1 = h1 at *
  generalize hdK n L b q 2 = h2 at *
  generalize chR n L = cs at *
  generalize kindsT t = ks at *
  generalize t.size = p at *
  clear h hcap hl hg hgt hlen hks
  generalize L.length = m at *
  go_enter Try.func48, Try.ntmps48
  go_wp2_with (first | (refine wpList_load_row rfl 25 _ rfl _ rfl 25 _ _ _ (HR0.out) Try.underlying25 rfl (by kernel_rfl) ?_) | (refine wpList_load_row rfl 27 _ rfl _ rfl 27 _ _ _ (HK0.out) Try.underlying27 rfl (by kernel_rfl) ?_) | fail)
  refine (HC.out _ (HT.out.kept HB0.out)).mono ?_
  rintro e w1 ⟨a1, k1, a2, k2, rfl, hn1, hq1, hb1⟩
  have HB1 := Lib.hid (HB0.out.trans (hb1.mono HB0.out.size))
  have hal := (Below.refl w1.heap.size w1).alloc (Nat.le_refl _) (.cells (touV (.slice a1 m k1) f h0 h1 h2 (.slice a2 p k2)) 116)
  have HX2 := Lib.hid (RowAt.new w1 116 (touV (.slice a1 m k1) f h0 h1 h2 (.slice a2 p k2)))
  have HB2 := Lib.hid (HB1.out.trans (hal.mono HB1.out.size))
  have HN2 := Lib.hid (hn1.kept hal)
  have HQ2 := Lib.hid (hq1.kept hal)
  clear hb1 hn1 hq1 HR0 HK0 HB0 HC HT HB1 hal
  simp only [touV] at HB2 HN2 HQ2 ⊢
  go_wp2_with (first | (refine wpList_store_row rfl 116 _ _ rfl _ _ rfl rfl 116 _ (heap_at _ _ _ (by simp)) (by kernel_rfl) rfl (by kernel_rfl) ?_; rw [setRow_at _ _ _ _ _ (by simp)]) | fail)
  obtain ⟨w2, hw2⟩ : ∃ w2, w1.alloc (.cells (touV (.slice a1 m k1) f h0 h1 h2 (.slice a2 p k2)) 116) = w2 := ⟨_, rfl⟩
  rw [hw2] at HX2
  simp only [touV] at hw2
  rw [hw2] at HB2 HN2 HQ2 ⊢
  clear hw2
  have HS0 : Hid (Below w2.heap.size w2 w2.drew) := Lib.hid (Below.refl _ _).drew
  have HG : Hid (∀ W', Below w2.heap.size w2 W' → W'.rangeAt w1.heap.size 0 (touV (.slice a1 m k1) f h0 h1 h2 (.slice a2 p k2)).toList) := Lib.hid (fun W' h => tou_all (HX2.out.keep h HX2.out.lt))
  have HGF : Hid (∀ W', Below w2.heap.size w2 W' → W'.rangeAt w1.heap.size 1 (cells8 f)) := Lib.hid (fun W' h => tou_rangeF (HX2.out.keep h HX2.out.lt))
  have hs0 := HS0.out
  have HCL := Lib.hid (HLH.out a1 m k1 a2 k2 w2.drew (HQ2.out.drewN 1).own)
  refine wp_region_held_drew (S := fun w' => Below w2.heap.size w2 w') (by kernel_rfl) hs0 (fun hHeld => ?_)
  refine heldLoad 0 (some 19) 116 _ w1.heap.size 0 (touV (.slice a1 m k1) f h0 h1 h2 (.slice a2 p k2)).toList _ ⟨_, rfl, rfl, rfl, by rfl⟩ rfl HG.out Try.underlying116 rfl (sizeTouch _ _ _ _ _ _) (by kernel_rfl) (by kernel_rfl) (by kernel_rfl) (fun _ _ _ h => h) (by assumption) ?_
  simp only [Act.put, List.setIfInBounds_toArray, List.set_cons_zero, List.set_cons_succ, Array.toArray_toList]
  refine heldYield 2 (some 21) (.pointer (some ⟨w1.heap.size, 0, none⟩)) ⟨_, rfl, rfl, by rfl, fun w hw => by rfl⟩ (by kernel_rfl) (by kernel_rfl) (by kernel_rfl) (fun _ _ _ h => h) (by assumption) ?_
  simp only [Act.put, List.setIfInBounds_toArray, List.set_cons_zero, List.set_cons_succ, Array.toArray_toList]
  refine heldYield 3 (some 22) (.pointer (some ⟨w1.heap.size, 0, none⟩)) ⟨_, rfl, rfl, by rfl, fun w hw => by rfl⟩ (by kernel_rfl) (by kernel_rfl) (by kernel_rfl) (fun _ _ _ h => h) (by assumption) ?_
  simp only [Act.put, List.setIfInBounds_toArray, List.set_cons_zero, List.set_cons_succ, Array.toArray_toList]
  refine heldYield 4 (some 23) (.pointer (some ⟨w1.heap.size, 1, none⟩)) ⟨_, rfl, rfl, by rfl, fun w hw => by rfl⟩ (by kernel_rfl) (by kernel_rfl) (by kernel_rfl) (fun _ _ _ h => h) (by assumption) ?_
  simp only [Act.put, List.setIfInBounds_toArray, List.set_cons_zero, List.set_cons_succ, Array.toArray_toList]
  refine heldLoad 5 (some 24) 87 _ w1.heap.size 1 (cells8 f) _ ⟨_, rfl, rfl, rfl, by rfl⟩ rfl HGF.out Try.underlying87 rfl sizeDigs (by kernel_rfl) (by kernel_rfl) (by kernel_rfl) (fun _ _ _ h => h) (by assumption) ?_
  rw [cells8_arr]
  simp only [Act.put, List.setIfInBounds_toArray, List.set_cons_zero, List.set_cons_succ, Array.toArray_toList]
  refine wpAnyH_ready (rs := [1]) (by kernel_rfl) (by simp) ?_
  refine AllReadyH.cons rfl (fun K hK => ?_) AllReadyH.nil
  go_simp
  go_wp2_with fail
  refine HCL.out.mono ?_
  rintro e5 w5 ⟨rfl, hb5⟩
  have hs5 : Below w2.heap.size w2 w5 := HS0.out.trans (hb5.mono HS0.out.size)
  go_wp2
  refine hK.out _ _ hs5 (fun hHeld => ?_)
  clear hK K
  refine wpAnyH_ready (rs := [6]) (by kernel_rfl) (by simp) ?_
  refine AllReadyH.cons rfl (fun K hK => ?_) AllReadyH.nil
  go_simp
  go_wp2
  refine hK.out _ _ hs5 (fun hHeld => ?_)
  clear hK K
  refine heldYield 7 (some 6) (.bool res) ⟨_, rfl, rfl, by rfl, fun w hw => by rfl⟩ (by kernel_rfl) (by kernel_rfl) (by kernel_rfl) (fun _ _ _ h => h) (by assumption) ?_
  simp only [Act.put, List.setIfInBounds_toArray, List.set_cons_zero, List.set_cons_succ, Array.toArray_toList]
  refine heldYield 8 (some 7) (.bool true) ⟨_, rfl, rfl, by rfl, fun w hw => by rfl⟩ (by kernel_rfl) (by kernel_rfl) (by kernel_rfl) (fun _ _ _ h => h) (by assumption) ?_
  simp only [Act.put, List.setIfInBounds_toArray, List.set_cons_zero, List.set_cons_succ, Array.toArray_toList]
  refine wpAnyH_done (by kernel_rfl) ?_ _
  have HB5 := Lib.hid (HB2.out.trans (hs5.mono HB2.out.size))
  clear hs5 hb5 hs0
  go_wp2
  go_ret2
  exact ⟨rfl, HB5.out⟩
end Go.Proofs.Ytkhglknpcajmiaa
