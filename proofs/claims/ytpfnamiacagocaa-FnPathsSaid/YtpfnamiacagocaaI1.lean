/- Lists of numbers that came in: read, copied, marked. -/
import Derived.Test.YtpfnamiacagocaaZB
namespace Go.Proofs.Ytpfnamiacagocaa
open Go.RowKit
set_option linter.unusedSimpArgs false
set_option linter.unusedVariables false

set_option maxRecDepth 100000 in
set_option maxHeartbeats 1000000 in
theorem eqIntS_big (v v' : Value) (xs : List Int) (w : World) (h : Own w 3 v (ints xs)) (h' : Own w 3 v' (ints xs)) (hb : xs.length ≤ 2000000) :
    Calls Try.prog 45 #[v, v'] w fun e w' => e = .returned (.bool true) ∧ ∃ m, w' = w.drewN m := by
  obtain ⟨n, hn⟩ : ∃ n, xs.length = n := ⟨_, rfl⟩
  obtain ⟨a, cap, rfl, ha⟩ := h.viewI hn
  obtain ⟨a', cap', rfl, ha'⟩ := h'.viewI hn
  rw [hn] at hb
  have HO := Lib.hid h
  have HO' := Lib.hid h'
  have HA := Lib.hid ha
  have HA' := Lib.hid ha'
  clear h h' ha ha'
  have HN := Lib.hid hn
  clear hn
  go_enter Try.func45, Try.ntmps45
  go_wp2
  go_loopg [5] n (fun q i wr => ∃ k : Nat, k ≤ n ∧ q + k = n ∧ i = .int .i64 k ∧ ∃ d, wr = w.drewN d)
  case atStart => exact ⟨0, Nat.zero_le _, rfl, rfl, 0, rfl⟩
  case round =>
    obtain ⟨k, hk, hq, rfl, d, rfl⟩ := hrel
    have HQ := Lib.hid hq
    clear hq
    by_cases hlt : k < n
    · obtain ⟨g, rfl⟩ := HA.out (by omega)
      obtain ⟨g', rfl⟩ := HA'.out (by omega)
      have c1 := HO.out.cell k _ (ints_at xs k (by rw [HN.out]; exact hlt))
      have c2 := HO'.out.cell k _ (ints_at xs k (by rw [HN.out]; exact hlt))
      have hki : (k : Int) < n := by omega
      generalize xs[k]'(by rw [HN.out]; exact hlt) = x at c1 c2
      go_wp2
      go_quiet (fail)
      go_wp2
      go_roundg (n - (k + 1))
      case measure => have := HQ.out; omega
      case rel => exact ⟨k + 1, by omega, by have := HQ.out; omega, by go_num, _, rfl⟩
    · obtain rfl : k = n := by omega
      go_wp2
      go_ret
      exact ⟨rfl, d, rfl⟩


set_option maxRecDepth 100000 in
set_option maxHeartbeats 1000000 in
theorem markIntS_big (v : Value) (xs : List Int) (k : Int) (w : World) (h : Own w 3 v (ints xs)) (hb : xs.length ≤ 2000000) (hk0 : 0 ≤ k) (hk1 : k ≤ 1000000) :
    Calls Try.prog 48 #[v, .int .i64 k] w fun e w' => e = .returned (.int .i64 (k + xs.length)) ∧ Own w' 3 v (ints (marks k xs.length)) ∧ w.grownBy w' v.ownBlock := by
  obtain ⟨n, hn⟩ : ∃ n, xs.length = n := ⟨_, rfl⟩
  obtain ⟨a, cap, rfl, ha⟩ := h.viewI hn
  rw [hn] at hb ⊢
  have HO := Lib.hid h
  have HA := Lib.hid ha
  clear h ha
  have HN := Lib.hid hn
  clear hn
  go_enter Try.func48, Try.ntmps48
  go_wp2
  go_loopg [1, 5] n (fun q kk i wr => ∃ j : Nat, j ≤ n ∧ q + j = n ∧ i = .int .i64 j ∧ kk = .int .i64 (k + j) ∧ Own wr 3 (.slice a n cap) (ints (markTo k xs j)) ∧ w.grownBy wr (Value.slice a n cap).ownBlock)
  case atStart => exact ⟨0, Nat.zero_le _, rfl, rfl, by simp, by simpa [markTo, marks] using HO.out, ⟨rfl, rfl, rfl, Nat.le_refl _, fun _ _ _ => rfl⟩⟩
  case round =>
    obtain ⟨j, hj, hq, rfl, rfl, ho, hg⟩ := hrel
    have HQ := Lib.hid hq
    have HO2 := Lib.hid ho
    have HG := Lib.hid hg
    clear hq ho hg
    by_cases hlt : j < n
    · obtain ⟨g, rfl⟩ := HA.out (by omega)
      have c1 := HO2.out.cell j _ (ints_at (markTo k xs j) j (by rw [markTo_len k xs j (by rw [HN.out]; exact hj), HN.out]; exact hlt))
      have f1 := HO2.out.free j
      have hki : (j : Int) < n := by omega
      generalize (markTo k xs j)[j]'(by rw [markTo_len k xs j (by rw [HN.out]; exact hj), HN.out]; exact hlt) = x at c1
      go_wp2
      go_roundg (n - (j + 1))
      case measure => have := HQ.out; omega
      case rel =>
        refine ⟨j + 1, by omega, by have := HQ.out; omega, by go_num, by go_num, ?_, ?_⟩
        · have := HO2.out.set j (.int .i64 (k + j))
          rw [show (ints (markTo k xs j)).set j (.int .i64 (k + j)) = ints (markTo k xs (j + 1)) from by rw [← markTo_succ k xs j (by rw [HN.out]; exact hlt)]; simp [ints, List.map_set]] at this
          exact this
        · exact ⟨HG.out.os, HG.out.tape, HG.out.output, by simpa using HG.out.size, fun b hb hne => (Below.heap_setCell _ _ _ _ (fun e => hne (by simp [Value.ownBlock, e]))).trans (HG.out.block b hb hne)⟩
    · obtain rfl : j = n := by omega
      have hfin := HO2.out
      rw [← HN.out, markTo_all, HN.out] at hfin
      have HF := Lib.hid hfin
      clear hfin
      go_wp2
      go_ret
      exact ⟨rfl, HF.out, HG.out⟩


/-- a slice of numbers of its own, and a flag -/
def IntsR (P : List Int) (b : Bool) (w : World) (e : Ending) (w' : World) : Prop :=
  ∃ v, e = .returned (.tuple #[v, .bool b]) ∧ New w.heap.size w' 3 v (ints P) ∧ Below w.heap.size w w'
theorem markI (B : Nat) (v : Value) (P : List Int) (w : World) (h : New B w 3 v (ints P)) (hB : B ≤ w.heap.size) (hl : P.length ≤ 1000) :
    Calls Try.prog 48 #[v, .int .i64 1] w fun e w' => e = .returned (.int .i64 (1 + (P.length : Nat))) ∧ Own w' 3 v (ints (marks 1 P.length)) ∧ Below B w w' :=
  (markIntS_any v P 1 w h.own (by omega) (by omega) (by omega)).mono fun e w' hw => ⟨hw.1, hw.2.1, (Below.refl B w).grown hw.2.2 hB (fun g hg => h.base g hg)⟩
theorem heldI (v : Value) (p : Nat) (w : World) (h : Own w 3 v (ints (marks 1 p))) (hl : p ≤ 1000) :
    Calls Try.prog 49 #[v, .int .i64 1] w fun e w' => e = .returned (.int .i64 (1 + (p : Nat))) ∧ Below w.heap.size w w' :=
  (heldIntS_any v p 1 w h (by omega) (by omega) (by omega)).mono fun e w' hw => ⟨hw.1, hw.2 ▸ Below.refl _ _⟩
theorem addI_block (ad : Addr) (j : Nat) : (ad.add j).block = ad.block := by
  unfold Addr.add
  split <;> rfl
theorem Own.underI {B : Nat} {W W' : World} {e : TypeId} {v : Value} {xs : List Value} (h : Own W e v xs) (hlt : ∀ g, v.ownBlock = some g → g < B) (hb : Below B W W') : Own W' e v xs := h.block fun g hg => hb.block g (hlt g hg)
/-- v reads as these numbers, wherever they lie -/
def ArgI (W : World) (v : Value) (xs : List Int) : Prop :=
  ∃ a cap, v = .slice a xs.length cap ∧ (0 < xs.length → ∃ ad : Addr, a = some ad ∧ ad.block < W.heap.size ∧ ∀ j, j < xs.length → W.cell? (ad.add j) = some (.int .i64 (gx xs j)))
theorem ArgI.kept {W W' : World} {v : Value} {xs : List Int} (h : ArgI W v xs) (hb : Below W.heap.size W W') : ArgI W' v xs := by
  obtain ⟨a, cap, rfl, ha⟩ := h
  refine ⟨a, cap, rfl, fun h0 => ?_⟩
  obtain ⟨ad, rfl, hlt, hc⟩ := ha h0
  refine ⟨ad, rfl, Nat.lt_of_lt_of_le hlt hb.size, fun j hj => ?_⟩
  rw [hb.cell (by rw [addI_block]; exact hlt)]
  exact hc j hj
/-- the first j numbers, and zeros -/
def mixI (xs : List Int) (n j : Nat) : List Value := (List.range n).map fun i => .int .i64 (if i < j then gx xs i else 0)
theorem mixI_len (xs : List Int) (n j : Nat) : (mixI xs n j).length = n := by simp [mixI]
theorem mixI_set (xs : List Int) (n j : Nat) (hj : j < n) : (mixI xs n j).set j (.int .i64 (gx xs j)) = mixI xs n (j + 1) := by
  apply List.ext_getElem
  · simp [mixI]
  · intro i h1 h2
    rw [List.getElem_set]
    simp only [mixI, List.getElem_map, List.getElem_range]
    by_cases e : j = i
    · subst e
      rw [if_pos rfl, if_pos (by omega)]
    · rw [if_neg e]
      by_cases h3 : i < j
      · rw [if_pos h3, if_pos (by omega)]
      · rw [if_neg h3, if_neg (by omega)]
theorem mixI_all (xs : List Int) : mixI xs xs.length xs.length = ints xs := by
  apply List.ext_getElem
  · simp [mixI, ints]
  · intro i h1 h2
    have hi : i < xs.length := by simpa [mixI] using h1
    simp [mixI, ints, gx, hi, List.getD_eq_getElem?_getD]

set_option maxRecDepth 100000 in
set_option maxHeartbeats 1000000 in
theorem toIntS_any (v : Value) (xs : List Int) (w : World) (h : ArgI w v xs) (hl : xs.length ≤ 2000000) :
    Calls Try.prog 58 #[v] w fun e w' => ∃ v', e = .returned v' ∧ New w.heap.size w' 3 v' (ints xs) ∧ Below w.heap.size w w' := by
  obtain ⟨n, hn⟩ : ∃ n, xs.length = n := ⟨_, rfl⟩
  obtain ⟨a, cap, rfl, ha⟩ := h
  have hall := mixI_all xs
  rw [hn] at ha hl hall ⊢
  have hl' : (n : Int) ≤ 2000000 := by omega
  have HA := Lib.hid ha
  have HALL := Lib.hid hall
  obtain ⟨i0, hi0, hz0, hz1, hz2⟩ := info_parts infoInt
  have I0 := Lib.hid (⟨hi0, hz0, hz1, hz2⟩ : _ ∧ _ ∧ _ ∧ _)
  clear ha hn hall hi0 hz0 hz1 hz2
  go_enter Try.func58, Try.ntmps58
  go_wp2_with (first | (at_make; refine wpList_make_full _ rfl _ _ 39 rfl w.heap.size 3 i0 (.int .i64 0) 1 Try.underlying39 I0.out.1 I0.out.2.1 I0.out.2.2.1 .i64 .i64 _ _ n rfl rfl rfl rfl (by rw [I0.out.2.2.2]; omega) (by unfold maxLen; omega) (Nat.le_refl _) ?_) | fail)
  intro w1 hown hgrow
  have HB := Lib.hid ((Below.refl _ w).grown hgrow (Nat.le_refl _) (fun k hk => by cases hk))
  have HO : Hid (New w.heap.size w1 3 (.slice (some ⟨w.heap.size, 0, none⟩) n n) (mixI xs n 0)) := Lib.hid (by
    have := hown
    rw [toList_madeCells_one] at this
    have e0 : List.replicate n (Value.int .i64 0) = mixI xs n 0 := by
      apply List.ext_getElem
      · simp [mixI]
      · intro i h1 h2
        simp [mixI]
    rw [e0] at this
    exact New.of_owns this (mixI_len _ _ _))
  clear hown hgrow
  go_wp2
  go_loopg [4] n (fun q i wr => ∃ j : Nat, q + j = n ∧ i = .int .i64 j ∧ New w.heap.size wr 3 (.slice (some ⟨w.heap.size, 0, none⟩) n n) (mixI xs n j) ∧ Below w.heap.size w wr)
  case atStart => exact ⟨0, by omega, rfl, HO.out, HB.out⟩
  case round =>
    clear HO HB
    obtain ⟨j, hq, rfl, ho, hb⟩ := hrel
    have HO := Lib.hid ho
    have HB := Lib.hid hb
    clear ho hb
    by_cases hlt : j < n
    · obtain ⟨ad, rfl, had, hc⟩ := HA.out (by omega)
      have c1 : wr.cell? (ad.add j) = some (.int .i64 (gx xs j)) := by
        rw [HB.out.cell (by rw [addI_block]; exact had)]
        exact hc j hlt
      have HSET : Hid (New w.heap.size (wr.setCell ⟨w.heap.size, j, none⟩ (.int .i64 (gx xs j))) 3 (.slice (some ⟨w.heap.size, 0, none⟩) n n) (mixI xs n (j + 1))) := Lib.hid (by
        rw [← mixI_set xs n j hlt]
        exact ⟨HO.out.own.set j _, HO.out.base⟩)
      obtain ⟨u, hu⟩ : ∃ u, (mixI xs n j)[j]? = some u := ⟨_, List.getElem?_eq_getElem (by rw [mixI_len]; exact hlt)⟩
      have c2 := HO.out.own.cell j u hu
      have f2 := HO.out.own.free j
      have hji : (j : Int) < n := by omega
      generalize gx xs j = s at *
      clear hc hu
      go_wp2
      go_roundg (n - (j + 1))
      case measure => omega
      case rel => exact ⟨j + 1, by omega, by go_num, HSET.out, HB.out.setCell (Nat.le_refl _) _⟩
    · obtain rfl : j = n := by omega
      have hfin := HO.out
      rw [HALL.out] at hfin
      have HF := Lib.hid hfin
      clear hfin HO
      go_wp2
      go_ret
      exact ⟨_, rfl, HF.out, HB.out⟩

theorem bothDodgesIn (xs : List Int) (hl : xs.length ≤ 2000000) :
    ∃ (P : List Int) (flag : Bool), P.length ≤ 1000 ∧ (∀ u w, Own w 3 u (ints xs) → Calls Try.prog 38 #[u] w (IntsR P flag w)) ∧ (∀ u w, Own w 3 u (ints xs) → Calls Try.prog 39 #[u] w (IntsR P flag w)) := by
  refine ⟨(whereL isDg xs).map fun (k : Nat) => (k : Int), goodX xs, ?_, fun u w h => iDodgesIn_any u xs w h (by omega), fun u w h => sDodgesIn_any u xs w h (by omega)⟩
  rw [List.length_map]
  exact whereL_len isDg xs

set_option maxRecDepth 100000 in
set_option maxHeartbeats 1000000 in
theorem lawDodgesIn (v : Value) (xs : List Int) (W : World) (hA : ArgI W v xs) (hml : xs.length ≤ maxLen) :
    Calls Try.prog 10 #[v] W fun e w' => e = .returned (.bool true) ∧ Below W.heap.size W w' := by
  obtain ⟨n, hn⟩ : ∃ n, xs.length = n := ⟨_, rfl⟩
  have hni : (n : Int) ≤ 9223372036854775807 := by rw [hn] at hml; simp only [maxLen] at hml; omega
  have hv : ∃ a c, v = .slice a n c := by
    obtain ⟨a, c, e, -⟩ := hA
    exact ⟨a, c, by rw [e, hn]⟩
  obtain ⟨a, c, rfl⟩ := hv
  by_cases hbig : 1048576 < n
  · have hbi : (1048576 : Int) < n := by omega
    clear hA hn hml
    go_enter Try.func10, Try.ntmps10
    go_wp2
    go_ret
    exact ⟨rfl, Below.refl _ _⟩
  · have hbi : (n : Int) ≤ 1048576 := by omega
    obtain ⟨P, flag, hpl, hI, hS⟩ := bothDodgesIn xs (by omega)
    have HI := Lib.hid hI
    have HS := Lib.hid hS
    have HTO := Lib.hid (fun w h => toIntS_any (.slice a n c) xs w h (by omega))
    have HA := Lib.hid hA
    have HN := Lib.hid hn
    obtain ⟨p, hp⟩ : ∃ p, P.length = p := ⟨_, rfl⟩
    have HPL := Lib.hid hp
    rw [hp] at hpl
    clear hI hS hA hn hml hp
    go_enter Try.func10, Try.ntmps10
    go_wp2_with fail
    refine (HTO.out _ HA.out).mono ?_
    rintro e w1 ⟨v1, rfl, hn1, hb1⟩
    have HB1 := Lib.hid hb1
    have HV1 := Lib.hid hn1.own
    clear hn1 hb1
    go_wp2_with fail
    refine (HS.out _ _ HV1.out).mono ?_
    rintro e w2 ⟨v2, rfl, hn2, hb2⟩
    have HB2 := Lib.hid (HB1.out.trans (hb2.mono HB1.out.size))
    have HV2 := Lib.hid hn2.own
    have HLT2 := Lib.hid hn2.own.lt
    have HS2S := Lib.hid HB2.out.size
    clear hn2 hb2 HV1 HB1
    go_wp2_with fail
    refine (HTO.out _ (HA.out.kept HB2.out)).mono ?_
    rintro e w3 ⟨v3, rfl, hn3, hb3⟩
    have HB3 := Lib.hid (HB2.out.trans (hb3.mono HB2.out.size))
    have HV3 := Lib.hid (HV2.out.kept hb3)
    have HX3 := Lib.hid hn3
    have HLX3 := Lib.hid hn3.own.lt
    have HS3 := Lib.hid hb3.size
    have HS23 := Lib.hid hb3.size
    have HSW3 := Lib.hid HB3.out.size
    clear hn3 hb3 HB2 HV2
    go_wp2_with fail
    refine (HI.out _ _ HX3.out.own).mono ?_
    rintro e w4 ⟨v4, rfl, hn4, hb4⟩
    have HB4 := Lib.hid (HB3.out.trans (hb4.mono HB3.out.size))
    have HV4 := Lib.hid (HV3.out.kept hb4)
    have HX4 := Lib.hid (HX3.out.kept hb4)
    have HS4 := Lib.hid (Nat.le_trans HS3.out hb4.size)
    have HG4 := Lib.hid hn4
    have HT4 := Lib.hid hb4.size
    clear hn4 hb4 HB3 HV3 HX3 HS3
    go_wp2_with fail
    refine (eqIntS_same v4 v2 P _ HG4.out.own HV4.out (by rw [HPL.out]; omega)).mono ?_
    rintro e w5 ⟨rfl, d5, hd5⟩
    have HB5 : Hid (Below W.heap.size W w5) := by rw [hd5]; exact Lib.hid (below_drewN HB4.out _)
    have HV5 : Hid (Own w5 3 v2 (ints P)) := by rw [hd5]; exact Lib.hid (HV4.out.drewN _)
    have HX5 : Hid (New w2.heap.size w5 3 v3 (ints xs)) := by rw [hd5]; exact Lib.hid (HX4.out.drewN _)
    have HG5 : Hid (New w3.heap.size w5 3 v4 (ints P)) := by rw [hd5]; exact Lib.hid (HG4.out.drewN _)
    have HS5 : Hid (w2.heap.size ≤ w5.heap.size) := by rw [hd5]; exact HS4
    have HT5 : Hid (w3.heap.size ≤ w5.heap.size) := by rw [hd5]; exact HT4
    clear hd5 HB4 HV4 HX4 HG4 HS4 HT4
    go_wp2_with fail
    refine (HTO.out _ (HA.out.kept HB5.out)).mono ?_
    rintro e w6 ⟨v6, rfl, hn6, hb6⟩
    have HB6 := Lib.hid (HB5.out.trans (hb6.mono HB5.out.size))
    have HV6 := Lib.hid (HV5.out.kept hb6)
    have HX6 := Lib.hid (HX5.out.kept hb6)
    have HG6 := Lib.hid (HG5.out.kept hb6)
    have HS6 := Lib.hid (Nat.le_trans HS5.out hb6.size)
    have HT6 := Lib.hid (Nat.le_trans HT5.out hb6.size)
    have HE6 := Lib.hid hn6.own
    clear hn6 hb6 HB5 HV5 HX5 HG5 HS5 HT5
    go_wp2_with fail
    refine (eqIntS_big v3 v6 xs _ HX6.out.own HE6.out (by rw [HN.out]; omega)).mono ?_
    rintro e w7 ⟨rfl, d7, hd7⟩
    have HB7 : Hid (Below W.heap.size W w7) := by rw [hd7]; exact Lib.hid (below_drewN HB6.out _)
    have HV7 : Hid (Own w7 3 v2 (ints P)) := by rw [hd7]; exact Lib.hid (HV6.out.drewN _)
    have HX7 : Hid (New w2.heap.size w7 3 v3 (ints xs)) := by rw [hd7]; exact Lib.hid (HX6.out.drewN _)
    have HG7 : Hid (New w3.heap.size w7 3 v4 (ints P)) := by rw [hd7]; exact Lib.hid (HG6.out.drewN _)
    have HS7 : Hid (w2.heap.size ≤ w7.heap.size) := by rw [hd7]; exact HS6
    have HT7 : Hid (w3.heap.size ≤ w7.heap.size) := by rw [hd7]; exact HT6
    clear hd7 HB6 HV6 HX6 HG6 HS6 HT6 HE6
    go_wp2_with fail
    refine (markIntS_big v3 xs 1 _ HX7.out.own (by rw [HN.out]; omega) (by omega) (by omega)).mono ?_
    rintro e w8 ⟨rfl, ho8, hg8⟩
    rw [HN.out]
    have hw20 : W.heap.size ≤ w2.heap.size := Nat.le_trans (HS2S.out) (Nat.le_refl _)
    have HB8 := Lib.hid (HB7.out.grown hg8 HB7.out.size (fun g hg => Nat.le_trans hw20 (HX7.out.base g hg)))
    have HV8 := Lib.hid (HV7.out.grown hg8 (fun g hg e => by have := HLT2.out g hg; have := HX7.out.base g e.symm; omega))
    have HG8 : Hid (New w3.heap.size w8 3 v4 (ints P)) := Lib.hid ⟨HG7.out.own.grown hg8 (fun g hg e => by have := HG7.out.base g hg; have := HLX3.out g e.symm; omega), HG7.out.base⟩
    have HS8 := Lib.hid (Nat.le_trans HS7.out hg8.size)
    have HT8 := Lib.hid (Nat.le_trans HT7.out hg8.size)
    have hnn : ¬ ((1 : Int) + (n : Nat) < 0) := by omega
    clear ho8 hg8 HB7 HV7 HX7 HG7 HS7 HT7
    go_wp2_with fail
    refine (eqIntS_same v4 v2 P _ HG8.out.own HV8.out (by rw [HPL.out]; omega)).mono ?_
    rintro e w9 ⟨rfl, d9, hd9⟩
    have HB9 : Hid (Below W.heap.size W w9) := by rw [hd9]; exact Lib.hid (below_drewN HB8.out _)
    have HV9 : Hid (Own w9 3 v2 (ints P)) := by rw [hd9]; exact Lib.hid (HV8.out.drewN _)
    have HG9 : Hid (New w3.heap.size w9 3 v4 (ints P)) := by rw [hd9]; exact Lib.hid (HG8.out.drewN _)
    have HT9 : Hid (w3.heap.size ≤ w9.heap.size) := by rw [hd9]; exact HT8
    have HLT9 : Hid (∀ g, v2.ownBlock = some g → g < w3.heap.size) := Lib.hid (fun g hg => Nat.lt_of_lt_of_le (HLT2.out g hg) HS23.out)
    clear hd9 HB8 HV8 HG8 HS8 HT8
    go_wp2_with fail
    refine (markI w3.heap.size v4 P _ HG9.out HT9.out (by rw [HPL.out]; omega)).mono ?_
    rintro e w11 ⟨rfl, ho11, hb11⟩
    rw [HPL.out] at ho11 ⊢
    have HM11 := Lib.hid ho11
    have HB11 := Lib.hid (HB9.out.trans (hb11.mono HSW3.out))
    have HP11 := Lib.hid (HV9.out.underI HLT9.out hb11)
    have hpp : ¬ ((1 : Int) + (p : Nat) < 0) := by omega
    clear ho11 hb11 HB9 HV9 HG9 HT9
    go_wp2_with fail
    refine (heldI v4 p _ HM11.out (by omega)).mono ?_
    rintro e w12 ⟨rfl, hb12⟩
    have HM12 := Lib.hid (HM11.out.kept hb12)
    have HB12 := Lib.hid (HB11.out.trans (hb12.mono HB11.out.size))
    have HP12 := Lib.hid (HP11.out.kept hb12)
    clear hb12 HM11 HB11 HP11
    go_wp2_with fail
    refine (HTO.out _ (HA.out.kept HB12.out)).mono ?_
    rintro e w13 ⟨v13, rfl, hn13, hb13⟩
    have HM13 := Lib.hid (HM12.out.kept hb13)
    have HB13 := Lib.hid (HB12.out.trans (hb13.mono HB12.out.size))
    have HP13 := Lib.hid (HP12.out.kept hb13)
    have HT13 := Lib.hid hn13.own
    clear hb13 hn13 HM12 HB12 HP12
    go_wp2_with fail
    refine (HI.out _ _ HT13.out).mono ?_
    rintro e w14 ⟨v14, rfl, hn14, hb14⟩
    have HM14 := Lib.hid (HM13.out.kept hb14)
    have HB14 := Lib.hid (HB13.out.trans (hb14.mono HB13.out.size))
    have HP14 := Lib.hid (HP13.out.kept hb14)
    have HQ14 := Lib.hid hn14.own
    clear hb14 hn14 HM13 HB13 HP13 HT13
    go_wp2_with fail
    refine (eqIntS_same v14 v2 P _ HQ14.out HP14.out (by rw [HPL.out]; omega)).mono ?_
    rintro e w15 ⟨rfl, d15, hd15⟩
    have HM15 : Hid (Own w15 3 v4 (ints (marks 1 p))) := by rw [hd15]; exact Lib.hid (HM14.out.drewN _)
    have HB15 : Hid (Below W.heap.size W w15) := by rw [hd15]; exact Lib.hid (below_drewN HB14.out _)
    clear hd15 HM14 HB14 HP14 HQ14
    go_wp2_with fail
    refine (heldI v4 p _ HM15.out (by omega)).mono ?_
    rintro e w16 ⟨rfl, hb16⟩
    go_wp2
    go_ret
    exact ⟨rfl, HB15.out.trans (hb16.mono HB15.out.size)⟩

theorem bothPointsIn (xs : List Int) (hl : xs.length ≤ 2000000) :
    ∃ (P : List Int) (flag : Bool), P.length ≤ 1000 ∧ (∀ u w, Own w 3 u (ints xs) → Calls Try.prog 40 #[u] w (IntsR P flag w)) ∧ (∀ u w, Own w 3 u (ints xs) → Calls Try.prog 41 #[u] w (IntsR P flag w)) := by
  refine ⟨(whereL isPt xs).map fun (k : Nat) => (k : Int), goodX xs, ?_, fun u w h => iPointsIn_any u xs w h (by omega), fun u w h => sPointsIn_any u xs w h (by omega)⟩
  rw [List.length_map]
  exact whereL_len isPt xs

set_option maxRecDepth 100000 in
set_option maxHeartbeats 1000000 in
theorem lawPointsIn (v : Value) (xs : List Int) (W : World) (hA : ArgI W v xs) (hml : xs.length ≤ maxLen) :
    Calls Try.prog 11 #[v] W fun e w' => e = .returned (.bool true) ∧ Below W.heap.size W w' := by
  obtain ⟨n, hn⟩ : ∃ n, xs.length = n := ⟨_, rfl⟩
  have hni : (n : Int) ≤ 9223372036854775807 := by rw [hn] at hml; simp only [maxLen] at hml; omega
  have hv : ∃ a c, v = .slice a n c := by
    obtain ⟨a, c, e, -⟩ := hA
    exact ⟨a, c, by rw [e, hn]⟩
  obtain ⟨a, c, rfl⟩ := hv
  by_cases hbig : 1048576 < n
  · have hbi : (1048576 : Int) < n := by omega
    clear hA hn hml
    go_enter Try.func11, Try.ntmps11
    go_wp2
    go_ret
    exact ⟨rfl, Below.refl _ _⟩
  · have hbi : (n : Int) ≤ 1048576 := by omega
    obtain ⟨P, flag, hpl, hI, hS⟩ := bothPointsIn xs (by omega)
    have HI := Lib.hid hI
    have HS := Lib.hid hS
    have HTO := Lib.hid (fun w h => toIntS_any (.slice a n c) xs w h (by omega))
    have HA := Lib.hid hA
    have HN := Lib.hid hn
    obtain ⟨p, hp⟩ : ∃ p, P.length = p := ⟨_, rfl⟩
    have HPL := Lib.hid hp
    rw [hp] at hpl
    clear hI hS hA hn hml hp
    go_enter Try.func11, Try.ntmps11
    go_wp2_with fail
    refine (HTO.out _ HA.out).mono ?_
    rintro e w1 ⟨v1, rfl, hn1, hb1⟩
    have HB1 := Lib.hid hb1
    have HV1 := Lib.hid hn1.own
    clear hn1 hb1
    go_wp2_with fail
    refine (HS.out _ _ HV1.out).mono ?_
    rintro e w2 ⟨v2, rfl, hn2, hb2⟩
    have HB2 := Lib.hid (HB1.out.trans (hb2.mono HB1.out.size))
    have HV2 := Lib.hid hn2.own
    have HLT2 := Lib.hid hn2.own.lt
    have HS2S := Lib.hid HB2.out.size
    clear hn2 hb2 HV1 HB1
    go_wp2_with fail
    refine (HTO.out _ (HA.out.kept HB2.out)).mono ?_
    rintro e w3 ⟨v3, rfl, hn3, hb3⟩
    have HB3 := Lib.hid (HB2.out.trans (hb3.mono HB2.out.size))
    have HV3 := Lib.hid (HV2.out.kept hb3)
    have HX3 := Lib.hid hn3
    have HLX3 := Lib.hid hn3.own.lt
    have HS3 := Lib.hid hb3.size
    have HS23 := Lib.hid hb3.size
    have HSW3 := Lib.hid HB3.out.size
    clear hn3 hb3 HB2 HV2
    go_wp2_with fail
    refine (HI.out _ _ HX3.out.own).mono ?_
    rintro e w4 ⟨v4, rfl, hn4, hb4⟩
    have HB4 := Lib.hid (HB3.out.trans (hb4.mono HB3.out.size))
    have HV4 := Lib.hid (HV3.out.kept hb4)
    have HX4 := Lib.hid (HX3.out.kept hb4)
    have HS4 := Lib.hid (Nat.le_trans HS3.out hb4.size)
    have HG4 := Lib.hid hn4
    have HT4 := Lib.hid hb4.size
    clear hn4 hb4 HB3 HV3 HX3 HS3
    go_wp2_with fail
    refine (eqIntS_same v4 v2 P _ HG4.out.own HV4.out (by rw [HPL.out]; omega)).mono ?_
    rintro e w5 ⟨rfl, d5, hd5⟩
    have HB5 : Hid (Below W.heap.size W w5) := by rw [hd5]; exact Lib.hid (below_drewN HB4.out _)
    have HV5 : Hid (Own w5 3 v2 (ints P)) := by rw [hd5]; exact Lib.hid (HV4.out.drewN _)
    have HX5 : Hid (New w2.heap.size w5 3 v3 (ints xs)) := by rw [hd5]; exact Lib.hid (HX4.out.drewN _)
    have HG5 : Hid (New w3.heap.size w5 3 v4 (ints P)) := by rw [hd5]; exact Lib.hid (HG4.out.drewN _)
    have HS5 : Hid (w2.heap.size ≤ w5.heap.size) := by rw [hd5]; exact HS4
    have HT5 : Hid (w3.heap.size ≤ w5.heap.size) := by rw [hd5]; exact HT4
    clear hd5 HB4 HV4 HX4 HG4 HS4 HT4
    go_wp2_with fail
    refine (HTO.out _ (HA.out.kept HB5.out)).mono ?_
    rintro e w6 ⟨v6, rfl, hn6, hb6⟩
    have HB6 := Lib.hid (HB5.out.trans (hb6.mono HB5.out.size))
    have HV6 := Lib.hid (HV5.out.kept hb6)
    have HX6 := Lib.hid (HX5.out.kept hb6)
    have HG6 := Lib.hid (HG5.out.kept hb6)
    have HS6 := Lib.hid (Nat.le_trans HS5.out hb6.size)
    have HT6 := Lib.hid (Nat.le_trans HT5.out hb6.size)
    have HE6 := Lib.hid hn6.own
    clear hn6 hb6 HB5 HV5 HX5 HG5 HS5 HT5
    go_wp2_with fail
    refine (eqIntS_big v3 v6 xs _ HX6.out.own HE6.out (by rw [HN.out]; omega)).mono ?_
    rintro e w7 ⟨rfl, d7, hd7⟩
    have HB7 : Hid (Below W.heap.size W w7) := by rw [hd7]; exact Lib.hid (below_drewN HB6.out _)
    have HV7 : Hid (Own w7 3 v2 (ints P)) := by rw [hd7]; exact Lib.hid (HV6.out.drewN _)
    have HX7 : Hid (New w2.heap.size w7 3 v3 (ints xs)) := by rw [hd7]; exact Lib.hid (HX6.out.drewN _)
    have HG7 : Hid (New w3.heap.size w7 3 v4 (ints P)) := by rw [hd7]; exact Lib.hid (HG6.out.drewN _)
    have HS7 : Hid (w2.heap.size ≤ w7.heap.size) := by rw [hd7]; exact HS6
    have HT7 : Hid (w3.heap.size ≤ w7.heap.size) := by rw [hd7]; exact HT6
    clear hd7 HB6 HV6 HX6 HG6 HS6 HT6 HE6
    go_wp2_with fail
    refine (markIntS_big v3 xs 1 _ HX7.out.own (by rw [HN.out]; omega) (by omega) (by omega)).mono ?_
    rintro e w8 ⟨rfl, ho8, hg8⟩
    rw [HN.out]
    have hw20 : W.heap.size ≤ w2.heap.size := Nat.le_trans (HS2S.out) (Nat.le_refl _)
    have HB8 := Lib.hid (HB7.out.grown hg8 HB7.out.size (fun g hg => Nat.le_trans hw20 (HX7.out.base g hg)))
    have HV8 := Lib.hid (HV7.out.grown hg8 (fun g hg e => by have := HLT2.out g hg; have := HX7.out.base g e.symm; omega))
    have HG8 : Hid (New w3.heap.size w8 3 v4 (ints P)) := Lib.hid ⟨HG7.out.own.grown hg8 (fun g hg e => by have := HG7.out.base g hg; have := HLX3.out g e.symm; omega), HG7.out.base⟩
    have HS8 := Lib.hid (Nat.le_trans HS7.out hg8.size)
    have HT8 := Lib.hid (Nat.le_trans HT7.out hg8.size)
    have hnn : ¬ ((1 : Int) + (n : Nat) < 0) := by omega
    clear ho8 hg8 HB7 HV7 HX7 HG7 HS7 HT7
    go_wp2_with fail
    refine (eqIntS_same v4 v2 P _ HG8.out.own HV8.out (by rw [HPL.out]; omega)).mono ?_
    rintro e w9 ⟨rfl, d9, hd9⟩
    have HB9 : Hid (Below W.heap.size W w9) := by rw [hd9]; exact Lib.hid (below_drewN HB8.out _)
    have HV9 : Hid (Own w9 3 v2 (ints P)) := by rw [hd9]; exact Lib.hid (HV8.out.drewN _)
    have HG9 : Hid (New w3.heap.size w9 3 v4 (ints P)) := by rw [hd9]; exact Lib.hid (HG8.out.drewN _)
    have HT9 : Hid (w3.heap.size ≤ w9.heap.size) := by rw [hd9]; exact HT8
    have HLT9 : Hid (∀ g, v2.ownBlock = some g → g < w3.heap.size) := Lib.hid (fun g hg => Nat.lt_of_lt_of_le (HLT2.out g hg) HS23.out)
    clear hd9 HB8 HV8 HG8 HS8 HT8
    go_wp2_with fail
    refine (markI w3.heap.size v4 P _ HG9.out HT9.out (by rw [HPL.out]; omega)).mono ?_
    rintro e w11 ⟨rfl, ho11, hb11⟩
    rw [HPL.out] at ho11 ⊢
    have HM11 := Lib.hid ho11
    have HB11 := Lib.hid (HB9.out.trans (hb11.mono HSW3.out))
    have HP11 := Lib.hid (HV9.out.underI HLT9.out hb11)
    have hpp : ¬ ((1 : Int) + (p : Nat) < 0) := by omega
    clear ho11 hb11 HB9 HV9 HG9 HT9
    go_wp2_with fail
    refine (heldI v4 p _ HM11.out (by omega)).mono ?_
    rintro e w12 ⟨rfl, hb12⟩
    have HM12 := Lib.hid (HM11.out.kept hb12)
    have HB12 := Lib.hid (HB11.out.trans (hb12.mono HB11.out.size))
    have HP12 := Lib.hid (HP11.out.kept hb12)
    clear hb12 HM11 HB11 HP11
    go_wp2_with fail
    refine (HTO.out _ (HA.out.kept HB12.out)).mono ?_
    rintro e w13 ⟨v13, rfl, hn13, hb13⟩
    have HM13 := Lib.hid (HM12.out.kept hb13)
    have HB13 := Lib.hid (HB12.out.trans (hb13.mono HB12.out.size))
    have HP13 := Lib.hid (HP12.out.kept hb13)
    have HT13 := Lib.hid hn13.own
    clear hb13 hn13 HM12 HB12 HP12
    go_wp2_with fail
    refine (HI.out _ _ HT13.out).mono ?_
    rintro e w14 ⟨v14, rfl, hn14, hb14⟩
    have HM14 := Lib.hid (HM13.out.kept hb14)
    have HB14 := Lib.hid (HB13.out.trans (hb14.mono HB13.out.size))
    have HP14 := Lib.hid (HP13.out.kept hb14)
    have HQ14 := Lib.hid hn14.own
    clear hb14 hn14 HM13 HB13 HP13 HT13
    go_wp2_with fail
    refine (eqIntS_same v14 v2 P _ HQ14.out HP14.out (by rw [HPL.out]; omega)).mono ?_
    rintro e w15 ⟨rfl, d15, hd15⟩
    have HM15 : Hid (Own w15 3 v4 (ints (marks 1 p))) := by rw [hd15]; exact Lib.hid (HM14.out.drewN _)
    have HB15 : Hid (Below W.heap.size W w15) := by rw [hd15]; exact Lib.hid (below_drewN HB14.out _)
    clear hd15 HM14 HB14 HP14 HQ14
    go_wp2_with fail
    refine (heldI v4 p _ HM15.out (by omega)).mono ?_
    rintro e w16 ⟨rfl, hb16⟩
    go_wp2
    go_ret
    exact ⟨rfl, HB15.out.trans (hb16.mono HB15.out.size)⟩

end Go.Proofs.Ytpfnamiacagocaa
