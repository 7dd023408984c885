/- Lists of lists of numbers as arguments of a law. The law RowsOf. -/
import Derived.Test.YtpfnamiacagocaaI7
import Derived.Test.YtpfnamiacagocaaI8
import Derived.Test.YtpfnamiacagocaaI2
import Derived.Test.YtpfnamiacagocaaK4
import Derived.Deep.Slices
import Derived.Lib.SmallJoins
namespace Go.Proofs.Ytpfnamiacagocaa
open Go.RowKit
set_option linter.unusedSimpArgs false
set_option linter.unusedVariables false

theorem lli_of_trod {H : Type} {enc : TypeId × Value → H} {W : World} {base : Nat} {sp : Nat → Bool} {held : Bool} {fuel : Nat} {a : Option Addr} {len cap : Nat} {x : DataW H × List MemPlace}
    (h : DataW.trod enc Try.prog W base sp held fuel 28 (Value.slice a len cap).cells.toList = some x) :
    ∃ F : List (List Int), LLI W (.slice a len cap) F ∧ F.length ≤ maxLen ∧ ∀ k, (lk F k).length ≤ maxLen := by
  rcases Go.Deep.open_slice1 Try.underlying28 (by kernel_rfl) h with ⟨hcs, _⟩ | ⟨x, l, c, m, n, V, D, Pl, hcs, _, hl, hm, hmm, _, hcell⟩
  · simp [Value.cells] at hcs
    obtain ⟨rfl, rfl, rfl⟩ := hcs
    exact ⟨[], ⟨none, 0, rfl, fun h => by simp at h⟩, by simp [maxLen], fun k => by simp [lk, maxLen]⟩
  · simp [Value.cells] at hcs
    obtain ⟨rfl, rfl, rfl⟩ := hcs
    have hle : len ≤ m := by rw [hmm]; split <;> omega
    have hone : ∀ i, i < len → ∃ xs : List Int, ArgI W (V i) xs ∧ xs.length ≤ maxLen := fun i hi => by
      have h1 := (hcell i (by omega)).2
      obtain ⟨a1, l1, c1, e1⟩ := Go.Joins.slice_form Try.underlying39 h1
      injection e1 with e1 _
      rw [e1] at h1 ⊢
      exact argI_of_trod (by simpa [Value.cells] using h1)
    obtain ⟨G, hG⟩ := Go.Deep.choose_lt (α := List Int) hone
    have hlk : ∀ k, k < len → lk ((List.range len).map G) k = G k := fun k hk => by simp [lk, List.getD_eq_getElem?_getD, hk]
    refine ⟨(List.range len).map G, ⟨some x, cap, by simp, fun h0 => ⟨x, rfl, ?_, fun k hk => ?_⟩⟩, by simp; omega, fun k => ?_⟩
    · rw [List.length_map, List.length_range] at h0
      exact heap_ltI (hcell 0 (by omega)).1
    · rw [List.length_map, List.length_range] at hk
      exact ⟨V k, (hcell k (by omega)).1, by rw [hlk k hk]; exact (hG k hk).1⟩
    · by_cases hk : k < len
      · rw [hlk k hk]; exact (hG k hk).2
      · have : lk ((List.range len).map G) k = [] := by simp [lk, List.getD_eq_getElem?_getD, hk]
        rw [this]; simp [maxLen]

theorem markL1 (B : Nat) (v : Value) (P : List (List Nat)) (w : World) (h : New B w 9 v (strs P)) (hB : B ≤ w.heap.size) (hl : P.length ≤ 1000) :
    Calls Try.prog 56 #[v, .int .i64 1] w fun e w' => e = .returned (.int .i64 (1 + (P.length : Nat))) ∧ Own w' 9 v (strs (smarks 1 P.length)) ∧ Below B w w' :=
  (markStringS_full B v P 1 w h hB (by omega) (by omega) (by omega)).mono fun e w' h => ⟨h.1, h.2.1.own, h.2.2.1⟩
theorem heldL1 (v : Value) (p : Nat) (w : World) (h : Own w 9 v (strs (smarks 1 p))) (hl : p ≤ 1000) :
    Calls Try.prog 57 #[v, .int .i64 1] w fun e w' => e = .returned (.int .i64 (1 + (p : Nat))) ∧ Below w.heap.size w w' :=
  heldStringS_any v p 1 w h (by omega) (by omega) (by omega)
theorem rowsT_len (F : List (List Int)) : (rowsT F).length ≤ 1000 := by
  unfold rowsT
  split
  · rename_i h
    unfold rowsB at h
    simp only [Bool.and_eq_true, decide_eq_true_eq] at h
    have := eqB_of h.2.1 0 (by omega)
    simp
    omega
  · simp
theorem bothRowsOf (F : List (List Int)) (hl : F.length ≤ 2000000) (hm : ∀ k, (lk F k).length ≤ 2000000) :
    ∃ (P : List (List Nat)) (flag : Bool), P.length ≤ 1000 ∧ (∀ u w, LLI w u F → Calls Try.prog 18 #[u] w (TextsAny P flag w)) ∧ (∀ u w, LLI w u F → Calls Try.prog 27 #[u] w (TextsAny P flag w)) :=
  ⟨rowsT F, rowsB F, rowsT_len F, fun u w h => iRowsOf_any u F w h hl (fun k => Nat.le_trans (hm k) (by omega)), fun u w h => sRowsOf_any u F w h hl (fun k => Nat.le_trans (hm k) (by omega))⟩

theorem offL_le {F : List (List Int)} {n : Nat} (k : Nat) (hk : k < n) : (lk F k).length ≤ offL (lens F) n := by
  have h1 : offL (lens F) (k + 1) = offL (lens F) k + (lk F k).length := rfl
  have h2 := offL_mono (lens F) (show k + 1 ≤ n by omega)
  omega
theorem lk_out {F : List (List Int)} {k : Nat} (hk : F.length ≤ k) : (lk F k).length = 0 := by
  unfold lk
  rw [List.getD_eq_getElem?_getD, List.getElem?_eq_none hk]
  rfl

set_option maxRecDepth 100000 in
set_option maxHeartbeats 1000000 in
theorem lawRowsOf (v : Value) (F : List (List Int)) (W : World) (hA : LLI W v F) (hml : F.length ≤ maxLen ∧ ∀ k, (lk F k).length ≤ maxLen) :
    Calls Try.prog 7 #[v] W fun e w' => e = .returned (.bool true) ∧ Below W.heap.size W w' := by
  obtain ⟨n, hn⟩ : ∃ n, F.length = n := ⟨_, rfl⟩
  have hv : ∃ a c, v = .slice a n c := by
    obtain ⟨a, c, e, -⟩ := hA
    exact ⟨a, c, by rw [e, hn]⟩
  obtain ⟨a, c, rfl⟩ := hv
  have HSZ := Lib.hid (fun w h => szIntSS_any (.slice a n c) F w h hml.1 hml.2)
  have HA := Lib.hid hA
  have HN := Lib.hid hn
  clear hA hn hml
  go_enter Try.func7, Try.ntmps7
  go_wp2_with fail
  refine (HSZ.out _ HA.out).mono ?_
  rintro e w1 ⟨z, rfl, hz, hz0, hz1, rfl⟩
  by_cases hneg : z < 0
  · clear hz
    go_wp2
    go_ret
    exact ⟨rfl, Below.refl _ _⟩
  obtain ⟨hsn, hof⟩ := hz (by omega)
  rw [HN.out] at hsn hof
  have HOF := Lib.hid hof
  have hle : ∀ k, (lk F k).length ≤ 1048576 := fun k => by
    by_cases hk : k < n
    · exact Nat.le_trans (offL_le k hk) HOF.out
    · rw [lk_out (by rw [HN.out]; omega)]; omega
  have HLE := Lib.hid hle
  obtain ⟨P, flag, hpl, hI, hS⟩ := bothRowsOf F (by have := HN.out; omega) (fun k => by have := HLE.out k; omega)
  have HI := Lib.hid hI
  have HS := Lib.hid hS
  unfold TextsAny at HI HS
  have HTO := Lib.hid (fun w h => toIntSS_any (.slice a n c) F w h (by have := HN.out; omega) (fun k _ => by have := HLE.out k; omega))
  rw [HN.out] at HTO
  obtain ⟨p, hp⟩ : ∃ p, P.length = p := ⟨_, rfl⟩
  have HPL := Lib.hid hp
  rw [hp] at hpl
  clear hz hof hle hI hS hp
  go_wp2_with fail
  refine (HTO.out _ HA.out).mono ?_
  rintro e w1 ⟨v1, vs1, rfl, hn1, hb1⟩
  have HB1 := Lib.hid hb1
  have HV1 := Lib.hid (hn1.read HN.out)
  clear hn1 hb1
  go_wp2_with fail
  refine (HS.out _ _ HV1.out).mono ?_
  rintro e w2 ⟨v2, rfl, hn2, hb2⟩
  have HB2 := Lib.hid (HB1.out.trans (hb2.mono HB1.out.size))
  have HV2 := Lib.hid hn2.own
  have HLT2 := Lib.hid hn2.own.lt
  have HS2S := Lib.hid HB2.out.size
  clear hn2 hb2 HV1 HB1
  go_wp2_with fail
  refine (HTO.out _ (HA.out.kept HB2.out)).mono ?_
  rintro e w3 ⟨v3, vs3, rfl, hn3, hb3⟩
  have HB3 := Lib.hid (HB2.out.trans (hb3.mono HB2.out.size))
  have HV3 := Lib.hid (HV2.out.kept hb3)
  have HX3 := Lib.hid hn3
  have HS3 := Lib.hid hb3.size
  have HS23 := Lib.hid hb3.size
  have HSW3 := Lib.hid HB3.out.size
  clear hn3 hb3 HB2 HV2
  go_wp2_with fail
  refine (HI.out _ _ (HX3.out.read HN.out)).mono ?_
  rintro e w4 ⟨v4, rfl, hn4, hb4⟩
  have HB4 := Lib.hid (HB3.out.trans (hb4.mono HB3.out.size))
  have HV4 := Lib.hid (HV3.out.kept hb4)
  have HX4 := Lib.hid (HX3.out.kept hb4)
  have HS4 := Lib.hid (Nat.le_trans HS3.out hb4.size)
  have HG4 := Lib.hid hn4
  have HT4 := Lib.hid hb4.size
  clear hn4 hb4 HB3 HV3 HS3
  go_wp2_with fail
  refine (eqStringS_same v4 v2 P _ HG4.out.own HV4.out (by rw [HPL.out]; omega)).mono ?_
  rintro e w5 ⟨rfl, d5, hd5⟩
  have HB5 : Hid (Below W.heap.size W w5) := by rw [hd5]; exact Lib.hid (below_drewN HB4.out _)
  have HV5 : Hid (Own w5 9 v2 (strs P)) := by rw [hd5]; exact Lib.hid (HV4.out.drewN _)
  have HX5 : Hid (Lists w2.heap.size w5 v3 vs3 n (lk F)) := by rw [hd5]; exact Lib.hid (HX4.out.kept (below_drewN (Below.refl _ _) _))
  have HG5 : Hid (New w3.heap.size w5 9 v4 (strs P)) := by rw [hd5]; exact Lib.hid (HG4.out.drewN _)
  have HS5 : Hid (w2.heap.size ≤ w5.heap.size) := by rw [hd5]; exact HS4
  have HT5 : Hid (w3.heap.size ≤ w5.heap.size) := by rw [hd5]; exact HT4
  clear hd5 HB4 HV4 HX4 HG4 HS4 HT4
  go_wp2_with fail
  refine (HTO.out _ (HA.out.kept HB5.out)).mono ?_
  rintro e w6 ⟨v6, vs6, rfl, hn6, hb6⟩
  have HB6 := Lib.hid (HB5.out.trans (hb6.mono HB5.out.size))
  have HV6 := Lib.hid (HV5.out.kept hb6)
  have HX6 := Lib.hid (HX5.out.kept hb6)
  have HG6 := Lib.hid (HG5.out.kept hb6)
  have HS6 := Lib.hid (Nat.le_trans HS5.out hb6.size)
  have HT6 := Lib.hid (Nat.le_trans HT5.out hb6.size)
  have HE6 := Lib.hid hn6
  clear hn6 hb6 HB5 HV5 HX5 HG5 HS5 HT5
  go_wp2_with fail
  refine (eqIntSS_big _ _ v3 v6 vs3 vs6 n (lk F) _ HX6.out HE6.out (by omega) (fun i _ => by have := HLE.out i; omega)).mono ?_
  rintro e w7 ⟨rfl, d7, hd7⟩
  have HB7 : Hid (Below W.heap.size W w7) := by rw [hd7]; exact Lib.hid (below_drewN HB6.out _)
  have HV7 : Hid (Own w7 9 v2 (strs P)) := by rw [hd7]; exact Lib.hid (HV6.out.drewN _)
  have HX7 : Hid (Lists w2.heap.size w7 v3 vs3 n (lk F)) := by rw [hd7]; exact Lib.hid (HX6.out.kept (below_drewN (Below.refl _ _) _))
  have HG7 : Hid (New w3.heap.size w7 9 v4 (strs P)) := by rw [hd7]; exact Lib.hid (HG6.out.drewN _)
  have HS7 : Hid (w2.heap.size ≤ w7.heap.size) := by rw [hd7]; exact HS6
  have HT7 : Hid (w3.heap.size ≤ w7.heap.size) := by rw [hd7]; exact HT6
  have HL7 : Hid (∀ i g, i < n → (vs3.getD i nilV).ownBlock = some g → g < w3.heap.size) := Lib.hid (fun i g hi hg => (HX3.out.inner i hi).lt g hg)
  clear hd7 HB6 HV6 HX6 HG6 HS6 HT6 HE6 HX3
  have hof2 := HOF.out
  obtain ⟨tot, htot⟩ : ∃ t, offL (lens F) n = t := ⟨_, rfl⟩
  have HTT := Lib.hid htot
  rw [htot] at hof2
  clear htot
  go_wp2_with fail
  refine (markIntSS_big _ v3 vs3 n (lk F) 1 _ HX7.out (by omega) HS7.out (by show offL (lens F) n ≤ _; rw [HTT.out]; omega) w3.heap.size HL7.out (by omega) (by omega)).mono ?_
  rintro e w8 ⟨rfl, -, hb8, hk8⟩
  rw [show offL (fun i => (lk F i).length) n = tot from HTT.out]
  have HB8 := Lib.hid (HB7.out.trans (hb8.mono HS2S.out))
  have HV8 := Lib.hid (HV7.out.underI HLT2.out hb8)
  have HG8 : Hid (New w3.heap.size w8 9 v4 (strs P)) := Lib.hid ⟨hk8 _ _ _ HG7.out.own HG7.out.base, HG7.out.base⟩
  have HT8 := Lib.hid (Nat.le_trans HT7.out hb8.size)
  have hnn : ¬ ((1 : Int) + (tot : Nat) < 0) := by omega
  clear hb8 hk8 HB7 HV7 HX7 HG7 HS7 HT7 HL7
  go_wp2_with fail
  refine (eqStringS_same v4 v2 P _ HG8.out.own HV8.out (by rw [HPL.out]; omega)).mono ?_
  rintro e w9 ⟨rfl, d9, hd9⟩
  have HB9 : Hid (Below W.heap.size W w9) := by rw [hd9]; exact Lib.hid (below_drewN HB8.out _)
  have HV9 : Hid (Own w9 9 v2 (strs P)) := by rw [hd9]; exact Lib.hid (HV8.out.drewN _)
  have HG9 : Hid (New w3.heap.size w9 9 v4 (strs P)) := by rw [hd9]; exact Lib.hid (HG8.out.drewN _)
  have HT9 : Hid (w3.heap.size ≤ w9.heap.size) := by rw [hd9]; exact HT8
  have HLT9 : Hid (∀ g, v2.ownBlock = some g → g < w3.heap.size) := Lib.hid (fun g hg => Nat.lt_of_lt_of_le (HLT2.out g hg) HS23.out)
  clear hd9 HB8 HV8 HG8 HT8
  go_wp2_with fail
  refine (markL1 w3.heap.size v4 P _ HG9.out HT9.out (by rw [HPL.out]; omega)).mono ?_
  rintro e w11 ⟨rfl, ho11, hb11⟩
  rw [HPL.out] at ho11 ⊢
  have HM11 := Lib.hid ho11
  have HB11 := Lib.hid (HB9.out.trans (hb11.mono HSW3.out))
  have HP11 := Lib.hid (HV9.out.underI HLT9.out hb11)
  have hpp : ¬ ((1 : Int) + (p : Nat) < 0) := by omega
  clear ho11 hb11 HB9 HV9 HG9 HT9
  go_wp2_with fail
  refine (heldL1 v4 p _ HM11.out (by omega)).mono ?_
  rintro e w12 ⟨rfl, hb12⟩
  have HM12 := Lib.hid (HM11.out.kept hb12)
  have HB12 := Lib.hid (HB11.out.trans (hb12.mono HB11.out.size))
  have HP12 := Lib.hid (HP11.out.kept hb12)
  clear hb12 HM11 HB11 HP11
  go_wp2_with fail
  refine (HTO.out _ (HA.out.kept HB12.out)).mono ?_
  rintro e w13 ⟨v13, vs13, rfl, hn13, hb13⟩
  have HM13 := Lib.hid (HM12.out.kept hb13)
  have HB13 := Lib.hid (HB12.out.trans (hb13.mono HB12.out.size))
  have HP13 := Lib.hid (HP12.out.kept hb13)
  have HT13 := Lib.hid (hn13.read HN.out)
  clear hb13 hn13 HM12 HB12 HP12
  go_wp2_with fail
  refine (HI.out _ _ HT13.out).mono ?_
  rintro e w14 ⟨v14, rfl, hn14, hb14⟩
  have HM14 := Lib.hid (HM13.out.kept hb14)
  have HB14 := Lib.hid (HB13.out.trans (hb14.mono HB13.out.size))
  have HP14 := Lib.hid (HP13.out.kept hb14)
  have HQ14 := Lib.hid hn14.own
  clear hb14 hn14 HM13 HB13 HP13 HT13
  go_wp2_with fail
  refine (eqStringS_same v14 v2 P _ HQ14.out HP14.out (by rw [HPL.out]; omega)).mono ?_
  rintro e w15 ⟨rfl, d15, hd15⟩
  have HM15 : Hid (Own w15 9 v4 (strs (smarks 1 p))) := by rw [hd15]; exact Lib.hid (HM14.out.drewN _)
  have HB15 : Hid (Below W.heap.size W w15) := by rw [hd15]; exact Lib.hid (below_drewN HB14.out _)
  clear hd15 HM14 HB14 HP14 HQ14
  go_wp2_with fail
  refine (heldL1 v4 p _ HM15.out (by omega)).mono ?_
  rintro e w16 ⟨rfl, hb16⟩
  go_wp2
  go_ret
  exact ⟨rfl, HB15.out.trans (hb16.mono HB15.out.size)⟩
end Go.Proofs.Ytpfnamiacagocaa
