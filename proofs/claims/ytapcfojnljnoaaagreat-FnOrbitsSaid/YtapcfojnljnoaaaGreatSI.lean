/- slices.Sort on the texts of rows; SortRows in the program and in the model; the law SortRows. -/
import Derived.Shelf.SortM.Plain
import Derived.Shelf.SortM.SortNone
import Derived.Sort.OwnSorted
import Derived.Sort.KeysCollected
import Derived.Test.YtapcfojnljnoaaaGreatSH
import Derived.Test.YtapcfojnljnoaaaGreatSF
namespace Go.Proofs.YtapcfojnljnoaaaGreat
open Go.RowKit
set_option linter.unusedSimpArgs false
set_option linter.unusedVariables false
def laysSortS_ren : Go.Shelf.Ren := ⟨fun | 6 => 35 | 8 => 56 | 9 => 55 | 19 => 79 | 20 => 80 | 21 => 70 | 22 => 71 | 23 => 72 | 24 => 73 | 25 => 74 | 26 => 75 | 27 => 76 | 28 => 77 | 29 => 78 | 36 => 93 | 31 => 94 | 32 => 95 | 37 => 96 | 38 => 97 | 39 => 98 | 41 => 111 | n => n, fun | 27 => 24 | 29 => 9 | 3 => 3 | 32 => 83 | 26 => 24 | 0 => 0 | 44 => 103 | 46 => 41 | 4 => 4 | 36 => 95 | 35 => 94 | 41 => 100 | 5 => 5 | 9 => 9 | 53 => 113 | 57 => 117 | 63 => 126 | 64 => 127 | n => n, fun | n => n⟩
theorem laysSortS : Go.Proofs.SlLaysM.n6 Tryz.prog laysSortS_ren := {
  mixed := by kernel_rfl
  f6 := ⟨Tryz.f35.name, by decide, Tryz.func35.trans (congrArg some (by kernel_rfl))⟩
  f8 := Tryz.func56.trans (congrArg some (by kernel_rfl))
  f9 := ⟨Tryz.f55.name, by decide, Tryz.func55.trans (congrArg some (by kernel_rfl))⟩
  f19 := Tryz.func79.trans (congrArg some (by kernel_rfl))
  f20 := Tryz.func80.trans (congrArg some (by kernel_rfl))
  f21 := ⟨Tryz.f70.name, by decide, Tryz.func70.trans (congrArg some (by kernel_rfl))⟩
  f22 := ⟨Tryz.f71.name, by decide, Tryz.func71.trans (congrArg some (by kernel_rfl))⟩
  f23 := ⟨Tryz.f72.name, by decide, Tryz.func72.trans (congrArg some (by kernel_rfl))⟩
  f24 := ⟨Tryz.f73.name, by decide, Tryz.func73.trans (congrArg some (by kernel_rfl))⟩
  f25 := ⟨Tryz.f74.name, by decide, Tryz.func74.trans (congrArg some (by kernel_rfl))⟩
  f26 := ⟨Tryz.f75.name, by decide, Tryz.func75.trans (congrArg some (by kernel_rfl))⟩
  f27 := ⟨Tryz.f76.name, by decide, Tryz.func76.trans (congrArg some (by kernel_rfl))⟩
  f28 := ⟨Tryz.f77.name, by decide, Tryz.func77.trans (congrArg some (by kernel_rfl))⟩
  f29 := ⟨Tryz.f78.name, by decide, Tryz.func78.trans (congrArg some (by kernel_rfl))⟩
  f31 := Tryz.func94.trans (congrArg some (by kernel_rfl))
  f32 := Tryz.func95.trans (congrArg some (by kernel_rfl))
  f36 := ⟨Tryz.f93.name, by decide, Tryz.func93.trans (congrArg some (by kernel_rfl))⟩
  f37 := ⟨Tryz.f96.name, by decide, Tryz.func96.trans (congrArg some (by kernel_rfl))⟩
  f38 := ⟨Tryz.f97.name, by decide, Tryz.func97.trans (congrArg some (by kernel_rfl))⟩
  f39 := ⟨Tryz.f98.name, by decide, Tryz.func98.trans (congrArg some (by kernel_rfl))⟩
  f41 := ⟨Tryz.f111.name, by decide, Tryz.func111.trans (congrArg some (by kernel_rfl))⟩
  t0 := Tryz.underlying0
  a0 := Tryz.isAgg0
  z0 := Tryz.sizeOf0
  v0 := Tryz.zeroValue0
  t3 := Tryz.underlying3
  a3 := Tryz.isAgg3
  z3 := Tryz.sizeOf3
  v3 := Tryz.zeroValue3
  t4 := Tryz.underlying4
  a4 := Tryz.isAgg4
  z4 := Tryz.sizeOf4
  v4 := Tryz.zeroValue4
  t5 := Tryz.underlying5
  a5 := Tryz.isAgg5
  z5 := Tryz.sizeOf5
  v5 := Tryz.zeroValue5
  t9 := Tryz.underlying9
  a9 := Tryz.isAgg9
  z9 := Tryz.sizeOf9
  v9 := Tryz.zeroValue9
  t26 := Tryz.underlying24
  a26 := Tryz.isAgg24
  z26 := Tryz.sizeOf24
  v26 := Tryz.zeroValue24
  t27 := Tryz.underlying24
  a27 := Tryz.isAgg24
  z27 := Tryz.sizeOf24
  v27 := Tryz.zeroValue24
  t29 := Tryz.underlying9
  a29 := Tryz.isAgg9
  z29 := Tryz.sizeOf9
  v29 := Tryz.zeroValue9
  t32 := Tryz.underlying83
  a32 := Tryz.isAgg83
  z32 := Tryz.sizeOf83
  v32 := Tryz.zeroValue83
  t35 := Tryz.underlying94
  a35 := Tryz.isAgg94
  z35 := Tryz.sizeOf94
  v35 := Tryz.zeroValue94
  t36 := Tryz.underlying95
  a36 := Tryz.isAgg95
  z36 := Tryz.sizeOf95
  v36 := Tryz.zeroValue95
  t41 := Tryz.underlying100
  a41 := Tryz.isAgg100
  z41 := Tryz.sizeOf100
  v41 := Tryz.zeroValue100
  t44 := Tryz.underlying103
  a44 := Tryz.isAgg103
  z44 := Tryz.sizeOf103
  v44 := Tryz.zeroValue103
  t46 := Tryz.underlying41
  a46 := Tryz.isAgg41
  z46 := Tryz.sizeOf41
  v46 := Tryz.zeroValue41
  t53 := Tryz.underlying113
  a53 := Tryz.isAgg113
  z53 := Tryz.sizeOf113
  v53 := Tryz.zeroValue113
  t57 := Tryz.underlying117
  a57 := Tryz.isAgg117
  z57 := Tryz.sizeOf117
  v57 := Tryz.zeroValue117
  t63 := Tryz.underlying126
  a63 := Tryz.isAgg126
  z63 := Tryz.sizeOf126
  v63 := Tryz.zeroValue126
  t64 := Tryz.underlying127
  a64 := Tryz.isAgg127
  z64 := Tryz.sizeOf127
  v64 := Tryz.zeroValue127 }

/-- a row's bytes -/
def bytF (n : Nat) (f : Nat → Nat) : List UInt8 := (rowL n f).map UInt8.ofNat
theorem strs_enc (n : Nat) (fs : List (Nat → Nat)) : strs (rowsL n fs) = (fs.map (bytF n)).map encStr := by
  simp only [strs, rowsL, List.map_map]
  rfl
theorem lt_bytes : ∀ (l r : List Nat), (∀ b ∈ l, b < 256) → (∀ b ∈ r, b < 256) → (l.map UInt8.ofNat < r.map UInt8.ofNat ↔ lexL l r = true)
  | [], [], _, _ => by simp [lexL]
  | [], _ :: _, _, _ => by simp [lexL]
  | _ :: _, [], _, _ => by simp [lexL]
  | a :: l, b :: r, hl, hr => by
    have ha := hl a (by simp)
    have hb := hr b (by simp)
    have ih := lt_bytes l r (fun x hx => hl x (by simp [hx])) (fun x hx => hr x (by simp [hx]))
    simp only [List.map_cons, List.cons_lt_cons_iff, lexL, Bool.or_eq_true, decide_eq_true_eq, Bool.and_eq_true, beq_iff_eq, ih]
    have e1 : (UInt8.ofNat a < UInt8.ofNat b) ↔ (a < b) := by
      rw [UInt8.lt_iff_toNat_lt]; simp [UInt8.toNat_ofNat']; omega
    have e2 : (UInt8.ofNat a = UInt8.ofNat b) ↔ a = b := by
      constructor
      · intro e
        have := congrArg UInt8.toNat e
        simp [UInt8.toNat_ofNat'] at this; omega
      · rintro rfl; rfl
    rw [e1, e2]
theorem le_bytes {n : Nat} {f g : Nat → Nat} (hf : IsRow n f) (hg : IsRow n g) : bytF n f ≤ bytF n g ↔ rowKey n f ≤ rowKey n g := by
  have h := lt_bytes (rowL n g) (rowL n f) (rowL_small hg) (rowL_small hf)
  rw [lexL_num _ _ (by rw [rowL_len, rowL_len]) (rowL_small hg) (rowL_small hf), decide_eq_true_eq] at h
  unfold bytF
  rw [← List.not_lt, h]
  show ¬ rowKey n g < rowKey n f ↔ _
  omega
theorem sorted_bytes {n : Nat} {fs : List (Nat → Nat)} (hr : Rows n fs) : ((fs.map (bytF n)).mergeSort fun x y => decide (x ≤ y)) = (sortF n fs).map (bytF n) := by
  have h1 : (fs.map (bytF n)).Perm ((sortF n fs).map (bytF n)) := ((sortF_perm n fs).map _).symm
  have h2 := mergeSort_of_perm h1
  unfold leB at h2
  rw [h2]
  refine List.mergeSort_of_pairwise ?_
  rw [List.pairwise_map]
  refine List.Pairwise.imp_of_mem ?_ (sortF_ord n fs)
  intro a b ha hb h
  have hs := rows_sort hr
  exact decide_eq_true ((le_bytes (hs a ha) (hs b hb)).2 h)

theorem sortS_any (n : Nat) (fs : List (Nat → Nat)) (hr : Rows n fs) (hl : fs.length ≤ 1000) (B : Nat) (v : Value) (w : World) (hB : B ≤ w.heap.size) (h : New B w 9 v (strs (rowsL n fs))) :
    Calls Tryz.prog 35 #[v] w fun e w' => e = .returned (.tuple #[]) ∧ New B w' 9 v (strs (rowsL n (sortF n fs))) ∧ Below B w w' := by
  have hlen : (strs (rowsL n fs)).length = fs.length := by rw [strs_len, rowsL_len]
  obtain ⟨⟨h1, h2⟩, hbase⟩ := h
  rcases h2 with ⟨rfl, h0⟩ | ⟨g, cap, cur, rfl, _, hb, hle, hcap, hsz, ht⟩
  · have h00 : fs = [] := List.eq_nil_of_length_eq_zero (by omega)
    subst h00
    have hc := AnyM.slices_Sort_string_none (P := Tryz.prog) laysSortS none 0 w
    refine hc.mono ?_
    rintro e w' ⟨rfl, rfl⟩
    rw [show sortF n [] = [] from sortF_short hr (by simp)]
    exact ⟨rfl, New.nil _ _ _, Below.refl _ _⟩
  · rw [hlen] at hle ⊢
    have hg : g < w.heap.size := (Array.getElem?_eq_some_iff.1 hb).1
    have hBg := hbase g rfl
    have hlm : (fs.map (bytF n)).length = fs.length := by simp
    have hH := holds_of_block (g := g) (ss := fs.map (bytF n)) hb (by rw [hlm]; rw [hlen, Nat.mul_one, strs_enc] at ht; exact ht)
    have hc := AnyM.slices_Sort_string (P := Tryz.prog) laysSortS g 0 cap (fs.map (bytF n)) w hH hg (by rw [hlm]; omega)
    rw [hlm] at hc
    refine hc.mono ?_
    rintro e w' ⟨rfl, q, os, rfl⟩
    rw [sorted_bytes hr]
    have hsl : ((sortF n fs).map (bytF n)).length = (fs.map (bytF n)).length := by simp [sortF_len]
    have ho := ownsRow_sorted (w := w) (base := 0) (g := g) (cap := cap) (n := q) (os := os) hsl (Nat.zero_le _) hb (by rw [hlm]; exact hle) hcap hsz
    rw [← strs_enc, hlm] at ho
    have hlen2 : (strs (rowsL n (sortF n fs))).length = fs.length := by rw [strs_len, rowsL_len, sortF_len]
    refine ⟨rfl, ⟨by unfold Own; rw [hlen2]; exact ho, hbase⟩, ?_⟩
    exact (Below.refl _ _).grown (grownBy_sorted _) hB (fun k hk => by cases hk; exact hBg)

set_option maxRecDepth 100000 in
set_option maxHeartbeats 1000000 in
theorem iSortRows_any (v : Value) (L : List (List Nat)) (w : World) (h : Txts w v L) (hl : L.length ≤ 2000000) (hsm : ∀ l ∈ L, l.length ≤ maxLen) :
    Calls Tryz.prog 12 #[v] w (TextsAny (if listB L = true then rowsL (firstN L) (sortF (firstN L) (rF L)) else []) (listB L) w) := by
  have HC := Lib.hid (iGoodRows_any v L w h hl hsm)
  have HT := Lib.hid h
  unfold TextsAny
  obtain ⟨a, cap, rfl, hcap, ha⟩ := h
  clear ha hcap
  by_cases hb : listB L = true
  · have h8 := rowsB_len hb
    have hrows := rowsB_rows hb
    have hstr := strs_rows hb
    have HCL := Lib.hid (fun w h => clone_any (.slice a L.length cap) L w h (by omega))
    unfold Copied at HCL
    rw [← hstr] at HCL
    have hfl : (rF L).length ≤ 1000 := by rw [rF_len]; omega
    simp only [hb, if_true] at HC ⊢
    generalize firstN L = n at *
    generalize rF L = fs at *
    have HRW := Lib.hid hrows
    generalize hm : L.length = m at *
    clear hl hsm hb hrows hstr hm h8
    go_enter Tryz.func12, Tryz.ntmps12
    go_wp2_with fail
    refine HC.out.mono ?_
    rintro e w1 ⟨rfl, hb1⟩
    have HB1 := Lib.hid hb1
    have HT1 := Lib.hid (HT.out.kept hb1)
    clear hb1
    go_wp2_with fail
    refine (HCL.out _ HT1.out).mono ?_
    rintro e w2 ⟨v2, rfl, hn2, hb2⟩
    have HB2 := Lib.hid (HB1.out.trans (hb2.mono HB1.out.size))
    have HN2 := Lib.hid (hn2.lower HB1.out.size)
    clear hn2 hb2 HB1 HT1
    go_wp2_with fail
    refine (sortS_any n fs HRW.out hfl w.heap.size v2 _ HB2.out.size HN2.out).mono ?_
    rintro e w3 ⟨rfl, hn3, hb3⟩
    have HB3 := Lib.hid (HB2.out.trans hb3)
    have HN3 := Lib.hid hn3
    obtain ⟨ua, uc, rfl, -⟩ := hn3.own.view
    clear hn3 hb3 HB2 HN2
    go_wp2
    go_ret2
    exact ⟨_, rfl, HN3.out, HB3.out⟩
  · have hb : listB L = false := by simpa using hb
    simp only [hb, if_false, Bool.false_eq_true] at HC ⊢
    clear hl hsm hb
    go_enter Tryz.func12, Tryz.ntmps12
    go_wp2_with fail
    refine HC.out.mono ?_
    rintro e w0 ⟨rfl, hb0⟩
    go_wp2
    go_ret2
    exact ⟨_, rfl, New.nil _ _ _, hb0⟩

set_option maxRecDepth 100000 in
set_option maxHeartbeats 1000000 in
theorem sSortRows_any (v : Value) (L : List (List Nat)) (w : World) (h : Txts w v L) (hl : L.length ≤ 2000000) (hsm : ∀ l ∈ L, l.length ≤ maxLen) :
    Calls Tryz.prog 13 #[v] w (TextsAny (if listB L = true then rowsL (firstN L) (sortF (firstN L) (rF L)) else []) (listB L) w) := by
  have HC := Lib.hid (l6Rows_any v L w h hl hsm)
  have HT := Lib.hid h
  unfold TextsAny
  by_cases hb : listB L = true
  · have h8 := rowsB_len hb
    have hrows := rowsB_rows hb
    have HS := Lib.hid (fun w h => l6Sort_any (firstN L) 1000 (rF L) (by rw [rF_len]; omega) (by omega) hrows v w (Txts.rows h hb))
    unfold TextsOut at HS
    obtain ⟨a, cap, rfl, hcap, ha⟩ := h
    simp only [hb, if_true] at HC ⊢
    generalize firstN L = n at *
    generalize sortF n (rF L) = fs at *
    generalize hm : L.length = m at *
    clear hl hsm hb hrows hm h8 ha hcap
    go_enter Tryz.func13, Tryz.ntmps13
    go_wp2_with fail
    refine HC.out.mono ?_
    rintro e w1 ⟨rfl, hb1⟩
    have HB1 := Lib.hid hb1
    have HT1 := Lib.hid (HT.out.kept hb1)
    clear hb1
    go_wp2_with fail
    refine (HS.out _ HT1.out).mono ?_
    rintro e w2 ⟨v2, rfl, hn2, hb2⟩
    have HB2 := Lib.hid (HB1.out.trans (hb2.mono HB1.out.size))
    have HN2 := Lib.hid (hn2.lower HB1.out.size)
    clear hn2 hb2 HB1 HT1
    go_wp2
    go_ret2
    exact ⟨_, rfl, HN2.out, HB2.out⟩
  · have hb : listB L = false := by simpa using hb
    obtain ⟨a, cap, rfl, hcap, ha⟩ := h
    simp only [hb, if_false, Bool.false_eq_true] at HC ⊢
    clear hl hsm hb ha hcap
    go_enter Tryz.func13, Tryz.ntmps13
    go_wp2_with fail
    refine HC.out.mono ?_
    rintro e w0 ⟨rfl, hb0⟩
    go_wp2
    go_ret2
    exact ⟨_, rfl, New.nil _ _ _, hb0⟩

theorem bothSortRows (L : List (List Nat)) (hl : L.length ≤ 2000000) (hsm : ∀ l ∈ L, l.length ≤ maxLen) :
    ∃ P b, P.length ≤ 1000 ∧ (∀ u w, Txts w u L → Calls Tryz.prog 12 #[u] w (TextsAny P b w)) ∧ (∀ u w, Txts w u L → Calls Tryz.prog 13 #[u] w (TextsAny P b w)) := by
  refine ⟨if listB L = true then rowsL (firstN L) (sortF (firstN L) (rF L)) else [], listB L, ?_, fun u w h => iSortRows_any u L w h hl hsm, fun u w h => sSortRows_any u L w h hl hsm⟩
  split
  · rename_i hb
    have := rowsB_len hb
    rw [rowsL_len, sortF_len, rF_len]
    omega
  · simp

end Go.Proofs.YtapcfojnljnoaaaGreat
