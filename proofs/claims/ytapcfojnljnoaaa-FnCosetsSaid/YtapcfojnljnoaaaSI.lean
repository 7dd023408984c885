/- slices.Sort on the texts of rows; SortRows in the program and in the model; the law SortRows. -/
import Derived.Shelf.SortM.Plain
import Derived.Shelf.SortM.SortNone
import Derived.Sort.OwnSorted
import Derived.Sort.KeysCollected
import Derived.Test.YtapcfojnljnoaaaSH
import Derived.Test.YtapcfojnljnoaaaSF
namespace Go.Proofs.Ytapcfojnljnoaaa
open Go.RowKit
set_option linter.unusedSimpArgs false
set_option linter.unusedVariables false
def laysSortS_ren : Go.Shelf.Ren := ⟨fun | 6 => 63 | 8 => 99 | 9 => 98 | 19 => 122 | 20 => 123 | 21 => 113 | 22 => 114 | 23 => 115 | 24 => 116 | 25 => 117 | 26 => 118 | 27 => 119 | 28 => 120 | 29 => 121 | 36 => 130 | 31 => 131 | 32 => 132 | 37 => 133 | 38 => 134 | 39 => 135 | 41 => 147 | n => n, fun | 27 => 22 | 29 => 9 | 3 => 3 | 32 => 99 | 26 => 22 | 0 => 0 | 44 => 117 | 46 => 86 | 4 => 4 | 36 => 110 | 35 => 109 | 41 => 45 | 5 => 5 | 9 => 9 | 53 => 123 | 57 => 127 | 63 => 136 | 64 => 137 | n => n, fun | n => n⟩
theorem laysSortS : Go.Proofs.SlLaysM.n6 Try.prog laysSortS_ren := {
  mixed := by kernel_rfl
  f6 := ⟨Try.f63.name, by decide, Try.func63.trans (congrArg some (by kernel_rfl))⟩
  f8 := Try.func99.trans (congrArg some (by kernel_rfl))
  f9 := ⟨Try.f98.name, by decide, Try.func98.trans (congrArg some (by kernel_rfl))⟩
  f19 := Try.func122.trans (congrArg some (by kernel_rfl))
  f20 := Try.func123.trans (congrArg some (by kernel_rfl))
  f21 := ⟨Try.f113.name, by decide, Try.func113.trans (congrArg some (by kernel_rfl))⟩
  f22 := ⟨Try.f114.name, by decide, Try.func114.trans (congrArg some (by kernel_rfl))⟩
  f23 := ⟨Try.f115.name, by decide, Try.func115.trans (congrArg some (by kernel_rfl))⟩
  f24 := ⟨Try.f116.name, by decide, Try.func116.trans (congrArg some (by kernel_rfl))⟩
  f25 := ⟨Try.f117.name, by decide, Try.func117.trans (congrArg some (by kernel_rfl))⟩
  f26 := ⟨Try.f118.name, by decide, Try.func118.trans (congrArg some (by kernel_rfl))⟩
  f27 := ⟨Try.f119.name, by decide, Try.func119.trans (congrArg some (by kernel_rfl))⟩
  f28 := ⟨Try.f120.name, by decide, Try.func120.trans (congrArg some (by kernel_rfl))⟩
  f29 := ⟨Try.f121.name, by decide, Try.func121.trans (congrArg some (by kernel_rfl))⟩
  f31 := Try.func131.trans (congrArg some (by kernel_rfl))
  f32 := Try.func132.trans (congrArg some (by kernel_rfl))
  f36 := ⟨Try.f130.name, by decide, Try.func130.trans (congrArg some (by kernel_rfl))⟩
  f37 := ⟨Try.f133.name, by decide, Try.func133.trans (congrArg some (by kernel_rfl))⟩
  f38 := ⟨Try.f134.name, by decide, Try.func134.trans (congrArg some (by kernel_rfl))⟩
  f39 := ⟨Try.f135.name, by decide, Try.func135.trans (congrArg some (by kernel_rfl))⟩
  f41 := ⟨Try.f147.name, by decide, Try.func147.trans (congrArg some (by kernel_rfl))⟩
  t0 := Try.underlying0
  a0 := Try.isAgg0
  z0 := Try.sizeOf0
  v0 := Try.zeroValue0
  t3 := Try.underlying3
  a3 := Try.isAgg3
  z3 := Try.sizeOf3
  v3 := Try.zeroValue3
  t4 := Try.underlying4
  a4 := Try.isAgg4
  z4 := Try.sizeOf4
  v4 := Try.zeroValue4
  t5 := Try.underlying5
  a5 := Try.isAgg5
  z5 := Try.sizeOf5
  v5 := Try.zeroValue5
  t9 := Try.underlying9
  a9 := Try.isAgg9
  z9 := Try.sizeOf9
  v9 := Try.zeroValue9
  t26 := Try.underlying22
  a26 := Try.isAgg22
  z26 := Try.sizeOf22
  v26 := Try.zeroValue22
  t27 := Try.underlying22
  a27 := Try.isAgg22
  z27 := Try.sizeOf22
  v27 := Try.zeroValue22
  t29 := Try.underlying9
  a29 := Try.isAgg9
  z29 := Try.sizeOf9
  v29 := Try.zeroValue9
  t32 := Try.underlying99
  a32 := Try.isAgg99
  z32 := Try.sizeOf99
  v32 := Try.zeroValue99
  t35 := Try.underlying109
  a35 := Try.isAgg109
  z35 := Try.sizeOf109
  v35 := Try.zeroValue109
  t36 := Try.underlying110
  a36 := Try.isAgg110
  z36 := Try.sizeOf110
  v36 := Try.zeroValue110
  t41 := Try.underlying45
  a41 := Try.isAgg45
  z41 := Try.sizeOf45
  v41 := Try.zeroValue45
  t44 := Try.underlying117
  a44 := Try.isAgg117
  z44 := Try.sizeOf117
  v44 := Try.zeroValue117
  t46 := Try.underlying86
  a46 := Try.isAgg86
  z46 := Try.sizeOf86
  v46 := Try.zeroValue86
  t53 := Try.underlying123
  a53 := Try.isAgg123
  z53 := Try.sizeOf123
  v53 := Try.zeroValue123
  t57 := Try.underlying127
  a57 := Try.isAgg127
  z57 := Try.sizeOf127
  v57 := Try.zeroValue127
  t63 := Try.underlying136
  a63 := Try.isAgg136
  z63 := Try.sizeOf136
  v63 := Try.zeroValue136
  t64 := Try.underlying137
  a64 := Try.isAgg137
  z64 := Try.sizeOf137
  v64 := Try.zeroValue137 }

/-- a row's bytes -/
def bytF (n : Nat) (f : Nat → Nat) : List UInt8 := (rowL n f).map UInt8.ofNat
theorem strs_enc (n : Nat) (fs : List (Nat → Nat)) : strs (rowsL n fs) = (fs.map (bytF n)).map encStr := by
  simp only [strs, rowsL, List.map_map]
  rfl
theorem lt_bytes : ∀ (l r : List Nat), (∀ b ∈ l, b < 256) → (∀ b ∈ r, b < 256) → (l.map UInt8.ofNat < r.map UInt8.ofNat ↔ lexL l r = true)
  | [], [], _, _ => by simp [lexL]
  | [], _ :: _, _, _ => by simp [lexL]
  | _ :: _, [], _, _ => by simp [lexL]
  | a :: l, b :: r, hl, hr => by
    have ha := hl a (by simp)
    have hb := hr b (by simp)
    have ih := lt_bytes l r (fun x hx => hl x (by simp [hx])) (fun x hx => hr x (by simp [hx]))
    simp only [List.map_cons, List.cons_lt_cons_iff, lexL, Bool.or_eq_true, decide_eq_true_eq, Bool.and_eq_true, beq_iff_eq, ih]
    have e1 : (UInt8.ofNat a < UInt8.ofNat b) ↔ (a < b) := by
      rw [UInt8.lt_iff_toNat_lt]; simp [UInt8.toNat_ofNat']; omega
    have e2 : (UInt8.ofNat a = UInt8.ofNat b) ↔ a = b := by
      constructor
      · intro e
        have := congrArg UInt8.toNat e
        simp [UInt8.toNat_ofNat'] at this; omega
      · rintro rfl; rfl
    rw [e1, e2]
theorem le_bytes {n : Nat} {f g : Nat → Nat} (hf : IsRow n f) (hg : IsRow n g) : bytF n f ≤ bytF n g ↔ rowKey n f ≤ rowKey n g := by
  have h := lt_bytes (rowL n g) (rowL n f) (rowL_small hg) (rowL_small hf)
  rw [lexL_num _ _ (by rw [rowL_len, rowL_len]) (rowL_small hg) (rowL_small hf), decide_eq_true_eq] at h
  unfold bytF
  rw [← List.not_lt, h]
  show ¬ rowKey n g < rowKey n f ↔ _
  omega
theorem sorted_bytes {n : Nat} {fs : List (Nat → Nat)} (hr : Rows n fs) : ((fs.map (bytF n)).mergeSort fun x y => decide (x ≤ y)) = (sortF n fs).map (bytF n) := by
  have h1 : (fs.map (bytF n)).Perm ((sortF n fs).map (bytF n)) := ((sortF_perm n fs).map _).symm
  have h2 := mergeSort_of_perm h1
  unfold leB at h2
  rw [h2]
  refine List.mergeSort_of_pairwise ?_
  rw [List.pairwise_map]
  refine List.Pairwise.imp_of_mem ?_ (sortF_ord n fs)
  intro a b ha hb h
  have hs := rows_sort hr
  exact decide_eq_true ((le_bytes (hs a ha) (hs b hb)).2 h)

theorem sortS_any (n : Nat) (fs : List (Nat → Nat)) (hr : Rows n fs) (hl : fs.length ≤ 1000) (B : Nat) (v : Value) (w : World) (hB : B ≤ w.heap.size) (h : New B w 9 v (strs (rowsL n fs))) :
    Calls Try.prog 63 #[v] w fun e w' => e = .returned (.tuple #[]) ∧ New B w' 9 v (strs (rowsL n (sortF n fs))) ∧ Below B w w' := by
  have hlen : (strs (rowsL n fs)).length = fs.length := by rw [strs_len, rowsL_len]
  obtain ⟨⟨h1, h2⟩, hbase⟩ := h
  rcases h2 with ⟨rfl, h0⟩ | ⟨g, cap, cur, rfl, _, hb, hle, hcap, hsz, ht⟩
  · have h00 : fs = [] := List.eq_nil_of_length_eq_zero (by omega)
    subst h00
    have hc := AnyM.slices_Sort_string_none (P := Try.prog) laysSortS none 0 w
    refine hc.mono ?_
    rintro e w' ⟨rfl, rfl⟩
    rw [show sortF n [] = [] from sortF_short hr (by simp)]
    exact ⟨rfl, New.nil _ _ _, Below.refl _ _⟩
  · rw [hlen] at hle ⊢
    have hg : g < w.heap.size := (Array.getElem?_eq_some_iff.1 hb).1
    have hBg := hbase g rfl
    have hlm : (fs.map (bytF n)).length = fs.length := by simp
    have hH := holds_of_block (g := g) (ss := fs.map (bytF n)) hb (by rw [hlm]; rw [hlen, Nat.mul_one, strs_enc] at ht; exact ht)
    have hc := AnyM.slices_Sort_string (P := Try.prog) laysSortS g 0 cap (fs.map (bytF n)) w hH hg (by rw [hlm]; omega)
    rw [hlm] at hc
    refine hc.mono ?_
    rintro e w' ⟨rfl, q, os, rfl⟩
    rw [sorted_bytes hr]
    have hsl : ((sortF n fs).map (bytF n)).length = (fs.map (bytF n)).length := by simp [sortF_len]
    have ho := ownsRow_sorted (w := w) (base := 0) (g := g) (cap := cap) (n := q) (os := os) hsl (Nat.zero_le _) hb (by rw [hlm]; exact hle) hcap hsz
    rw [← strs_enc, hlm] at ho
    have hlen2 : (strs (rowsL n (sortF n fs))).length = fs.length := by rw [strs_len, rowsL_len, sortF_len]
    refine ⟨rfl, ⟨by unfold Own; rw [hlen2]; exact ho, hbase⟩, ?_⟩
    exact (Below.refl _ _).grown (grownBy_sorted _) hB (fun k hk => by cases hk; exact hBg)

set_option maxRecDepth 100000 in
set_option maxHeartbeats 1000000 in
theorem iSortRows_any (v : Value) (L : List (List Nat)) (w : World) (h : Txts w v L) (hl : L.length ≤ 2000000) (hsm : ∀ l ∈ L, l.length ≤ maxLen) :
    Calls Try.prog 26 #[v] w (TextsAny (if listB L = true then rowsL (firstN L) (sortF (firstN L) (rF L)) else []) (listB L) w) := by
  have HC := Lib.hid (iGoodRows_any v L w h hl hsm)
  have HT := Lib.hid h
  unfold TextsAny
  obtain ⟨a, cap, rfl, hcap, ha⟩ := h
  clear ha hcap
  by_cases hb : listB L = true
  · have h8 := rowsB_len hb
    have hrows := rowsB_rows hb
    have hstr := strs_rows hb
    have HCL := Lib.hid (fun w h => clone_any (.slice a L.length cap) L w h (by omega))
    unfold Copied at HCL
    rw [← hstr] at HCL
    have hfl : (rF L).length ≤ 1000 := by rw [rF_len]; omega
    simp only [hb, if_true] at HC ⊢
    generalize firstN L = n at *
    generalize rF L = fs at *
    have HRW := Lib.hid hrows
    generalize hm : L.length = m at *
    clear hl hsm hb hrows hstr hm h8
    go_enter Try.func26, Try.ntmps26
    go_wp2_with fail
    refine HC.out.mono ?_
    rintro e w1 ⟨rfl, hb1⟩
    have HB1 := Lib.hid hb1
    have HT1 := Lib.hid (HT.out.kept hb1)
    clear hb1
    go_wp2_with fail
    refine (HCL.out _ HT1.out).mono ?_
    rintro e w2 ⟨v2, rfl, hn2, hb2⟩
    have HB2 := Lib.hid (HB1.out.trans (hb2.mono HB1.out.size))
    have HN2 := Lib.hid (hn2.lower HB1.out.size)
    clear hn2 hb2 HB1 HT1
    go_wp2_with fail
    refine (sortS_any n fs HRW.out hfl w.heap.size v2 _ HB2.out.size HN2.out).mono ?_
    rintro e w3 ⟨rfl, hn3, hb3⟩
    have HB3 := Lib.hid (HB2.out.trans hb3)
    have HN3 := Lib.hid hn3
    obtain ⟨ua, uc, rfl, -⟩ := hn3.own.view
    clear hn3 hb3 HB2 HN2
    go_wp2
    go_ret2
    exact ⟨_, rfl, HN3.out, HB3.out⟩
  · have hb : listB L = false := by simpa using hb
    simp only [hb, if_false, Bool.false_eq_true] at HC ⊢
    clear hl hsm hb
    go_enter Try.func26, Try.ntmps26
    go_wp2_with fail
    refine HC.out.mono ?_
    rintro e w0 ⟨rfl, hb0⟩
    go_wp2
    go_ret2
    exact ⟨_, rfl, New.nil _ _ _, hb0⟩

set_option maxRecDepth 100000 in
set_option maxHeartbeats 1000000 in
theorem sSortRows_any (v : Value) (L : List (List Nat)) (w : World) (h : Txts w v L) (hl : L.length ≤ 2000000) (hsm : ∀ l ∈ L, l.length ≤ maxLen) :
    Calls Try.prog 25 #[v] w (TextsAny (if listB L = true then rowsL (firstN L) (sortF (firstN L) (rF L)) else []) (listB L) w) := by
  have HC := Lib.hid (l6Rows_any v L w h hl hsm)
  have HT := Lib.hid h
  unfold TextsAny
  by_cases hb : listB L = true
  · have h8 := rowsB_len hb
    have hrows := rowsB_rows hb
    have HS := Lib.hid (fun w h => l6Sort_any (firstN L) 1000 (rF L) (by rw [rF_len]; omega) (by omega) hrows v w (Txts.rows h hb))
    unfold TextsOut at HS
    obtain ⟨a, cap, rfl, hcap, ha⟩ := h
    simp only [hb, if_true] at HC ⊢
    generalize firstN L = n at *
    generalize sortF n (rF L) = fs at *
    generalize hm : L.length = m at *
    clear hl hsm hb hrows hm h8 ha hcap
    go_enter Try.func25, Try.ntmps25
    go_wp2_with fail
    refine HC.out.mono ?_
    rintro e w1 ⟨rfl, hb1⟩
    have HB1 := Lib.hid hb1
    have HT1 := Lib.hid (HT.out.kept hb1)
    clear hb1
    go_wp2_with fail
    refine (HS.out _ HT1.out).mono ?_
    rintro e w2 ⟨v2, rfl, hn2, hb2⟩
    have HB2 := Lib.hid (HB1.out.trans (hb2.mono HB1.out.size))
    have HN2 := Lib.hid (hn2.lower HB1.out.size)
    clear hn2 hb2 HB1 HT1
    go_wp2
    go_ret2
    exact ⟨_, rfl, HN2.out, HB2.out⟩
  · have hb : listB L = false := by simpa using hb
    obtain ⟨a, cap, rfl, hcap, ha⟩ := h
    simp only [hb, if_false, Bool.false_eq_true] at HC ⊢
    clear hl hsm hb ha hcap
    go_enter Try.func25, Try.ntmps25
    go_wp2_with fail
    refine HC.out.mono ?_
    rintro e w0 ⟨rfl, hb0⟩
    go_wp2
    go_ret2
    exact ⟨_, rfl, New.nil _ _ _, hb0⟩

theorem bothSortRows (L : List (List Nat)) (hl : L.length ≤ 2000000) (hsm : ∀ l ∈ L, l.length ≤ maxLen) :
    ∃ P b, P.length ≤ 1000 ∧ (∀ u w, Txts w u L → Calls Try.prog 26 #[u] w (TextsAny P b w)) ∧ (∀ u w, Txts w u L → Calls Try.prog 25 #[u] w (TextsAny P b w)) := by
  refine ⟨if listB L = true then rowsL (firstN L) (sortF (firstN L) (rF L)) else [], listB L, ?_, fun u w h => iSortRows_any u L w h hl hsm, fun u w h => sSortRows_any u L w h hl hsm⟩
  split
  · rename_i hb
    have := rowsB_len hb
    rw [rowsL_len, sortF_len, rF_len]
    omega
  · simp

set_option maxRecDepth 100000 in
set_option maxHeartbeats 1000000 in
theorem lawSortRows (v0 : Value) (ss0 : List ByteArray) (W : World) (hA0 : Arg W v0 ss0) (hy0 : ss0.length ≤ maxLen ∧ ∀ s ∈ ss0, s.size ≤ maxLen) :
    Calls Try.prog 6 #[v0] W fun e w' => e = .returned (.bool true) ∧ Below W.heap.size W w' := by
  have hz0 : ∀ w, Arg w v0 ss0 → (0 : Int) ≤ 1048576 → (1048576 : Int) ≤ 1048576 → Calls _ _ _ w _ := fun w h h0 h1 => szStringS_any v0 ss0 w h hy0.1 hy0.2 (1048576) h0 h1
  have hlen0 := szAll_len (ss := ss0) (left := 1048576)
  have hsm0 := letss_small (ss := ss0) (left := 1048576)
  have hle0 := szAll_left (ss := ss0) (left := 1048576)
  generalize hzz0 : szAll ss0 1048576 = z0 at *
  by_cases hneg0 : z0 < 0
  · clear hlen0 hsm0 hle0
    go_enter Try.func6, Try.ntmps6
    go_wp2_with fail
    refine (hz0 _ hA0 (by omega) (by omega)).mono ?_
    rintro e w0 ⟨rfl, rfl⟩
    go_wp2
    go_ret
    exact ⟨rfl, Below.refl _ _⟩
  have hn0 := hlen0 (by omega)
  have hsm0 := hsm0 (by omega) (by omega)
  have hle0 := hle0 (by omega)
  have hss0 : ss0.length ≤ 1048576 := by omega
  have HS0 : Hid (∀ w, Arg w v0 ss0 → Calls Try.prog 16 #[v0] w _) := Lib.hid (fun w h => toStringS_any v0 ss0 w h (by omega))
  have HZ0 := Lib.hid hz0
  have hll0 := letss_len ss0
  generalize letss ss0 = L0 at *
  have hL0 : L0.length ≤ 1048576 := by omega
  have HA0 := Lib.hid hA0
  obtain ⟨P, b, hPL, hI, hM⟩ := bothSortRows L0 (by omega) hsm0
  have HI := Lib.hid hI
  have HM := Lib.hid hM
  clear hI hM hz0 hlen0 hy0 hll0 hA0 hsm0 
  obtain ⟨q0, hq0⟩ : ∃ n, L0.length = n := ⟨_, rfl⟩
  rw [hq0] at hL0
  have HQ0 := Lib.hid hq0
  clear hq0
  have hqi0 : (q0 : Int) ≤ 1048576 := by omega
  obtain ⟨m, hm⟩ : ∃ m, P.length = m := ⟨_, rfl⟩
  rw [hm] at hPL
  have HMM := Lib.hid hm
  clear hm
  have hmi : (m : Int) ≤ 1000 := by omega
  cases b
  all_goals
    go_enter Try.func6, Try.ntmps6
    go_wp2_with fail
    refine (HZ0.out _ HA0.out (by omega) (by omega)).mono ?_
    rintro e w0 ⟨rfl, rfl⟩
    clear HZ0
    go_wp2_with fail
    refine (HS0.out _ HA0.out).mono ?_
    rintro e w1 ⟨va0, rfl, hn1, hb1⟩
    have B1 := Lib.hid hb1
    have Ta0_1 := Lib.hid hn1
    clear hn1 hb1
    go_wp2_with fail
    refine (HM.out va0 _ Ta0_1.out.own.txts).mono ?_
    rintro e w2 ⟨v2, rfl, hn2, hb2⟩
    have B2 := Lib.hid (B1.out.trans (hb2.mono B1.out.size))
    have Ta0_2 := Lib.hid (Ta0_1.out.kept hb2)
    have R_2 := Lib.hid hn2.own
    clear hn2 hb2 B1 Ta0_1
    clear Ta0_2
    have BB := B2
    clear B2
    have R0 := R_2
    go_wp2_with fail
    refine (HS0.out _ (HA0.out.kept BB.out)).mono ?_
    rintro e w3 ⟨vx0, rfl, hn3, hb3⟩
    have B3 := Lib.hid hb3
    have R_3 := Lib.hid (R_2.out.kept hb3)
    have Tx0_3 := Lib.hid hn3
    clear hn3 hb3 R_2
    have SZX := Lib.hid B3.out.size
    go_wp2_with fail
    refine (HI.out vx0 _ Tx0_3.out.own.txts).mono ?_
    rintro e w4 ⟨v4, rfl, hn4, hb4⟩
    have AP0 : Hid (∀ g, v4.ownBlock = some g → vx0.ownBlock ≠ some g) := Lib.hid (fun g hg h3 => by
      have h1 := hn4.base g hg
      have h2 := Tx0_3.out.own.lt g h3
      omega)
    have SZ4 := Lib.hid hb4.size
    have B4 := Lib.hid (B3.out.trans (hb4.mono B3.out.size))
    have R_4 := Lib.hid (R_3.out.kept hb4)
    have Tx0_4 := Lib.hid (Tx0_3.out.kept hb4)
    have G_4 := Lib.hid hn4
    clear hn4 hb4 B3 R_3 Tx0_3
    go_wp2_with fail
    refine (eqStringS_same v4 v2 P _ G_4.out.own R_4.out (by rw [HMM.out]; omega)).mono ?_
    rintro e w5 ⟨rfl, d5, hd5⟩
    have B5 : Hid (Below w2.heap.size w2 w5) := by rw [hd5]; exact below_drewN B4.out _
    have R_5 := Lib.hid (R_4.out.drewN d5)
    rw [← hd5] at R_5
    have Tx0_5 := Lib.hid (Tx0_4.out.drewN d5)
    rw [← hd5] at Tx0_5
    have G_5 := Lib.hid (G_4.out.drewN d5)
    rw [← hd5] at G_5
    have SZ5 : Hid (w3.heap.size ≤ w5.heap.size) := by rw [hd5]; exact SZ4.out
    clear hd5 SZ4 B4 R_4 Tx0_4 G_4
    go_wp2_with fail
    refine (HS0.out _ (HA0.out.kept (BB.out.trans (B5.out.mono BB.out.size)))).mono ?_
    rintro e w6 ⟨vy0, rfl, hn6, hb6⟩
    have B6 := Lib.hid (B5.out.trans (hb6.mono B5.out.size))
    have R_6 := Lib.hid (R_5.out.kept hb6)
    have Tx0_6 := Lib.hid (Tx0_5.out.kept hb6)
    have G_6 := Lib.hid (G_5.out.kept hb6)
    have Ty_6 := Lib.hid hn6.own
    have SZ6 := Lib.hid (Nat.le_trans SZ5.out hb6.size)
    clear hn6 hb6 B5 SZ5 R_5 Tx0_5 G_5
    go_wp2_with fail
    refine (eqStringS_same vx0 vy0 L0 _ Tx0_6.out.own Ty_6.out (by rw [HQ0.out]; omega)).mono ?_
    rintro e w7 ⟨rfl, d7, hd7⟩
    have B7 : Hid (Below w2.heap.size w2 w7) := by rw [hd7]; exact below_drewN B6.out _
    have R_7 := Lib.hid (R_6.out.drewN d7)
    rw [← hd7] at R_7
    have Tx0_7 := Lib.hid (Tx0_6.out.drewN d7)
    rw [← hd7] at Tx0_7
    have G_7 := Lib.hid (G_6.out.drewN d7)
    rw [← hd7] at G_7
    have Ty_7 := Lib.hid (Ty_6.out.drewN d7)
    rw [← hd7] at Ty_7
    have SZ7 : Hid (w3.heap.size ≤ w7.heap.size) := by rw [hd7]; exact SZ6.out
    clear hd7 SZ6 B6 R_6 Tx0_6 G_6 Ty_6
    clear Ty_7
    go_wp2_with fail
    refine (markStringS_full w2.heap.size vx0 L0 1 _ Tx0_7.out B7.out.size (by rw [HQ0.out]; omega) (by omega) (by omega)).mono ?_
    rintro e w8 ⟨rfl, _, hb8, hk8⟩
    have B8 := Lib.hid (B7.out.trans hb8)
    have R_8 := Lib.hid (R_7.out.under R0.out.lt hb8)
    have G_8 : Hid (New w3.heap.size w8 9 v4 (strs P)) := Lib.hid ⟨G_7.out.own.besides hk8 AP0.out, G_7.out.base⟩
    have SZ8 := Lib.hid (Nat.le_trans SZ7.out hb8.size)
    rw [HQ0.out]
    clear hb8 hk8 B7 SZ7 R_7 G_7 Tx0_7
    have hnn : ¬ ((1 : Int) + (q0 : Nat) < 0) := by omega
    go_wp2_with fail
    refine (eqStringS_same v4 v2 P _ G_8.out.own R_8.out (by rw [HMM.out]; omega)).mono ?_
    rintro e w9 ⟨rfl, d9, hd9⟩
    have B9 : Hid (Below w2.heap.size w2 w9) := by rw [hd9]; exact below_drewN B8.out _
    have R_9 := Lib.hid (R_8.out.drewN d9)
    rw [← hd9] at R_9
    have G_9 := Lib.hid (G_8.out.drewN d9)
    rw [← hd9] at G_9
    have SZ9 : Hid (w3.heap.size ≤ w9.heap.size) := by rw [hd9]; exact SZ8.out
    clear hd9 SZ8 B8 R_8 G_8
    go_wp2_with fail
    refine (markStringS_full w3.heap.size v4 P 1 _ G_9.out SZ9.out (by rw [HMM.out]; omega) (by omega) (by omega)).mono ?_
    rintro e w10 ⟨rfl, hn10, hb10, _⟩
    rw [HMM.out] at hn10
    have B10 := Lib.hid (B9.out.trans (hb10.mono SZX.out))
    have R_10 := Lib.hid (R_9.out.under (fun g hg => Nat.lt_of_lt_of_le (R0.out.lt g hg) SZX.out) hb10)
    have G_10 := Lib.hid hn10
    rw [HMM.out]
    clear hn10 hb10 B9 R_9 G_9
    go_wp2_with fail
    refine (heldStringS_any v4 m 1 _ G_10.out.own (by omega) (by omega) (by omega)).mono ?_
    rintro e w11 ⟨rfl, hb11⟩
    have B11 := Lib.hid (B10.out.trans (hb11.mono B10.out.size))
    have R_11 := Lib.hid (R_10.out.kept hb11)
    have G_11 := Lib.hid (G_10.out.kept hb11)
    clear hb11 B10 R_10 G_10
    have hmm : ¬ ((1 : Int) + (m : Nat) < 0) := by omega
    go_wp2_with fail
    refine (HS0.out _ (HA0.out.kept (BB.out.trans (B11.out.mono BB.out.size)))).mono ?_
    rintro e w12 ⟨vh0, rfl, hn12, hb12⟩
    have B12 := Lib.hid (B11.out.trans (hb12.mono B11.out.size))
    have R_12 := Lib.hid (R_11.out.kept hb12)
    have G_12 := Lib.hid (G_11.out.kept hb12)
    have Th0_12 := Lib.hid hn12
    clear hn12 hb12 B11 R_11 G_11
    go_wp2_with fail
    refine (HI.out vh0 _ Th0_12.out.own.txts).mono ?_
    rintro e w13 ⟨v13, rfl, hn13, hb13⟩
    have B13 := Lib.hid (B12.out.trans (hb13.mono B12.out.size))
    have R_13 := Lib.hid (R_12.out.kept hb13)
    have G_13 := Lib.hid (G_12.out.kept hb13)
    have Th0_13 := Lib.hid (Th0_12.out.kept hb13)
    have H_13 := Lib.hid hn13.own
    clear hn13 hb13 B12 R_12 G_12 Th0_12
    clear Th0_13
    go_wp2_with fail
    refine (eqStringS_same v13 v2 P _ H_13.out R_13.out (by rw [HMM.out]; omega)).mono ?_
    rintro e w14 ⟨rfl, d14, hd14⟩
    have B14 : Hid (Below w2.heap.size w2 w14) := by rw [hd14]; exact below_drewN B13.out _
    have G_14 : Hid (New w3.heap.size w14 9 v4 (strs (smarks 1 m))) := by rw [hd14]; exact G_13.out.drewN _
    clear hd14 B13 R_13 G_13 H_13
    go_wp2_with fail
    refine (heldStringS_any v4 m 1 _ G_14.out.own (by omega) (by omega) (by omega)).mono ?_
    rintro e w15 ⟨rfl, hb15⟩
    have B15 := Lib.hid (B14.out.trans (hb15.mono B14.out.size))
    have G_15 := Lib.hid (G_14.out.kept hb15)
    clear hb15 B14 G_14
    go_wp2
    go_ret
    exact ⟨rfl, BB.out.trans (B15.out.mono BB.out.size)⟩
end Go.Proofs.Ytapcfojnljnoaaa
