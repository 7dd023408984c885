/- Methods in the program: GoodMethod, LeadHead, LeadsIn, HuntBells. Rows as texts and courses, in the program. LeadRows and CourseRows in the program. -/
import Derived.Test.YtnoepobbecobbaaMA
namespace Go.Proofs.Ytnoepobbecobbaa
open Go.RowKit
set_option linter.unusedSimpArgs false
set_option linter.unusedVariables false

theorem lead_range {W : World} {b : Nat} {T : TypeId} {u : Value} {f : Nat → Nat} (h : RowAt W b T (leadV u f)) : W.rangeAt b 1 (cells8 f) := by
  intro j v hv
  have hj : j < 8 := (List.getElem?_eq_some_iff.1 hv).1
  refine h.cell (1 + j) ?_
  have : j = 0 ∨ j = 1 ∨ j = 2 ∨ j = 3 ∨ j = 4 ∨ j = 5 ∨ j = 6 ∨ j = 7 := by omega
  rcases this with rfl | rfl | rfl | rfl | rfl | rfl | rfl | rfl <;> exact hv

set_option maxRecDepth 100000 in
set_option maxHeartbeats 1000000 in
theorem head_any (n : Nat) (u : Value) (cs : List (Nat → Nat)) (f : Nat → Nat) (hf : IsRow n f) (hc : Rows n cs) (hl : cs.length ≤ 40) (w : World) (h : Digs w u cs) :
    Calls Try.prog 97 #[.agg (leadV u f)] w fun e w' => e = .returned (.agg (dig8 (endF n cs f))) ∧ Below w.heap.size w w' := by
  obtain ⟨a, cap, rfl, hcap, -⟩ := id h
  have HD := Lib.hid h
  have HR0 := Lib.hid ((RowAt.new w 99 (leadV (.slice a cs.length cap) f)).push (.cells zero8 80))
  have HZ0 : Hid (RowAt ((w.alloc (.cells (leadV (.slice a cs.length cap) f) 99)).alloc (.cells zero8 80)) (w.heap.size + 1) 80 zero8) := Lib.hid (by
    have := RowAt.new (w.alloc (.cells (leadV (.slice a cs.length cap) f) 99)) 80 zero8
    simpa using this)
  have HB0 := Lib.hid (((Below.refl _ w).alloc (Nat.le_refl _) (.cells (leadV (.slice a cs.length cap) f) 99)).alloc (by simp) (.cells zero8 80))
  have c0 := HR0.out.cell 0 rfl
  have HL := Lib.hid (lead_range HR0.out)
  have HC := Lib.hid (fun w h => end_any n (.slice a cs.length cap) cs f hf hc hl w h)
  generalize endF n cs f = res at *
  generalize cs.length = m at *
  clear h hcap
  simp only [leadV, zero8] at *
  go_enter Try.func97, Try.ntmps97
  go_wp2_with (first | (refine wpList_load8 rfl _ rfl w.heap.size 1 rfl f HL.out ?_) | fail)
  refine (HC.out _ (HD.out.kept HB0.out)).mono ?_
  rintro e w1 ⟨rfl, hb1⟩
  have HZ1 := Lib.hid (HZ0.out.kept hb1)
  have HB1 := Lib.hid (HB0.out.trans (hb1.mono HB0.out.size))
  clear hb1
  go_wp2_with (first | (refine wpList_store_row rfl 80 _ _ rfl _ _ rfl rfl 80 _ (HZ1.out) (by kernel_rfl) rfl (by kernel_rfl) ?_) | fail)
  exact bodyPost_ret (results_cell_row rfl _ _ (w.heap.size + 1) 80 (dig8 res) (0, 0) _ rfl (HZ1.out.row _) Try.underlying80 rfl (by kernel_rfl)) rfl ⟨rfl, below_setRow HB1.out (by omega) _⟩

theorem goodM_nat {s : ByteArray} {n : Nat} {L : List (List Nat)} (h : goodM s n L = true) : 3 ≤ n ∧ n ≤ 8 ∧ Rows n (chR n L) ∧ (chR n L).length ≤ 40 ∧ 1 ≤ (chR n L).length := by
  have h1 := (goodM_parts h).1
  have h2 := goodAll_range h1
  have h3 := goodAll_len h1
  rw [chR_len]
  exact ⟨by omega, by omega, goodAll_rows h1, h3.2, h3.1⟩

set_option maxRecDepth 100000 in
set_option maxHeartbeats 1000000 in
theorem iGoodMethod_any (s : ByteArray) (hs : s.size ≤ maxLen) (n : Int) (v : Value) (L : List (List Nat)) (w : World) (h : Txts w v L) (hl : L.length ≤ 2000000) :
    Calls Try.prog 47 #[.agg #[.string s, .int .i64 n, v]] w fun e w' => e = .returned (.bool (goodM s n L)) ∧ Below w.heap.size w w' := by
  obtain ⟨a, cap, rfl, hcap, -⟩ := id h
  have HT := Lib.hid h
  have HR0 := Lib.hid (RowAt.new w 47 #[.string s, .int .i64 n, .slice a L.length cap])
  have HB0 := Lib.hid ((Below.refl _ w).alloc (Nat.le_refl _) (.cells #[.string s, .int .i64 n, .slice a L.length cap] 47))
  clear h hcap
  cases hg : goodM s n L
  · have HC := Lib.hid (fun w h => leadOf_no s hs n (.slice a L.length cap) L w h hl hg)
    clear hl hg
    generalize L.length = m at *
    go_enter Try.func47, Try.ntmps47
    go_wp2_with (first | (refine wpList_load_row rfl 47 _ rfl _ rfl 47 _ _ _ (HR0.out) Try.underlying47 rfl (by kernel_rfl) ?_) | fail)
    refine (HC.out _ (HT.out.kept HB0.out)).mono ?_
    rintro e w1 ⟨rfl, hb1⟩
    have HB1 := Lib.hid (HB0.out.trans (hb1.mono HB0.out.size))
    clear hb1
    simp only [zero9]
    go_wp2_with (first | (refine wpList_store_row rfl 99 _ _ rfl _ _ rfl rfl 99 _ (heap_at _ _ _ (by simp)) (by kernel_rfl) rfl (by kernel_rfl) ?_; rw [setRow_at _ _ _ _ _ (by simp)]) | fail)
    go_ret
    exact ⟨rfl, HB1.out.alloc HB1.out.size _⟩
  · have hr := goodAll_range (goodM_parts hg).1
    obtain ⟨n, rfl⟩ := Int.eq_ofNat_of_zero_le (show 0 ≤ n by omega)
    have HC := Lib.hid (fun w h => leadOf_yes s hs n (.slice a L.length cap) L w h hl hg)
    generalize rdf n = f at *
    generalize chR n L = cs at *
    clear hl hg hr
    generalize L.length = m at *
    go_enter Try.func47, Try.ntmps47
    go_wp2_with (first | (refine wpList_load_row rfl 47 _ rfl _ rfl 47 _ _ _ (HR0.out) Try.underlying47 rfl (by kernel_rfl) ?_) | fail)
    refine (HC.out _ (HT.out.kept HB0.out)).mono ?_
    rintro e w1 ⟨u1, rfl, hn1, hb1⟩
    have HB1 := Lib.hid (HB0.out.trans (hb1.mono HB0.out.size))
    obtain ⟨a1, k1, rfl, -, -⟩ := hn1.view rfl
    clear hb1 hn1
    generalize cs.length = l1 at *
    simp only [leadV]
    go_wp2_with (first | (refine wpList_store_row rfl 99 _ _ rfl _ _ rfl rfl 99 _ (heap_at _ _ _ (by simp)) (by kernel_rfl) rfl (by kernel_rfl) ?_; rw [setRow_at _ _ _ _ _ (by simp)]) | fail)
    go_ret
    exact ⟨rfl, HB1.out.alloc HB1.out.size _⟩

set_option maxRecDepth 100000 in
set_option maxHeartbeats 1000000 in
theorem iLeadHead_no (s : ByteArray) (hs : s.size ≤ maxLen) (n : Int) (v : Value) (L : List (List Nat)) (w : World) (h : Txts w v L) (hl : L.length ≤ 2000000) (hg : goodM s n L = false) :
    Calls Try.prog 49 #[.agg #[.string s, .int .i64 n, v]] w fun e w' => e = .returned (.tuple #[.string ⟨#[]⟩, .bool false]) ∧ Below w.heap.size w w' := by
  obtain ⟨a, cap, rfl, hcap, -⟩ := id h
  have HT := Lib.hid h
  have HR0 := Lib.hid (RowAt.new w 47 #[.string s, .int .i64 n, .slice a L.length cap])
  have HB0 := Lib.hid ((Below.refl _ w).alloc (Nat.le_refl _) (.cells #[.string s, .int .i64 n, .slice a L.length cap] 47))
  clear h hcap
  have HC := Lib.hid (fun w h => leadOf_no s hs n (.slice a L.length cap) L w h hl hg)
  clear hl hg
  generalize L.length = m at *
  go_enter Try.func49, Try.ntmps49
  go_wp2_with (first | (refine wpList_load_row rfl 47 _ rfl _ rfl 47 _ _ _ (HR0.out) Try.underlying47 rfl (by kernel_rfl) ?_) | fail)
  refine (HC.out _ (HT.out.kept HB0.out)).mono ?_
  rintro e w1 ⟨rfl, hb1⟩
  have HB1 := Lib.hid (HB0.out.trans (hb1.mono HB0.out.size))
  clear hb1
  simp only [zero9]
  go_wp2_with (first | (refine wpList_store_row rfl 99 _ _ rfl _ _ rfl rfl 99 _ (heap_at _ _ _ (by simp)) (by kernel_rfl) rfl (by kernel_rfl) ?_; rw [setRow_at _ _ _ _ _ (by simp)]) | fail)
  go_ret2
  exact ⟨rfl, HB1.out.alloc HB1.out.size _⟩

set_option maxRecDepth 100000 in
set_option maxHeartbeats 1000000 in
theorem iLeadHead_yes (s : ByteArray) (hs : s.size ≤ maxLen) (n : Nat) (v : Value) (L : List (List Nat)) (w : World) (h : Txts w v L) (hl : L.length ≤ 2000000) (hg : goodM s n L = true) :
    Calls Try.prog 49 #[.agg #[.string s, .int .i64 n, v]] w fun e w' => e = .returned (.tuple #[.string (strOf n (headF n (chR n L))), .bool true]) ∧ Below w.heap.size w w' := by
  obtain ⟨a, cap, rfl, hcap, -⟩ := id h
  have HT := Lib.hid h
  have HR0 := Lib.hid (RowAt.new w 47 #[.string s, .int .i64 n, .slice a L.length cap])
  have HB0 := Lib.hid ((Below.refl _ w).alloc (Nat.le_refl _) (.cells #[.string s, .int .i64 n, .slice a L.length cap] 47))
  have HC := Lib.hid (fun w h => leadOf_yes s hs n (.slice a L.length cap) L w h hl hg)
  obtain ⟨h3, h8, hrows, h40, h1⟩ := goodM_nat hg
  have hrd := isRow_rdf h3 h8
  have hHF : endF n (chR n L) (rdf n) = headF n (chR n L) := rfl
  generalize headF n (chR n L) = hd at *
  generalize rdf n = f at *
  generalize chR n L = cs at *
  clear hl hg h hcap
  generalize L.length = m at *
  go_enter Try.func49, Try.ntmps49
  go_wp2_with (first | (refine wpList_load_row rfl 47 _ rfl _ rfl 47 _ _ _ (HR0.out) Try.underlying47 rfl (by kernel_rfl) ?_) | fail)
  refine (HC.out _ (HT.out.kept HB0.out)).mono ?_
  rintro e w1 ⟨u1, rfl, hn1, hb1⟩
  have HB1 := Lib.hid (HB0.out.trans (hb1.mono HB0.out.size))
  have HN1 := Lib.hid hn1
  obtain ⟨a1, k1, rfl, -, -⟩ := hn1.view rfl
  clear hb1 hn1
  have HL2 := Lib.hid (RowAt.new w1 99 (leadV (.slice a1 cs.length k1) f))
  have HB2 := Lib.hid (HB1.out.alloc HB1.out.size (.cells (leadV (.slice a1 cs.length k1) f) 99))
  have HN2 := Lib.hid (HN1.out.kept ((Below.refl _ _).alloc (Nat.le_refl _) (.cells (leadV (.slice a1 cs.length k1) f) 99)))
  have HHD := Lib.hid (fun w h => head_any n (.slice a1 cs.length k1) cs f hrd hrows h40 w h)
  have hend := isRow_end hrows hrd
  rw [hHF] at HHD hend
  obtain ⟨l1, hl1⟩ : ∃ l1, cs.length = l1 := ⟨_, rfl⟩
  rw [hl1] at HHD HL2 HB2 HN2 ⊢
  clear hHF HB1 HN1 hrows h40 h1
  simp only [leadV] at HL2 HB2 HN2 HHD ⊢
  go_wp2_with (first | (refine wpList_store_row rfl 99 _ _ rfl _ _ rfl rfl 99 _ (heap_at _ _ _ (by simp)) (by kernel_rfl) rfl (by kernel_rfl) ?_; rw [setRow_at _ _ _ _ _ (by simp)]) | (refine wpList_load_row rfl 99 _ rfl _ rfl 99 _ _ _ (HL2.out) Try.underlying99 rfl (by kernel_rfl) ?_) | fail)
  refine (HHD.out _ HN2.out.digs).mono ?_
  rintro e w3 ⟨rfl, hb3⟩
  have HB3 := Lib.hid (HB2.out.trans (hb3.mono HB2.out.size))
  clear hb3 HB2 HN2 HHD
  go_wp2_with fail
  refine (row_any n hd (isDig_of hend) _).mono ?_
  rintro e w4 ⟨rfl, hb4⟩
  have HB4 := Lib.hid (HB3.out.trans (hb4.mono HB3.out.size))
  clear hb4
  go_wp2
  go_ret2
  exact ⟨rfl, HB4.out⟩

set_option maxRecDepth 100000 in
set_option maxHeartbeats 1000000 in
theorem iLeadsIn_no (s : ByteArray) (hs : s.size ≤ maxLen) (n : Int) (v : Value) (L : List (List Nat)) (w : World) (h : Txts w v L) (hl : L.length ≤ 2000000) (hg : goodM s n L = false) :
    Calls Try.prog 57 #[.agg #[.string s, .int .i64 n, v]] w fun e w' => e = .returned (.tuple #[.int .i64 0, .bool false]) ∧ Below w.heap.size w w' := by
  obtain ⟨a, cap, rfl, hcap, -⟩ := id h
  have HT := Lib.hid h
  have HR0 := Lib.hid (RowAt.new w 47 #[.string s, .int .i64 n, .slice a L.length cap])
  have HB0 := Lib.hid ((Below.refl _ w).alloc (Nat.le_refl _) (.cells #[.string s, .int .i64 n, .slice a L.length cap] 47))
  clear h hcap
  have HC := Lib.hid (fun w h => leadOf_no s hs n (.slice a L.length cap) L w h hl hg)
  clear hl hg
  generalize L.length = m at *
  go_enter Try.func57, Try.ntmps57
  go_wp2_with (first | (refine wpList_load_row rfl 47 _ rfl _ rfl 47 _ _ _ (HR0.out) Try.underlying47 rfl (by kernel_rfl) ?_) | fail)
  refine (HC.out _ (HT.out.kept HB0.out)).mono ?_
  rintro e w1 ⟨rfl, hb1⟩
  have HB1 := Lib.hid (HB0.out.trans (hb1.mono HB0.out.size))
  clear hb1
  simp only [zero9]
  go_wp2_with (first | (refine wpList_store_row rfl 99 _ _ rfl _ _ rfl rfl 99 _ (heap_at _ _ _ (by simp)) (by kernel_rfl) rfl (by kernel_rfl) ?_; rw [setRow_at _ _ _ _ _ (by simp)]) | fail)
  go_ret2
  exact ⟨rfl, HB1.out.alloc HB1.out.size _⟩

set_option maxRecDepth 100000 in
set_option maxHeartbeats 1000000 in
theorem iLeadsIn_yes (s : ByteArray) (hs : s.size ≤ maxLen) (n : Nat) (v : Value) (L : List (List Nat)) (w : World) (h : Txts w v L) (hl : L.length ≤ 2000000) (hg : goodM s n L = true) (k : Nat) (hk : IsOrd n (headF n (chR n L)) k) :
    Calls Try.prog 57 #[.agg #[.string s, .int .i64 n, v]] w fun e w' => e = .returned (.tuple #[.int .i64 k, .bool true]) ∧ Below w.heap.size w w' := by
  obtain ⟨a, cap, rfl, hcap, -⟩ := id h
  have HT := Lib.hid h
  have HR0 := Lib.hid (RowAt.new w 47 #[.string s, .int .i64 n, .slice a L.length cap])
  have HB0 := Lib.hid ((Below.refl _ w).alloc (Nat.le_refl _) (.cells #[.string s, .int .i64 n, .slice a L.length cap] 47))
  have HC := Lib.hid (fun w h => leadOf_yes s hs n (.slice a L.length cap) L w h hl hg)
  obtain ⟨h3, h8, hrows, h40, h1⟩ := goodM_nat hg
  have hrd := isRow_rdf h3 h8
  have hHF : endF n (chR n L) (rdf n) = headF n (chR n L) := rfl
  generalize headF n (chR n L) = hd at *
  generalize rdf n = f at *
  generalize chR n L = cs at *
  clear hl hg h hcap
  generalize L.length = m at *
  go_enter Try.func57, Try.ntmps57
  go_wp2_with (first | (refine wpList_load_row rfl 47 _ rfl _ rfl 47 _ _ _ (HR0.out) Try.underlying47 rfl (by kernel_rfl) ?_) | fail)
  refine (HC.out _ (HT.out.kept HB0.out)).mono ?_
  rintro e w1 ⟨u1, rfl, hn1, hb1⟩
  have HB1 := Lib.hid (HB0.out.trans (hb1.mono HB0.out.size))
  have HN1 := Lib.hid hn1
  obtain ⟨a1, k1, rfl, -, -⟩ := hn1.view rfl
  clear hb1 hn1
  have HL2 := Lib.hid (RowAt.new w1 99 (leadV (.slice a1 cs.length k1) f))
  have HB2 := Lib.hid (HB1.out.alloc HB1.out.size (.cells (leadV (.slice a1 cs.length k1) f) 99))
  have HN2 := Lib.hid (HN1.out.kept ((Below.refl _ _).alloc (Nat.le_refl _) (.cells (leadV (.slice a1 cs.length k1) f) 99)))
  have HHD := Lib.hid (fun w h => head_any n (.slice a1 cs.length k1) cs f hrd hrows h40 w h)
  have hend := isRow_end hrows hrd
  rw [hHF] at HHD hend
  obtain ⟨l1, hl1⟩ : ∃ l1, cs.length = l1 := ⟨_, rfl⟩
  rw [hl1] at HHD HL2 HB2 HN2 ⊢
  clear hHF HB1 HN1 hrows h40 h1
  simp only [leadV] at HL2 HB2 HN2 HHD ⊢
  go_wp2_with (first | (refine wpList_store_row rfl 99 _ _ rfl _ _ rfl rfl 99 _ (heap_at _ _ _ (by simp)) (by kernel_rfl) rfl (by kernel_rfl) ?_; rw [setRow_at _ _ _ _ _ (by simp)]) | (refine wpList_load_row rfl 99 _ rfl _ rfl 99 _ _ _ (HL2.out) Try.underlying99 rfl (by kernel_rfl) ?_) | fail)
  refine (HHD.out _ HN2.out.digs).mono ?_
  rintro e w3 ⟨rfl, hb3⟩
  have HB3 := Lib.hid (HB2.out.trans (hb3.mono HB2.out.size))
  clear hb3 HB2 HN2 HHD
  go_wp2_with fail
  refine (order_any n hd hend k hk _).mono ?_
  rintro e w4 ⟨rfl, hb4⟩
  have HB4 := Lib.hid (HB3.out.trans (hb4.mono HB3.out.size))
  clear hb4
  go_wp2
  go_ret2
  exact ⟨rfl, HB4.out⟩

end Go.Proofs.Ytnoepobbecobbaa
namespace Go.Proofs.Ytnoepobbecobbaa
open Go.RowKit
set_option linter.unusedSimpArgs false
set_option linter.unusedVariables false

/-- a slice of texts of its own -/
def TextsOut (L : List (List Nat)) (w : World) (e : Ending) (w' : World) : Prop := ∃ v, e = .returned v ∧ New w.heap.size w' 9 v (strs L) ∧ Below w.heap.size w w'
def blanks (k : Nat) : List Value := List.replicate k (.string ⟨#[]⟩)
theorem blanks_set (A : List (List Nat)) (l : List Nat) (k : Nat) : (strs A ++ blanks (k + 1)).set A.length (.string (txt l)) = strs (A ++ [l]) ++ blanks k := by
  unfold blanks
  rw [List.set_append_right _ _ (by rw [strs_len]; exact Nat.le_refl _), strs_len, Nat.sub_self, List.replicate_succ]
  simp [strs]

set_option maxRecDepth 100000 in
set_option maxHeartbeats 1000000 in
theorem rowTexts_any (n : Nat) (v : Value) (fs : List (Nat → Nat)) (hf : Rows n fs) (hl : fs.length ≤ 1000) (w : World) (h : Digs w v fs) :
    Calls Try.prog 80 #[v] w (TextsOut (rowsL n fs) w) := by
  obtain ⟨m, hm⟩ : ∃ m, fs.length = m := ⟨_, rfl⟩
  obtain ⟨a, cap, rfl, hcap, ha⟩ := h
  have ha : 0 < m → ∃ g off, a = some ⟨g, off, none⟩ ∧ g < w.heap.size ∧ ∀ i (h : i < fs.length), w.rangeAt g (off + i * 8) (cells8 fs[i]) := fun h0 => ha (by rw [hm]; exact h0)
  rw [hm] at hl ⊢
  have hl' : (m : Int) ≤ 1000 := by omega
  have HA := Lib.hid ha
  have HM := Lib.hid hm
  have HF := Lib.hid hf
  generalize hres : rowsL n fs = res
  have HRES := Lib.hid hres
  obtain ⟨i0, hi0, hz0, hz1, hz2⟩ := info_parts infoText
  have I0 := Lib.hid (⟨hi0, hz0, hz1, hz2⟩ : _ ∧ _ ∧ _ ∧ _)
  clear ha hm hcap hf hres hi0 hz0 hz1 hz2
  go_enter Try.func80, Try.ntmps80
  go_wp2_with (first | (at_make; refine wpList_make_full _ rfl _ _ 22 rfl w.heap.size 9 i0 (.string ⟨#[]⟩) 1 Try.underlying22 I0.out.1 I0.out.2.1 I0.out.2.2.1 .i64 .i64 _ _ m rfl rfl rfl rfl (by rw [I0.out.2.2.2]; omega) (by unfold maxLen; omega) (Nat.le_refl _) ?_) | fail)
  intro w1 hown hgrow
  have HB1 := Lib.hid ((Below.refl _ w).grown hgrow (Nat.le_refl _) (fun k hk => by cases hk))
  have HN1 : Hid (New w.heap.size w1 9 (.slice (some ⟨w.heap.size, 0, none⟩) m m) (strs [] ++ blanks m)) := Lib.hid (by
    have := hown
    rw [toList_madeCells_one] at this
    exact New.of_row this (by simp [strs, blanks]))
  clear hown hgrow
  go_wp2
  go_loopg [11] m (fun q i wr => ∃ (j : Nat) (A : List (List Nat)), q + j = m ∧ i = .int .i64 j ∧ A.length = j ∧ A ++ rowsL n (fs.drop j) = res ∧ New w.heap.size wr 9 (.slice (some ⟨w.heap.size, 0, none⟩) m m) (strs A ++ blanks q) ∧ Below w.heap.size w wr)
  case atStart => exact ⟨0, [], by omega, rfl, rfl, HRES.out, HN1.out, HB1.out⟩
  case round =>
    clear HRES HN1 HB1
    obtain ⟨j, A, hq, rfl, hA, hr, hn, hb⟩ := hrel
    have HAL := Lib.hid hA
    have HRR := Lib.hid hr
    have HN := Lib.hid hn
    have HB := Lib.hid hb
    clear hA hr hn hb
    by_cases hlt : j < m
    · obtain ⟨q', rfl⟩ : ∃ q', gk = q' + 1 := ⟨gk - 1, by omega⟩
      obtain ⟨gb, off, rfl, hgb, hc⟩ := HA.out (by omega)
      have hjx : j < fs.length := by rw [HM.out]; exact hlt
      have hr := HRR.out
      rw [List.drop_eq_getElem_cons hjx] at hr
      have hrow := HF.out _ (List.getElem_mem hjx)
      have hload := hc j hjx
      generalize fs[j] = x at *
      have HL : Hid (wr.rangeAt gb (off + j * 8) (cells8 x)) := Lib.hid (fun k u hu => (HB.out.cell (p := ⟨gb, off + j * 8 + k, none⟩) hgb).trans (hload k u hu))
      have HR2 := Lib.hid (show (A ++ [rowL n x]) ++ rowsL n (fs.drop (j + 1)) = res from by rw [← hr]; simp [rowsL])
      have hji : (j : Int) < m := by omega
      have HBX := Lib.hid (HB.out.alloc HB.out.size (.cells (dig8 x) 80))
      have HXX := Lib.hid (RowAt.new wr 80 (dig8 x))
      have HNX := Lib.hid (HN.out.kept ((Below.refl _ _).alloc (Nat.le_refl _) (.cells (dig8 x) 80)))
      have HRC := Lib.hid (row_any n x (isDig_of hrow))
      have hset := blanks_set A (rowL n x) q'
      rw [HAL.out, txt_rowL] at hset
      have HSET := Lib.hid hset
      have HLEN : Hid (A.length + q' + 1 = m) := Lib.hid (by rw [HAL.out]; omega)
      generalize strOf n x = sx at *
      clear hc hr hload hrow HRR hset
      go_wp2_with (first | (refine wpList_store_row rfl 80 _ _ rfl _ _ rfl rfl 80 _ (heap_at _ _ _ (by simp)) (by kernel_rfl) rfl (by kernel_rfl) ?_; rw [setRow_at _ _ _ _ _ (by simp)]) | (refine wpList_load8 rfl _ rfl gb (off + j * 8) rfl x HL.out ?_) | (refine wpList_load_row rfl 80 _ rfl _ rfl 80 _ _ _ (HXX.out) Try.underlying80 rfl (by kernel_rfl) ?_) | fail)
      refine (HRC.out _).mono ?_
      rintro e w5 ⟨rfl, hb5⟩
      have HB5 := Lib.hid (HBX.out.trans (hb5.mono HBX.out.size))
      have HN5 := Lib.hid (HNX.out.kept hb5)
      obtain ⟨u, hu⟩ : ∃ u, (strs A ++ blanks (q' + 1))[j]? = some u := ⟨_, List.getElem?_eq_getElem (by rw [List.length_append, strs_len, HAL.out]; simp [blanks])⟩
      have c2 := HN5.out.own.cell j u hu
      have f2 := HN5.out.own.free j
      have HN6 := Lib.hid (HN5.out.own.set j (.string sx))
      clear hb5 HBX HNX HXX HL HN HB hu
      go_wp2
      go_roundg q'
      case measure => omega
      case rel => exact ⟨j + 1, A ++ [rowL n x], by omega, by go_num, by rw [List.length_append, HAL.out]; rfl, HR2.out, ⟨by have := HN6.out; rw [HSET.out] at this; exact this, HN5.out.base⟩, HB5.out.setCell (Nat.le_refl _) _⟩
    · obtain rfl : gk = 0 := by omega
      obtain rfl : j = m := by omega
      have hr := HRR.out
      rw [List.drop_eq_nil_of_le (by rw [HM.out]; exact Nat.le_refl _)] at hr
      have hr : A = res := by rw [← hr]; simp [rowsL]
      subst hr
      have hn := HN.out
      rw [show blanks 0 = [] from rfl, List.append_nil] at hn
      have HN2 := Lib.hid hn
      clear hn HN
      go_wp2
      go_ret
      exact ⟨_, rfl, HN2.out, HB.out⟩

set_option maxRecDepth 100000 in
set_option maxHeartbeats 1000000 in
theorem course_no (n : Nat) (u : Value) (cs : List (Nat → Nat)) (f : Nat → Nat) (hf : IsRow n f) (hc : Rows n cs) (hl : cs.length ≤ 40) (h1 : 1 ≤ cs.length) (k : Nat) (hk : IsOrd n (endF n cs f) k) (hbig : ¬ k * cs.length ≤ 800) (w : World) (h : Digs w u cs) :
    Calls Try.prog 104 #[.agg (leadV u f)] w fun e w' => e = .returned (.tuple #[.slice none 0 0, .bool false]) ∧ Below w.heap.size w w' := by
  obtain ⟨a, cap, rfl, hcap, -⟩ := id h
  have HD := Lib.hid h
  have HR0 := Lib.hid (RowAt.new w 99 (leadV (.slice a cs.length cap) f))
  have HB0 := Lib.hid ((Below.refl _ w).alloc (Nat.le_refl _) (.cells (leadV (.slice a cs.length cap) f) 99))
  have hend := isRow_end hc hf
  have hk840 := hk.le
  have HHD := Lib.hid (fun w h => head_any n (.slice a cs.length cap) cs f hf hc hl w h)
  have HO := Lib.hid (order_any n (endF n cs f) hend k hk)
  generalize endF n cs f = hd at *
  clear h hcap
  have HF := Lib.hid hf
  have HC := Lib.hid hc
  clear hf hc
  obtain ⟨l1, hl1⟩ : ∃ l1, cs.length = l1 := ⟨_, rfl⟩
  rw [hl1] at HD HR0 HB0 HHD hbig hl h1 ⊢
  have HL1 := Lib.hid hl1
  have hl1' : (l1 : Int) ≤ 40 := by omega
  have hk' : (k : Int) ≤ 840 := by omega
  obtain ⟨p, hp⟩ : ∃ p, k * l1 = p := ⟨_, rfl⟩
  have hpi : (k : Int) * (l1 : Int) = p := by rw [← hp]; simp
  have hp2 : p ≤ 840 * 40 := by rw [← hp]; exact Nat.mul_le_mul hk840 hl
  rw [hp] at hbig
  clear hk hl1 hend
  go_enter Try.func104, Try.ntmps104
  go_wp2_with (first | (refine wpList_load_row rfl 99 _ rfl _ rfl 99 _ _ _ (HR0.out) Try.underlying99 rfl (by kernel_rfl) ?_) | fail)
  refine (HHD.out _ (HD.out.kept HB0.out)).mono ?_
  rintro e w1 ⟨rfl, hb1⟩
  have HB1 := Lib.hid (HB0.out.trans (hb1.mono HB0.out.size))
  have HR1 := Lib.hid (HR0.out.kept hb1)
  clear hb1 HB0 HR0
  go_wp2_with fail
  refine (HO.out _).mono ?_
  rintro e w2 ⟨rfl, hb2⟩
  have HB2 := Lib.hid (HB1.out.trans (hb2.mono HB1.out.size))
  have HR2 := Lib.hid (HR1.out.kept hb2)
  have c0 : w2.cell? ⟨w.heap.size, 0, none⟩ = some (.slice a l1 cap) := HR2.out.cell 0 rfl
  have HLR2 := Lib.hid (lead_range HR2.out)
  clear hb2 HB1 HR1 HO HHD
  have hbig' : (800 : Int) < p := by omega
  go_wp2
  go_ret2
  exact ⟨rfl, HB2.out⟩

set_option maxRecDepth 100000 in
set_option maxHeartbeats 1000000 in
theorem course_yes (n : Nat) (u : Value) (cs : List (Nat → Nat)) (f : Nat → Nat) (hf : IsRow n f) (hc : Rows n cs) (hl : cs.length ≤ 40) (h1 : 1 ≤ cs.length) (k : Nat) (hk : IsOrd n (endF n cs f) k) (hbig : k * cs.length ≤ 800) (w : World) (h : Digs w u cs) :
    Calls Try.prog 104 #[.agg (leadV u f)] w fun e w' => ∃ v, e = .returned (.tuple #[v, .bool true]) ∧ NewD w.heap.size w' v (courseF n cs k f) ∧ Below w.heap.size w w' := by
  generalize hres : courseF n cs k f = res
  have HRES := Lib.hid hres
  clear hres
  obtain ⟨a, cap, rfl, hcap, -⟩ := id h
  have HD := Lib.hid h
  have HR0 := Lib.hid (RowAt.new w 99 (leadV (.slice a cs.length cap) f))
  have HB0 := Lib.hid ((Below.refl _ w).alloc (Nat.le_refl _) (.cells (leadV (.slice a cs.length cap) f) 99))
  have hend := isRow_end hc hf
  have hk840 := hk.le
  have HHD := Lib.hid (fun w h => head_any n (.slice a cs.length cap) cs f hf hc hl w h)
  have HO := Lib.hid (order_any n (endF n cs f) hend k hk)
  generalize endF n cs f = hd at *
  clear h hcap
  have HF := Lib.hid hf
  have HC := Lib.hid hc
  clear hf hc
  obtain ⟨l1, hl1⟩ : ∃ l1, cs.length = l1 := ⟨_, rfl⟩
  rw [hl1] at HD HR0 HB0 HHD hbig hl h1 ⊢
  have HL1 := Lib.hid hl1
  have hl1' : (l1 : Int) ≤ 40 := by omega
  have hk' : (k : Int) ≤ 840 := by omega
  obtain ⟨p, hp⟩ : ∃ p, k * l1 = p := ⟨_, rfl⟩
  have hpi : (k : Int) * (l1 : Int) = p := by rw [← hp]; simp
  have hp2 : p ≤ 840 * 40 := by rw [← hp]; exact Nat.mul_le_mul hk840 hl
  rw [hp] at hbig
  clear hk hl1 hend
  go_enter Try.func104, Try.ntmps104
  go_wp2_with (first | (refine wpList_load_row rfl 99 _ rfl _ rfl 99 _ _ _ (HR0.out) Try.underlying99 rfl (by kernel_rfl) ?_) | fail)
  refine (HHD.out _ (HD.out.kept HB0.out)).mono ?_
  rintro e w1 ⟨rfl, hb1⟩
  have HB1 := Lib.hid (HB0.out.trans (hb1.mono HB0.out.size))
  have HR1 := Lib.hid (HR0.out.kept hb1)
  clear hb1 HB0 HR0
  go_wp2_with fail
  refine (HO.out _).mono ?_
  rintro e w2 ⟨rfl, hb2⟩
  have HB2 := Lib.hid (HB1.out.trans (hb2.mono HB1.out.size))
  have HR2 := Lib.hid (HR1.out.kept hb2)
  have c0 : w2.cell? ⟨w.heap.size, 0, none⟩ = some (.slice a l1 cap) := HR2.out.cell 0 rfl
  have HLR2 := Lib.hid (lead_range HR2.out)
  clear hb2 HB1 HR1 HO HHD
  have hbig' : ¬ (800 : Int) < p := by omega
  have HRF := Lib.hid (RowAt.new w2 80 (dig8 f))
  have HBF := Lib.hid (HB2.out.alloc HB2.out.size (.cells (dig8 f) 80))
  have HRL := Lib.hid (HR2.out.push (.cells (dig8 f) 80))
  have hlt := HR2.out.lt
  go_wp2_with (first | (refine wpList_load8 rfl _ rfl w.heap.size 1 rfl f HLR2.out ?_) | (refine wpList_store_row rfl 80 _ _ rfl _ _ rfl rfl 80 _ (heap_at _ _ _ (by simp)) (by kernel_rfl) rfl (by kernel_rfl) ?_; rw [setRow_at _ _ _ _ _ (by simp)]) | fail)
  go_loopg [5, 19] k (fun q rv i wr => ∃ (j : Nat) (g : Nat → Nat) (A : List (Nat → Nat)), q + j = k ∧ i = .int .i64 j ∧ A ++ courseF n cs q g = res ∧ IsRow n g ∧ A.length = j * l1 ∧ w2.heap.size < wr.heap.size ∧ NewD (w2.heap.size + 1) wr rv A ∧ RowAt wr w.heap.size 99 (leadV (.slice a l1 cap) f) ∧ RowAt wr w2.heap.size 80 (dig8 g) ∧ Below w.heap.size w wr)
  case atStart => exact ⟨0, f, [], by omega, rfl, HRES.out, HF.out, by simp, by simp, NewD.nil _ _, HRL.out, HRF.out, HBF.out⟩
  case round =>
    clear HRES HRF HBF HRL
    obtain ⟨j, g, A, hq, rfl, hr, hg, hA, hsz, hn, hrl, hrf, hb⟩ := hrel
    have HRR := Lib.hid hr
    have HG := Lib.hid hg
    have HRL := Lib.hid hrl
    have HRF := Lib.hid hrf
    have HB := Lib.hid hb
    obtain ⟨a9, c9, rfl, -, -⟩ := hn.view rfl
    have HN := Lib.hid hn
    have c0' : wr.cell? ⟨w.heap.size, 0, none⟩ = some (.slice a l1 cap) := hrl.cell 0 rfl
    clear hr hg hn hrl hrf hb c0
    by_cases hlt2 : j < k
    · obtain ⟨q', rfl⟩ : ∃ q', gk = q' + 1 := ⟨gk - 1, by omega⟩
      have hji : (j : Int) < k := by omega
      have HR3 := Lib.hid (show (A ++ leadF n cs g) ++ courseF n cs q' (endF n cs g) = res from by rw [← HRR.out]; simp [courseF])
      have hle : A.length + l1 ≤ 800 := by
        rw [hA]
        have h9 : (j + 1) * l1 ≤ k * l1 := Nat.mul_le_mul_right _ (by omega)
        rw [Nat.succ_mul] at h9
        omega
      have hA2 : (A ++ leadF n cs g).length = (j + 1) * l1 := by rw [List.length_append, leadF_len, HL1.out, hA, Nat.succ_mul]
      have HA2 := Lib.hid hA2
      have hg1 : 0 < (leadF n cs g).length := by rw [leadF_len, HL1.out]; omega
      have hgl : A.length + (leadF n cs g).length ≤ 100000 := by rw [leadF_len, HL1.out]; omega
      have HRC := Lib.hid (fun w h => rows_any n (.slice a l1 cap) cs g HG.out HC.out (by rw [HL1.out]; exact hl) w h)
      have HEC := Lib.hid (fun w h => end_any n (.slice a l1 cap) cs g HG.out HC.out (by rw [HL1.out]; exact hl) w h)
      have HGE := Lib.hid (isRow_end HC.out HG.out)
      generalize leadF n cs g = lf at *
      generalize endF n cs g = ge at *
      clear HRR hA hA2
      go_wp2_with (first | (refine wpList_load_row rfl 80 _ rfl _ rfl 80 _ _ _ (HRF.out) Try.underlying80 rfl (by kernel_rfl) ?_) | fail)
      refine (HRC.out _ (HD.out.kept HB.out)).mono ?_
      rintro e w5 ⟨v5, rfl, hn5, hb5⟩
      have HB5 := Lib.hid (HB.out.trans (hb5.mono HB.out.size))
      have HN5 := Lib.hid (HN.out.kept hb5)
      have HL5 := Lib.hid (HRL.out.kept hb5)
      have HF5 := Lib.hid (HRF.out.kept hb5)
      have HV5 := Lib.hid hn5.digs
      have hsz5 : w2.heap.size < w5.heap.size := Nat.lt_of_lt_of_le hsz hb5.size
      clear hb5 HN HRL HRF hn5 c0'
      go_wp2_with (at_builtin; refine wpList_app8 rfl (.tmp 21) (.tmp 25) 62 rfl Try.underlying62 (w2.heap.size + 1) w.heap.size (by omega) _ A lf rfl HN5.out v5 rfl HV5.out hg1 (by omega) HB5.out hgl ?_)
      intro v6 w6 hn6 hk6 hb6 hs6
      have HN6 := Lib.hid hn6
      have HB6 := Lib.hid hb6
      have HL6 := Lib.hid (hk6.row HL5.out (fun e => by have := (HN5.out.lt _ e).1; omega))
      have HF6 := Lib.hid (hk6.row HF5.out (fun e => by have := (HN5.out.lt _ e).1; omega))
      have d0 : w6.cell? ⟨w.heap.size, 0, none⟩ = some (.slice a l1 cap) := HL6.out.cell 0 rfl
      clear hn6 hk6 hb6 HN5 HB5 HL5 HF5 HV5 HRC
      go_wp2_with (first | (refine wpList_load_row rfl 80 _ rfl _ rfl 80 _ _ _ (HF6.out) Try.underlying80 rfl (by kernel_rfl) ?_) | fail)
      refine (HEC.out _ (HD.out.kept HB6.out)).mono ?_
      rintro e w7 ⟨rfl, hb7⟩
      have HN7 := Lib.hid (HN6.out.kept hb7)
      have HB7 := Lib.hid (HB6.out.trans (hb7.mono HB6.out.size))
      have HL7 := Lib.hid (HL6.out.kept hb7)
      have HF7 := Lib.hid (HF6.out.kept hb7)
      have hs7 := hb7.size
      clear hb7 HN6 HB6 HL6 HF6 d0
      go_wp2_with (first | (refine wpList_store_row rfl 80 _ _ rfl _ _ rfl rfl 80 _ (HF7.out) (by kernel_rfl) rfl (by kernel_rfl) ?_) | fail)
      go_roundg q'
      case measure => omega
      case rel => exact ⟨j + 1, ge, A ++ lf, by omega, by go_num, HR3.out, HGE.out, HA2.out, by simp [World.setRow]; omega, HN7.out.setRowOther _ _ (fun e => by have := (HN7.out.lt _ e).1; omega), HL7.out.rowOther _ (by omega), HF7.out.row _, below_setRow HB7.out (by omega) _⟩
    · obtain rfl : gk = 0 := by omega
      obtain rfl : j = k := by omega
      have hr := HRR.out
      have hr : A = res := by rw [← hr]; simp [courseF]
      subst hr
      go_wp2
      go_ret2
      exact ⟨_, rfl, HN.out.lower (by omega), HB.out⟩
end Go.Proofs.Ytnoepobbecobbaa
namespace Go.Proofs.Ytnoepobbecobbaa
open Go.RowKit
set_option linter.unusedSimpArgs false
set_option linter.unusedVariables false

/-- what leadOf gives, whether the method is good or not -/
def LeadAny (s : ByteArray) (n : Int) (L : List (List Nat)) (w : World) (e : Ending) (w' : World) : Prop :=
  ∃ a m c f, e = .returned (.tuple #[.agg (leadV (.slice a m c) f), .bool (goodM s n L)]) ∧ (goodM s n L = true → f = rdf n.toNat ∧ NewD w.heap.size w' (.slice a m c) (chR n L)) ∧ Below w.heap.size w w'
theorem leadOf_any (s : ByteArray) (hs : s.size ≤ maxLen) (n : Int) (v : Value) (L : List (List Nat)) (w : World) (h : Txts w v L) (hl : L.length ≤ 2000000) :
    Calls Try.prog 91 #[.agg #[.string s, .int .i64 n, v]] w (LeadAny s n L w) := by
  unfold LeadAny
  cases hg : goodM s n L
  · refine (leadOf_no s hs n v L w h hl hg).mono ?_
    rintro e w' ⟨rfl, hb⟩
    exact ⟨none, 0, 0, fun _ => 0, rfl, fun h => (Bool.noConfusion h), hb⟩
  · have hr := goodAll_range (goodM_parts hg).1
    obtain ⟨n, rfl⟩ := Int.eq_ofNat_of_zero_le (show 0 ≤ n by omega)
    refine (leadOf_yes s hs n v L w h hl hg).mono ?_
    rintro e w' ⟨u, rfl, hn, hb⟩
    obtain ⟨a, c, rfl, -, -⟩ := hn.view rfl
    exact ⟨a, _, c, _, rfl, fun _ => ⟨rfl, hn⟩, hb⟩

/-- whether a method's lead can be rung from a row -/
noncomputable def leadB (s : ByteArray) (n : Int) (L : List (List Nat)) (r : ByteArray) : Bool := goodM s n L && goodB r && decide ((r.size : Int) = n)
noncomputable def leadL (s : ByteArray) (n : Int) (L : List (List Nat)) (r : ByteArray) : List (List Nat) := if leadB s n L r = true then rowsL n.toNat (leadF n.toNat (chR n L) (dg r)) else []

set_option maxRecDepth 100000 in
set_option maxHeartbeats 1000000 in
theorem iLeadRows_any (s : ByteArray) (hs : s.size ≤ maxLen) (n : Int) (v : Value) (L : List (List Nat)) (r : ByteArray) (hr : r.size ≤ maxLen) (w : World) (h : Txts w v L) (hl : L.length ≤ 2000000) :
    Calls Try.prog 44 #[.agg #[.string s, .int .i64 n, v], .string r] w (TextsAny (leadL s n L r) (leadB s n L r) w) := by
  obtain ⟨a, cap, rfl, hcap, -⟩ := id h
  have HT := Lib.hid h
  have HR0 := Lib.hid (RowAt.new w 47 #[.string s, .int .i64 n, .slice a L.length cap])
  have HB0 := Lib.hid ((Below.refl _ w).alloc (Nat.le_refl _) (.cells #[.string s, .int .i64 n, .slice a L.length cap] 47))
  have HC := Lib.hid (fun w h => leadOf_any s hs n (.slice a L.length cap) L w h hl)
  have HDG := Lib.hid (digitsOf_any r hr)
  have hr' : (r.size : Int) ≤ 9223372036854775807 := by simp only [maxLen] at hr; omega
  clear h hcap hl hr
  unfold LeadAny at HC
  generalize L.length = m at *
  by_cases hok : leadB s n L r = true
  · have hb := hok
    unfold leadB at hb
    rw [Bool.and_eq_true, Bool.and_eq_true, decide_eq_true_eq] at hb
    obtain ⟨⟨hg, hgr⟩, hsz⟩ := hb
    subst hsz
    obtain ⟨h3, h8, hrows, h40, h1⟩ := goodM_nat hg
    have hL : leadL s r.size L r = rowsL r.size (leadF r.size (chR r.size L) (dg r)) := by unfold leadL; rw [if_pos hok]; rfl
    rw [hL, hok]
    rw [hg] at HC
    rw [hgr, dgF_yes hgr] at HDG
    have hrow := goodB_row hgr
    have hleads := rows_lead hrows hrow
    have hll : (leadF r.size (chR r.size L) (dg r)).length ≤ 40 := by rw [leadF_len]; exact h40
    have HRC := Lib.hid (fun v w h => rows_any r.size v (chR r.size L) (dg r) hrow hrows h40 w h)
    generalize chR r.size L = cs at *
    generalize dg r = f at *
    generalize leadF r.size cs f = lf at *
    clear hok hL hg hgr hrows h40 h1
    go_enter Try.func44, Try.ntmps44
    go_wp2_with (first | (refine wpList_load_row rfl 47 _ rfl _ rfl 47 _ _ _ (HR0.out) Try.underlying47 rfl (by kernel_rfl) ?_) | fail)
    refine (HC.out _ (HT.out.kept HB0.out)).mono ?_
    rintro e w1 ⟨a1, m1, c1, f1, rfl, hn1, hb1⟩
    replace hn1 := (hn1 trivial).2
    have HM1 := Lib.hid (HR0.out.kept hb1)
    have HB1 := Lib.hid (HB0.out.trans (hb1.mono HB0.out.size))
    have HL2 := Lib.hid (RowAt.new w1 99 (leadV (.slice a1 m1 c1) f1))
    have HM2 := Lib.hid (HM1.out.push (.cells (leadV (.slice a1 m1 c1) f1) 99))
    have HB2 := Lib.hid (HB1.out.alloc HB1.out.size (.cells (leadV (.slice a1 m1 c1) f1) 99))
    have HN2 := Lib.hid (hn1.kept ((Below.refl _ _).alloc (Nat.le_refl _) (.cells (leadV (.slice a1 m1 c1) f1) 99)))
    clear hn1 hb1 HM1 HB1 HC HB0
    simp only [leadV] at HL2 HM2 HB2 HN2 ⊢
    go_wp2_with (first | (refine wpList_store_row rfl 99 _ _ rfl _ _ rfl rfl 99 _ (heap_at _ _ _ (by simp)) (by kernel_rfl) rfl (by kernel_rfl) ?_; rw [setRow_at _ _ _ _ _ (by simp)]) | fail)
    refine (HDG.out _).mono ?_
    rintro e w3 ⟨rfl, hb3⟩
    have HM4 := Lib.hid ((HM2.out.kept hb3).push (.cells (dig8 f) 80))
    have HL4 := Lib.hid ((HL2.out.kept hb3).push (.cells (dig8 f) 80))
    have HD4 := Lib.hid (RowAt.new w3 80 (dig8 f))
    have HB3 := Lib.hid (HB2.out.trans (hb3.mono HB2.out.size))
    have HB4 := Lib.hid (HB3.out.alloc HB3.out.size (.cells (dig8 f) 80))
    have HN4 := Lib.hid ((HN2.out.kept hb3).kept ((Below.refl _ _).alloc (Nat.le_refl _) (.cells (dig8 f) 80)))
    have c1' := HM4.out.cell 1 rfl
    have c0' := HL4.out.cell 0 rfl
    clear hb3 HM2 HL2 HB2 HN2 HB3
    go_wp2_with (first | (refine wpList_store_row rfl 80 _ _ rfl _ _ rfl rfl 80 _ (heap_at _ _ _ (by simp)) (by kernel_rfl) rfl (by kernel_rfl) ?_; rw [setRow_at _ _ _ _ _ (by simp)]) | (refine wpList_load_row rfl 80 _ rfl _ rfl 80 _ _ _ (HD4.out) Try.underlying80 rfl (by kernel_rfl) ?_) | fail)
    refine (HRC.out _ _ HN4.out.digs).mono ?_
    rintro e w5 ⟨v5, rfl, hn5, hb5⟩
    have HB5 := Lib.hid (HB4.out.trans (hb5.mono HB4.out.size))
    have HV5 := Lib.hid hn5.digs
    clear hn5 hb5 HB4
    go_wp2_with fail
    refine (rowTexts_any r.size v5 lf hleads (by omega) w5 HV5.out).mono ?_
    rintro e w6 ⟨v6, rfl, hn6, hb6⟩
    have HB6 := Lib.hid (HB5.out.trans (hb6.mono HB5.out.size))
    have HN6 := Lib.hid (hn6.lower HB5.out.size)
    clear hn6 hb6
    go_wp2
    go_ret2
    exact ⟨_, rfl, HN6.out, HB6.out⟩
  · have hno : leadB s n L r = false := by simpa using hok
    have hL : leadL s n L r = [] := by unfold leadL; rw [if_neg hok]
    rw [hL, hno]
    clear hL hok
    have hcase : goodM s n L = false ∨ (goodM s n L = true ∧ goodB r = false) ∨ (goodM s n L = true ∧ goodB r = true ∧ ¬ (r.size : Int) = n) := by
      unfold leadB at hno
      cases h1 : goodM s n L
      · exact .inl rfl
      · cases h2 : goodB r
        · exact .inr (.inl ⟨rfl, rfl⟩)
        · rw [h1, h2] at hno
          exact .inr (.inr ⟨rfl, rfl, by simpa using hno⟩)
    clear hno
    generalize goodM s n L = gm at *
    generalize goodB r = gb at *
    generalize dgF r = f at *
    go_enter Try.func44, Try.ntmps44
    go_wp2_with (first | (refine wpList_load_row rfl 47 _ rfl _ rfl 47 _ _ _ (HR0.out) Try.underlying47 rfl (by kernel_rfl) ?_) | fail)
    refine (HC.out _ (HT.out.kept HB0.out)).mono ?_
    rintro e w1 ⟨a1, m1, c1, f1, rfl, -, hb1⟩
    have HM1 := Lib.hid (HR0.out.kept hb1)
    have HB1 := Lib.hid (HB0.out.trans (hb1.mono HB0.out.size))
    have HM2 := Lib.hid (HM1.out.push (.cells (leadV (.slice a1 m1 c1) f1) 99))
    have HB2 := Lib.hid (HB1.out.alloc HB1.out.size (.cells (leadV (.slice a1 m1 c1) f1) 99))
    clear hb1 HM1 HB1 HC HB0
    simp only [leadV] at HM2 HB2 ⊢
    go_wp2_with (first | (refine wpList_store_row rfl 99 _ _ rfl _ _ rfl rfl 99 _ (heap_at _ _ _ (by simp)) (by kernel_rfl) rfl (by kernel_rfl) ?_; rw [setRow_at _ _ _ _ _ (by simp)]) | fail)
    refine (HDG.out _).mono ?_
    rintro e w3 ⟨rfl, hb3⟩
    have HM4 := Lib.hid ((HM2.out.kept hb3).push (.cells (dig8 f) 80))
    have HB3 := Lib.hid (HB2.out.trans (hb3.mono HB2.out.size))
    have HB4 := Lib.hid (HB3.out.alloc HB3.out.size (.cells (dig8 f) 80))
    have c1' := HM4.out.cell 1 rfl
    clear hb3 HM2 HB2 HB3
    rcases hcase with rfl | ⟨rfl, rfl⟩ | ⟨rfl, rfl, hne⟩
    · go_wp2_with (first | (refine wpList_store_row rfl 80 _ _ rfl _ _ rfl rfl 80 _ (heap_at _ _ _ (by simp)) (by kernel_rfl) rfl (by kernel_rfl) ?_; rw [setRow_at _ _ _ _ _ (by simp)]) | fail)
      go_ret2
      exact ⟨_, rfl, New.nil _ _ _, HB4.out⟩
    · go_wp2_with (first | (refine wpList_store_row rfl 80 _ _ rfl _ _ rfl rfl 80 _ (heap_at _ _ _ (by simp)) (by kernel_rfl) rfl (by kernel_rfl) ?_; rw [setRow_at _ _ _ _ _ (by simp)]) | fail)
      go_ret2
      exact ⟨_, rfl, New.nil _ _ _, HB4.out⟩
    · have hne' : ((r.size : Int) == n) = false := by rw [beq_eq_false_iff_ne]; exact hne
      go_wp2_with (first | (refine wpList_store_row rfl 80 _ _ rfl _ _ rfl rfl 80 _ (heap_at _ _ _ (by simp)) (by kernel_rfl) rfl (by kernel_rfl) ?_; rw [setRow_at _ _ _ _ _ (by simp)]) | fail)
      go_ret2
      exact ⟨_, rfl, New.nil _ _ _, HB4.out⟩

/-- a course's texts, where there are such -/
theorem courseF_rows {n : Nat} {cs : List (Nat → Nat)} (hc : Rows n cs) : ∀ (k : Nat) (f : Nat → Nat), IsRow n f → Rows n (courseF n cs k f)
  | 0, f, hf => fun x hx => by simp [courseF] at hx
  | k + 1, f, hf => (rows_lead hc hf).app (courseF_rows hc k (endF n cs f) (isRow_end hc hf))

set_option maxRecDepth 100000 in
set_option maxHeartbeats 1000000 in
theorem iCourseRows_no (s : ByteArray) (hs : s.size ≤ maxLen) (n : Int) (v : Value) (L : List (List Nat)) (w : World) (h : Txts w v L) (hl : L.length ≤ 2000000) (hg : goodM s n L = false) :
    Calls Try.prog 55 #[.agg #[.string s, .int .i64 n, v]] w (TextsAny [] false w) := by
  obtain ⟨a, cap, rfl, hcap, -⟩ := id h
  have HT := Lib.hid h
  have HR0 := Lib.hid (RowAt.new w 47 #[.string s, .int .i64 n, .slice a L.length cap])
  have HB0 := Lib.hid ((Below.refl _ w).alloc (Nat.le_refl _) (.cells #[.string s, .int .i64 n, .slice a L.length cap] 47))
  clear h hcap
  have HC := Lib.hid (fun w h => leadOf_no s hs n (.slice a L.length cap) L w h hl hg)
  clear hl hg
  generalize L.length = m at *
  go_enter Try.func55, Try.ntmps55
  go_wp2_with (first | (refine wpList_load_row rfl 47 _ rfl _ rfl 47 _ _ _ (HR0.out) Try.underlying47 rfl (by kernel_rfl) ?_) | fail)
  refine (HC.out _ (HT.out.kept HB0.out)).mono ?_
  rintro e w1 ⟨rfl, hb1⟩
  have HB1 := Lib.hid (HB0.out.trans (hb1.mono HB0.out.size))
  clear hb1
  simp only [zero9]
  go_wp2_with (first | (refine wpList_store_row rfl 99 _ _ rfl _ _ rfl rfl 99 _ (heap_at _ _ _ (by simp)) (by kernel_rfl) rfl (by kernel_rfl) ?_; rw [setRow_at _ _ _ _ _ (by simp)]) | fail)
  go_ret2
  exact ⟨_, rfl, New.nil _ _ _, HB1.out.alloc HB1.out.size _⟩

set_option maxRecDepth 100000 in
set_option maxHeartbeats 1000000 in
theorem iCourseRows_yes (s : ByteArray) (hs : s.size ≤ maxLen) (n : Nat) (v : Value) (L : List (List Nat)) (w : World) (h : Txts w v L) (hl : L.length ≤ 2000000) (hg : goodM s n L = true) (k : Nat) (hk : IsOrd n (headF n (chR n L)) k) (kb : Bool) (hkb : kb = decide (k * L.length ≤ 800)) :
    Calls Try.prog 55 #[.agg #[.string s, .int .i64 n, v]] w (TextsAny (if kb = true then rowsL n (courseF n (chR n L) k (rdf n)) else []) kb w) := by
  obtain ⟨a, cap, rfl, hcap, -⟩ := id h
  have HT := Lib.hid h
  have HR0 := Lib.hid (RowAt.new w 47 #[.string s, .int .i64 n, .slice a L.length cap])
  have HB0 := Lib.hid ((Below.refl _ w).alloc (Nat.le_refl _) (.cells #[.string s, .int .i64 n, .slice a L.length cap] 47))
  have HC := Lib.hid (fun w h => leadOf_yes s hs n (.slice a L.length cap) L w h hl hg)
  obtain ⟨h3, h8, hrows, h40, h1⟩ := goodM_nat hg
  have hrd := isRow_rdf h3 h8
  have hk : IsOrd n (endF n (chR n L) (rdf n)) k := hk
  have hcr := courseF_rows hrows k _ hrd
  have hcl := courseF_len n (chR n L) k (rdf n)
  rw [← chR_len (n : Int) L] at hkb
  generalize rdf n = f at *
  generalize chR n L = cs at *
  clear hl hg h hcap
  generalize L.length = m at *
  cases kb
  · have hbig : ¬ k * cs.length ≤ 800 := by simpa using hkb.symm
    have HCC := Lib.hid (fun v w h => course_no n v cs f hrd hrows h40 h1 k hk hbig w h)
    clear hrows h40 h1 hk hbig hkb hcr hcl
    go_enter Try.func55, Try.ntmps55
    go_wp2_with (first | (refine wpList_load_row rfl 47 _ rfl _ rfl 47 _ _ _ (HR0.out) Try.underlying47 rfl (by kernel_rfl) ?_) | fail)
    refine (HC.out _ (HT.out.kept HB0.out)).mono ?_
    rintro e w1 ⟨u1, rfl, hn1, hb1⟩
    have HB1 := Lib.hid (HB0.out.trans (hb1.mono HB0.out.size))
    obtain ⟨a1, k1, rfl, -, -⟩ := hn1.view rfl
    have HN1 := Lib.hid hn1
    have HL2 := Lib.hid (RowAt.new w1 99 (leadV (.slice a1 cs.length k1) f))
    have HB2 := Lib.hid (HB1.out.alloc HB1.out.size (.cells (leadV (.slice a1 cs.length k1) f) 99))
    have HN2 := Lib.hid (HN1.out.kept ((Below.refl _ _).alloc (Nat.le_refl _) (.cells (leadV (.slice a1 cs.length k1) f) 99)))
    clear hb1 hn1 HN1 HB1
    generalize cs.length = l1 at *
    simp only [leadV] at HL2 HB2 HN2 HCC ⊢
    go_wp2_with (first | (refine wpList_store_row rfl 99 _ _ rfl _ _ rfl rfl 99 _ (heap_at _ _ _ (by simp)) (by kernel_rfl) rfl (by kernel_rfl) ?_; rw [setRow_at _ _ _ _ _ (by simp)]) | (refine wpList_load_row rfl 99 _ rfl _ rfl 99 _ _ _ (HL2.out) Try.underlying99 rfl (by kernel_rfl) ?_) | fail)
    refine (HCC.out _ _ HN2.out.digs).mono ?_
    rintro e w3 ⟨rfl, hb3⟩
    have HB3 := Lib.hid (HB2.out.trans (hb3.mono HB2.out.size))
    clear hb3
    go_wp2
    go_ret2
    exact ⟨_, rfl, New.nil _ _ _, HB3.out⟩
  · have hbig : k * cs.length ≤ 800 := by simpa using hkb.symm
    have HCC := Lib.hid (fun v w h => course_yes n v cs f hrd hrows h40 h1 k hk hbig w h)
    have hc9 : (courseF n cs k f).length ≤ 1000 := by rw [hcl]; omega
    have HRT := Lib.hid (fun v w h => rowTexts_any n v (courseF n cs k f) hcr hc9 w h)
    rw [if_pos rfl]
    generalize courseF n cs k f = cf at *
    clear hrows h40 h1 hk hbig hkb hcr hcl hc9
    go_enter Try.func55, Try.ntmps55
    go_wp2_with (first | (refine wpList_load_row rfl 47 _ rfl _ rfl 47 _ _ _ (HR0.out) Try.underlying47 rfl (by kernel_rfl) ?_) | fail)
    refine (HC.out _ (HT.out.kept HB0.out)).mono ?_
    rintro e w1 ⟨u1, rfl, hn1, hb1⟩
    have HB1 := Lib.hid (HB0.out.trans (hb1.mono HB0.out.size))
    obtain ⟨a1, k1, rfl, -, -⟩ := hn1.view rfl
    have HN1 := Lib.hid hn1
    have HL2 := Lib.hid (RowAt.new w1 99 (leadV (.slice a1 cs.length k1) f))
    have HB2 := Lib.hid (HB1.out.alloc HB1.out.size (.cells (leadV (.slice a1 cs.length k1) f) 99))
    have HN2 := Lib.hid (HN1.out.kept ((Below.refl _ _).alloc (Nat.le_refl _) (.cells (leadV (.slice a1 cs.length k1) f) 99)))
    clear hb1 hn1 HN1 HB1
    generalize cs.length = l1 at *
    simp only [leadV] at HL2 HB2 HN2 HCC ⊢
    go_wp2_with (first | (refine wpList_store_row rfl 99 _ _ rfl _ _ rfl rfl 99 _ (heap_at _ _ _ (by simp)) (by kernel_rfl) rfl (by kernel_rfl) ?_; rw [setRow_at _ _ _ _ _ (by simp)]) | (refine wpList_load_row rfl 99 _ rfl _ rfl 99 _ _ _ (HL2.out) Try.underlying99 rfl (by kernel_rfl) ?_) | fail)
    refine (HCC.out _ _ HN2.out.digs).mono ?_
    rintro e w3 ⟨v3, rfl, hn3, hb3⟩
    have HB3 := Lib.hid (HB2.out.trans (hb3.mono HB2.out.size))
    have HV3 := Lib.hid hn3.digs
    clear hb3 hn3
    go_wp2_with fail
    refine (HRT.out _ _ HV3.out).mono ?_
    rintro e w4 ⟨v4, rfl, hn4, hb4⟩
    have HB4 := Lib.hid (HB3.out.trans (hb4.mono HB3.out.size))
    have HN4 := Lib.hid (hn4.lower HB3.out.size)
    clear hb4 hn4
    go_wp2
    go_ret2
    exact ⟨_, rfl, HN4.out, HB4.out⟩
end Go.Proofs.Ytnoepobbecobbaa
