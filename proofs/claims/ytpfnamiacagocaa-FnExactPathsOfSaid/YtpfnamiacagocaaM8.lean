/- Methods in the program: GoodMethod, LeadHead, LeadsIn, HuntBells. -/
import Derived.Test.YtpfnamiacagocaaM7
namespace Go.Proofs.Ytpfnamiacagocaa
open Go.RowKit
set_option linter.unusedSimpArgs false
set_option linter.unusedVariables false

theorem lead_range {W : World} {b : Nat} {T : TypeId} {u : Value} {f : Nat → Nat} (h : RowAt W b T (leadV u f)) : W.rangeAt b 1 (cells8 f) := by
  intro j v hv
  have hj : j < 8 := (List.getElem?_eq_some_iff.1 hv).1
  refine h.cell (1 + j) ?_
  have : j = 0 ∨ j = 1 ∨ j = 2 ∨ j = 3 ∨ j = 4 ∨ j = 5 ∨ j = 6 ∨ j = 7 := by omega
  rcases this with rfl | rfl | rfl | rfl | rfl | rfl | rfl | rfl <;> exact hv

set_option maxRecDepth 100000 in
set_option maxHeartbeats 1000000 in
theorem head_any (n : Nat) (u : Value) (cs : List (Nat → Nat)) (f : Nat → Nat) (hf : IsRow n f) (hc : Rows n cs) (hl : cs.length ≤ 40) (w : World) (h : Digs w u cs) :
    Calls Try.prog 72 #[.agg (leadV u f)] w fun e w' => e = .returned (.agg (dig8 (endF n cs f))) ∧ Below w.heap.size w w' := by
  obtain ⟨a, cap, rfl, hcap, -⟩ := id h
  have HD := Lib.hid h
  have HR0 := Lib.hid ((RowAt.new w 70 (leadV (.slice a cs.length cap) f)).push (.cells zero8 68))
  have HZ0 : Hid (RowAt ((w.alloc (.cells (leadV (.slice a cs.length cap) f) 70)).alloc (.cells zero8 68)) (w.heap.size + 1) 68 zero8) := Lib.hid (by
    have := RowAt.new (w.alloc (.cells (leadV (.slice a cs.length cap) f) 70)) 68 zero8
    simpa using this)
  have HB0 := Lib.hid (((Below.refl _ w).alloc (Nat.le_refl _) (.cells (leadV (.slice a cs.length cap) f) 70)).alloc (by simp) (.cells zero8 68))
  have c0 := HR0.out.cell 0 rfl
  have HL := Lib.hid (lead_range HR0.out)
  have HC := Lib.hid (fun w h => end_any n (.slice a cs.length cap) cs f hf hc hl w h)
  generalize endF n cs f = res at *
  generalize cs.length = m at *
  clear h hcap
  simp only [leadV, zero8] at *
  go_enter Try.func72, Try.ntmps72
  go_wp2_with (first | (refine wpList_load8 rfl _ rfl w.heap.size 1 rfl f HL.out ?_) | fail)
  refine (HC.out _ (HD.out.kept HB0.out)).mono ?_
  rintro e w1 ⟨rfl, hb1⟩
  have HZ1 := Lib.hid (HZ0.out.kept hb1)
  have HB1 := Lib.hid (HB0.out.trans (hb1.mono HB0.out.size))
  clear hb1
  go_wp2_with (first | (refine wpList_store_row rfl 68 _ _ rfl _ _ rfl rfl 68 _ (HZ1.out) (by kernel_rfl) rfl (by kernel_rfl) ?_) | fail)
  exact bodyPost_ret (results_cell_row rfl _ _ (w.heap.size + 1) 68 (dig8 res) (0, 0) _ rfl (HZ1.out.row _) Try.underlying68 rfl (by kernel_rfl)) rfl ⟨rfl, below_setRow HB1.out (by omega) _⟩

theorem goodM_nat {s : ByteArray} {n : Nat} {L : List (List Nat)} (h : goodM s n L = true) : 3 ≤ n ∧ n ≤ 8 ∧ Rows n (chR n L) ∧ (chR n L).length ≤ 40 ∧ 1 ≤ (chR n L).length := by
  have h1 := (goodM_parts h).1
  have h2 := goodAll_range h1
  have h3 := goodAll_len h1
  rw [chR_len]
  exact ⟨by omega, by omega, goodAll_rows h1, h3.2, h3.1⟩

set_option maxRecDepth 100000 in
set_option maxHeartbeats 1000000 in
theorem iLeadHead_no (s : ByteArray) (hs : s.size ≤ maxLen) (n : Int) (v : Value) (L : List (List Nat)) (w : World) (h : Txts w v L) (hl : L.length ≤ 2000000) (hg : goodM s n L = false) :
    Calls Try.prog 21 #[.agg #[.string s, .int .i64 n, v]] w fun e w' => e = .returned (.tuple #[.string ⟨#[]⟩, .bool false]) ∧ Below w.heap.size w w' := by
  obtain ⟨a, cap, rfl, hcap, -⟩ := id h
  have HT := Lib.hid h
  have HR0 := Lib.hid (RowAt.new w 26 #[.string s, .int .i64 n, .slice a L.length cap])
  have HB0 := Lib.hid ((Below.refl _ w).alloc (Nat.le_refl _) (.cells #[.string s, .int .i64 n, .slice a L.length cap] 26))
  clear h hcap
  have HC := Lib.hid (fun w h => leadOf_no s hs n (.slice a L.length cap) L w h hl hg)
  clear hl hg
  generalize L.length = m at *
  go_enter Try.func21, Try.ntmps21
  go_wp2_with (first | (refine wpList_load_row rfl 26 _ rfl _ rfl 26 _ _ _ (HR0.out) Try.underlying26 rfl (by kernel_rfl) ?_) | fail)
  refine (HC.out _ (HT.out.kept HB0.out)).mono ?_
  rintro e w1 ⟨rfl, hb1⟩
  have HB1 := Lib.hid (HB0.out.trans (hb1.mono HB0.out.size))
  clear hb1
  simp only [zero9]
  go_wp2_with (first | (refine wpList_store_row rfl 70 _ _ rfl _ _ rfl rfl 70 _ (heap_at _ _ _ (by simp)) (by kernel_rfl) rfl (by kernel_rfl) ?_; rw [setRow_at _ _ _ _ _ (by simp)]) | fail)
  go_ret2
  exact ⟨rfl, HB1.out.alloc HB1.out.size _⟩

set_option maxRecDepth 100000 in
set_option maxHeartbeats 1000000 in
theorem iLeadHead_yes (s : ByteArray) (hs : s.size ≤ maxLen) (n : Nat) (v : Value) (L : List (List Nat)) (w : World) (h : Txts w v L) (hl : L.length ≤ 2000000) (hg : goodM s n L = true) :
    Calls Try.prog 21 #[.agg #[.string s, .int .i64 n, v]] w fun e w' => e = .returned (.tuple #[.string (strOf n (headF n (chR n L))), .bool true]) ∧ Below w.heap.size w w' := by
  obtain ⟨a, cap, rfl, hcap, -⟩ := id h
  have HT := Lib.hid h
  have HR0 := Lib.hid (RowAt.new w 26 #[.string s, .int .i64 n, .slice a L.length cap])
  have HB0 := Lib.hid ((Below.refl _ w).alloc (Nat.le_refl _) (.cells #[.string s, .int .i64 n, .slice a L.length cap] 26))
  have HC := Lib.hid (fun w h => leadOf_yes s hs n (.slice a L.length cap) L w h hl hg)
  obtain ⟨h3, h8, hrows, h40, h1⟩ := goodM_nat hg
  have hrd := isRow_rdf h3 h8
  have hHF : endF n (chR n L) (rdf n) = headF n (chR n L) := rfl
  generalize headF n (chR n L) = hd at *
  generalize rdf n = f at *
  generalize chR n L = cs at *
  clear hl hg h hcap
  generalize L.length = m at *
  go_enter Try.func21, Try.ntmps21
  go_wp2_with (first | (refine wpList_load_row rfl 26 _ rfl _ rfl 26 _ _ _ (HR0.out) Try.underlying26 rfl (by kernel_rfl) ?_) | fail)
  refine (HC.out _ (HT.out.kept HB0.out)).mono ?_
  rintro e w1 ⟨u1, rfl, hn1, hb1⟩
  have HB1 := Lib.hid (HB0.out.trans (hb1.mono HB0.out.size))
  have HN1 := Lib.hid hn1
  obtain ⟨a1, k1, rfl, -, -⟩ := hn1.view rfl
  clear hb1 hn1
  have HL2 := Lib.hid (RowAt.new w1 70 (leadV (.slice a1 cs.length k1) f))
  have HB2 := Lib.hid (HB1.out.alloc HB1.out.size (.cells (leadV (.slice a1 cs.length k1) f) 70))
  have HN2 := Lib.hid (HN1.out.kept ((Below.refl _ _).alloc (Nat.le_refl _) (.cells (leadV (.slice a1 cs.length k1) f) 70)))
  have HHD := Lib.hid (fun w h => head_any n (.slice a1 cs.length k1) cs f hrd hrows h40 w h)
  have hend := isRow_end hrows hrd
  rw [hHF] at HHD hend
  obtain ⟨l1, hl1⟩ : ∃ l1, cs.length = l1 := ⟨_, rfl⟩
  rw [hl1] at HHD HL2 HB2 HN2 ⊢
  clear hHF HB1 HN1 hrows h40 h1
  simp only [leadV] at HL2 HB2 HN2 HHD ⊢
  go_wp2_with (first | (refine wpList_store_row rfl 70 _ _ rfl _ _ rfl rfl 70 _ (heap_at _ _ _ (by simp)) (by kernel_rfl) rfl (by kernel_rfl) ?_; rw [setRow_at _ _ _ _ _ (by simp)]) | (refine wpList_load_row rfl 70 _ rfl _ rfl 70 _ _ _ (HL2.out) Try.underlying70 rfl (by kernel_rfl) ?_) | fail)
  refine (HHD.out _ HN2.out.digs).mono ?_
  rintro e w3 ⟨rfl, hb3⟩
  have HB3 := Lib.hid (HB2.out.trans (hb3.mono HB2.out.size))
  clear hb3 HB2 HN2 HHD
  go_wp2_with fail
  refine (row_any n hd (isDig_of hend) _).mono ?_
  rintro e w4 ⟨rfl, hb4⟩
  have HB4 := Lib.hid (HB3.out.trans (hb4.mono HB3.out.size))
  clear hb4
  go_wp2
  go_ret2
  exact ⟨rfl, HB4.out⟩

set_option maxRecDepth 100000 in
set_option maxHeartbeats 1000000 in
theorem iLeadsIn_no (s : ByteArray) (hs : s.size ≤ maxLen) (n : Int) (v : Value) (L : List (List Nat)) (w : World) (h : Txts w v L) (hl : L.length ≤ 2000000) (hg : goodM s n L = false) :
    Calls Try.prog 36 #[.agg #[.string s, .int .i64 n, v]] w fun e w' => e = .returned (.tuple #[.int .i64 0, .bool false]) ∧ Below w.heap.size w w' := by
  obtain ⟨a, cap, rfl, hcap, -⟩ := id h
  have HT := Lib.hid h
  have HR0 := Lib.hid (RowAt.new w 26 #[.string s, .int .i64 n, .slice a L.length cap])
  have HB0 := Lib.hid ((Below.refl _ w).alloc (Nat.le_refl _) (.cells #[.string s, .int .i64 n, .slice a L.length cap] 26))
  clear h hcap
  have HC := Lib.hid (fun w h => leadOf_no s hs n (.slice a L.length cap) L w h hl hg)
  clear hl hg
  generalize L.length = m at *
  go_enter Try.func36, Try.ntmps36
  go_wp2_with (first | (refine wpList_load_row rfl 26 _ rfl _ rfl 26 _ _ _ (HR0.out) Try.underlying26 rfl (by kernel_rfl) ?_) | fail)
  refine (HC.out _ (HT.out.kept HB0.out)).mono ?_
  rintro e w1 ⟨rfl, hb1⟩
  have HB1 := Lib.hid (HB0.out.trans (hb1.mono HB0.out.size))
  clear hb1
  simp only [zero9]
  go_wp2_with (first | (refine wpList_store_row rfl 70 _ _ rfl _ _ rfl rfl 70 _ (heap_at _ _ _ (by simp)) (by kernel_rfl) rfl (by kernel_rfl) ?_; rw [setRow_at _ _ _ _ _ (by simp)]) | fail)
  go_ret2
  exact ⟨rfl, HB1.out.alloc HB1.out.size _⟩

set_option maxRecDepth 100000 in
set_option maxHeartbeats 1000000 in
theorem iLeadsIn_yes (s : ByteArray) (hs : s.size ≤ maxLen) (n : Nat) (v : Value) (L : List (List Nat)) (w : World) (h : Txts w v L) (hl : L.length ≤ 2000000) (hg : goodM s n L = true) (k : Nat) (hk : IsOrd n (headF n (chR n L)) k) :
    Calls Try.prog 36 #[.agg #[.string s, .int .i64 n, v]] w fun e w' => e = .returned (.tuple #[.int .i64 k, .bool true]) ∧ Below w.heap.size w w' := by
  obtain ⟨a, cap, rfl, hcap, -⟩ := id h
  have HT := Lib.hid h
  have HR0 := Lib.hid (RowAt.new w 26 #[.string s, .int .i64 n, .slice a L.length cap])
  have HB0 := Lib.hid ((Below.refl _ w).alloc (Nat.le_refl _) (.cells #[.string s, .int .i64 n, .slice a L.length cap] 26))
  have HC := Lib.hid (fun w h => leadOf_yes s hs n (.slice a L.length cap) L w h hl hg)
  obtain ⟨h3, h8, hrows, h40, h1⟩ := goodM_nat hg
  have hrd := isRow_rdf h3 h8
  have hHF : endF n (chR n L) (rdf n) = headF n (chR n L) := rfl
  generalize headF n (chR n L) = hd at *
  generalize rdf n = f at *
  generalize chR n L = cs at *
  clear hl hg h hcap
  generalize L.length = m at *
  go_enter Try.func36, Try.ntmps36
  go_wp2_with (first | (refine wpList_load_row rfl 26 _ rfl _ rfl 26 _ _ _ (HR0.out) Try.underlying26 rfl (by kernel_rfl) ?_) | fail)
  refine (HC.out _ (HT.out.kept HB0.out)).mono ?_
  rintro e w1 ⟨u1, rfl, hn1, hb1⟩
  have HB1 := Lib.hid (HB0.out.trans (hb1.mono HB0.out.size))
  have HN1 := Lib.hid hn1
  obtain ⟨a1, k1, rfl, -, -⟩ := hn1.view rfl
  clear hb1 hn1
  have HL2 := Lib.hid (RowAt.new w1 70 (leadV (.slice a1 cs.length k1) f))
  have HB2 := Lib.hid (HB1.out.alloc HB1.out.size (.cells (leadV (.slice a1 cs.length k1) f) 70))
  have HN2 := Lib.hid (HN1.out.kept ((Below.refl _ _).alloc (Nat.le_refl _) (.cells (leadV (.slice a1 cs.length k1) f) 70)))
  have HHD := Lib.hid (fun w h => head_any n (.slice a1 cs.length k1) cs f hrd hrows h40 w h)
  have hend := isRow_end hrows hrd
  rw [hHF] at HHD hend
  obtain ⟨l1, hl1⟩ : ∃ l1, cs.length = l1 := ⟨_, rfl⟩
  rw [hl1] at HHD HL2 HB2 HN2 ⊢
  clear hHF HB1 HN1 hrows h40 h1
  simp only [leadV] at HL2 HB2 HN2 HHD ⊢
  go_wp2_with (first | (refine wpList_store_row rfl 70 _ _ rfl _ _ rfl rfl 70 _ (heap_at _ _ _ (by simp)) (by kernel_rfl) rfl (by kernel_rfl) ?_; rw [setRow_at _ _ _ _ _ (by simp)]) | (refine wpList_load_row rfl 70 _ rfl _ rfl 70 _ _ _ (HL2.out) Try.underlying70 rfl (by kernel_rfl) ?_) | fail)
  refine (HHD.out _ HN2.out.digs).mono ?_
  rintro e w3 ⟨rfl, hb3⟩
  have HB3 := Lib.hid (HB2.out.trans (hb3.mono HB2.out.size))
  clear hb3 HB2 HN2 HHD
  go_wp2_with fail
  refine (order_any n hd hend k hk _).mono ?_
  rintro e w4 ⟨rfl, hb4⟩
  have HB4 := Lib.hid (HB3.out.trans (hb4.mono HB3.out.size))
  clear hb4
  go_wp2
  go_ret2
  exact ⟨rfl, HB4.out⟩

end Go.Proofs.Ytpfnamiacagocaa
