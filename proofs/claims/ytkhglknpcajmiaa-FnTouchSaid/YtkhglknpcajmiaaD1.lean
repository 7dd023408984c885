/- Methods in the harness: sizes, copies, equality, marks. -/
import Derived.Test.YtkhglknpcajmiaaMA
import Derived.Test.YtkhglknpcajmiaaCA
import Derived.Test.YtkhglknpcajmiaaC3
namespace Go.Proofs.Ytkhglknpcajmiaa
open Go.RowKit
set_option linter.unusedSimpArgs false
set_option linter.unusedVariables false

theorem szRest_max : ∀ (ss : List ByteArray) (left : Int), 0 ≤ left → szRest ss left ≤ left
  | [], left, _ => by simp [szRest]
  | s :: t, left, h => by
    unfold szRest
    split
    · omega
    · have := szRest_max t (left - s.size) (by omega)
      omega
theorem szAll_max (ss : List ByteArray) (left : Int) (h : 0 ≤ left) : szAll ss left ≤ left := by
  unfold szAll
  split
  · omega
  · have := szRest_max ss (left - ss.length) (by omega)
    omega

theorem New.setRowOther {B : Nat} {W : World} {e : TypeId} {v : Value} {xs : List Value} (h : New B W e v xs) (c : Nat) (cs : Array Value) (hne : v.ownBlock ≠ some c) : New B (W.setRow c cs) e v xs :=
  ⟨h.own.block fun g hg => setRow_other W c g cs (fun he => hne (he ▸ hg)), h.base⟩
def zeroM : Array Value := #[.string ⟨#[]⟩, .int .i64 0, .slice none 0 0]

set_option maxRecDepth 100000 in
set_option maxHeartbeats 1000000 in
theorem szMethod_any (s : ByteArray) (hsz : s.size ≤ maxLen) (n : Int) (v : Value) (ss : List ByteArray) (w : World) (h : Arg w v ss) (hl : ss.length ≤ maxLen) (hs : ∀ t ∈ ss, t.size ≤ maxLen) (left : Int) (h0 : 0 ≤ left) (h1 : left ≤ 1048576) :
    Calls Try.prog 66 #[.agg #[.string s, .int .i64 n, v], .int .i64 left] w fun e w' => ∃ z : Int, e = .returned (.int .i64 z) ∧ -1 ≤ z ∧ z ≤ left ∧ (0 ≤ z → (s.size : Int) ≤ left ∧ (ss.length : Int) ≤ left ∧ ∀ t ∈ ss, (t.size : Int) ≤ left) ∧ Below w.heap.size w w' := by
  obtain ⟨a, cap, rfl, -⟩ := id h
  have HT := Lib.hid h
  have HR0 := Lib.hid (RowAt.new w 65 #[.string s, .int .i64 n, .slice a ss.length cap])
  have HB0 := Lib.hid ((Below.refl _ w).alloc (Nat.le_refl _) (.cells #[.string s, .int .i64 n, .slice a ss.length cap] 65))
  have c0 := HR0.out.cell 0 rfl
  have c2 := HR0.out.cell 2 rfl
  have hsz' : (s.size : Int) ≤ 9223372036854775807 := by simp only [maxLen] at hsz; omega
  by_cases hneg : left - s.size < 0
  · clear h hl hs HT hsz
    generalize ss.length = m at *
    go_enter Try.func66, Try.ntmps66
    go_wp2
    go_ret
    exact ⟨-1, rfl, by omega, by omega, fun h => by omega, HB0.out⟩
  · have HZ := Lib.hid (fun w h => szStringS_any (.slice a ss.length cap) ss w h hl hs (left - s.size) (by omega) (by omega))
    have hm := szAll_max ss (left - s.size) (by omega)
    have hle : 0 ≤ szAll ss (left - s.size) → (s.size : Int) ≤ left ∧ (ss.length : Int) ≤ left ∧ ∀ t ∈ ss, (t.size : Int) ≤ left := fun h => by
      have e1 := szAll_len h
      have e2 := szAll_le h
      exact ⟨by omega, by omega, fun t ht => by have := e2 t ht; omega⟩
    have HLE := Lib.hid hle
    generalize szAll ss (left - s.size) = z at *
    clear h hl hs hsz hle
    generalize hmm : ss.length = m at *
    by_cases hz : z < 0
    · go_enter Try.func66, Try.ntmps66
      go_wp2_with fail
      refine (HZ.out _ (HT.out.kept HB0.out)).mono ?_
      rintro e w1 ⟨rfl, rfl⟩
      go_wp2
      go_ret
      exact ⟨-1, rfl, by omega, by omega, fun h => by omega, HB0.out⟩
    · go_enter Try.func66, Try.ntmps66
      go_wp2_with fail
      refine (HZ.out _ (HT.out.kept HB0.out)).mono ?_
      rintro e w1 ⟨rfl, rfl⟩
      go_wp2
      go_ret
      exact ⟨z, rfl, by omega, by omega, fun h => HLE.out h, HB0.out⟩

/-- a method that owns its changes -/
def MethOut (s : ByteArray) (n : Int) (L : List (List Nat)) (w : World) (e : Ending) (w' : World) : Prop :=
  ∃ v, e = .returned (.agg #[.string s, .int .i64 n, v]) ∧ New w.heap.size w' 9 v (strs L) ∧ Below w.heap.size w w'

set_option maxRecDepth 100000 in
set_option maxHeartbeats 1000000 in
theorem toMethod_any (s : ByteArray) (n : Int) (v : Value) (ss : List ByteArray) (w : World) (h : Arg w v ss) (hl : ss.length ≤ 2000000) :
    Calls Try.prog 68 #[.agg #[.string s, .int .i64 n, v]] w (MethOut s n (letss ss) w) := by
  obtain ⟨a, cap, rfl, -⟩ := id h
  have HT := Lib.hid h
  have HR0 := Lib.hid (RowAt.new w 65 #[.string s, .int .i64 n, .slice a ss.length cap])
  have c0 := HR0.out.cell 0 rfl
  have c1 := HR0.out.cell 1 rfl
  have c2 := HR0.out.cell 2 rfl
  have HS := Lib.hid (fun w h => toStringS_any (.slice a ss.length cap) ss w h hl)
  have HLN := Lib.hid (letss_len ss)
  clear h hl
  generalize letss ss = L at *
  generalize ss.length = m at *
  obtain ⟨w0, hw0⟩ : ∃ w0, ((w.alloc (.cells #[.string s, .int .i64 n, .slice a m cap] 65)).alloc (.cells #[.string ⟨#[]⟩, .int .i64 0, .slice none 0 0] 25)).alloc (.cells #[.string s, .int .i64 n, .slice none 0 0] 25) = w0 := ⟨_, rfl⟩
  have HX0 : Hid (RowAt w0 (w.heap.size + 1) 25 zeroM) := Lib.hid (by
    have := (RowAt.new (w.alloc (.cells #[.string s, .int .i64 n, .slice a m cap] 65)) 25 zeroM).push (.cells #[.string s, .int .i64 n, .slice none 0 0] 25)
    rw [← hw0]; simpa [zeroM] using this)
  have HY0 : Hid (RowAt w0 (w.heap.size + 1 + 1) 25 #[.string s, .int .i64 n, .slice none 0 0]) := Lib.hid (by
    have := RowAt.new ((w.alloc (.cells #[.string s, .int .i64 n, .slice a m cap] 65)).alloc (.cells #[.string ⟨#[]⟩, .int .i64 0, .slice none 0 0] 25)) 25 #[.string s, .int .i64 n, .slice none 0 0]
    rw [← hw0]; simpa using this)
  have HB0 : Hid (Below w.heap.size w w0) := Lib.hid (by
    rw [← hw0]
    exact (((Below.refl _ w).alloc (Nat.le_refl _) _).alloc (by simp) _).alloc (by simp; omega) _)
  have HW0 := Lib.hid hw0
  clear hw0
  go_enter Try.func68, Try.ntmps68
  go_wp2_with fail
  rw [HW0.out]
  refine (HS.out _ (HT.out.kept HB0.out)).mono ?_
  rintro e w1 ⟨v1, rfl, hn1, hb1⟩
  have HX1 := Lib.hid (HX0.out.kept hb1)
  have HY1 := Lib.hid (HY0.out.kept hb1)
  have HB1 := Lib.hid (HB0.out.trans (hb1.mono HB0.out.size))
  have HN1 := Lib.hid (hn1.lower HB0.out.size)
  obtain ⟨a1, k1, rfl, -⟩ := hn1.own.view
  clear HX0 HY0 HB0 hn1 hb1 c0 c1 c2 HW0
  rw [strs_len] at HN1 ⊢
  generalize L.length = m1 at *
  have d2 := HY1.out.cell 2 rfl
  have f2 := HY1.out.free 2
  have HY2 := Lib.hid (HY1.out.set 2 (.slice a1 m1 k1))
  have HX2 := Lib.hid (HX1.out.other ⟨w.heap.size + 1 + 1, 2, none⟩ (.slice a1 m1 k1) (by show w.heap.size + 1 ≠ w.heap.size + 1 + 1; omega))
  have HB2 := Lib.hid (HB1.out.setCell (p := ⟨w.heap.size + 1 + 1, 2, none⟩) (by show w.heap.size ≤ w.heap.size + 1 + 1; omega) (.slice a1 m1 k1))
  have HN2 := Lib.hid (HN1.out.setOther (w.heap.size + 1 + 1) 2 (.slice a1 m1 k1) (HN1.out.apartRow HY1.out (by decide)))
  clear HX1 HB1 HN1
  go_wp2_with (first | (refine wpList_load_row rfl 25 _ rfl _ rfl 25 _ _ _ (HY2.out) Try.underlying25 rfl (by kernel_rfl) ?_) | (refine wpList_store_row rfl 25 _ _ rfl _ _ rfl rfl 25 _ (HX2.out) (by kernel_rfl) rfl (by kernel_rfl) ?_) | fail)
  exact bodyPost_ret (results_cell_row rfl _ _ (w.heap.size + 1) 25 _ (0, 0) _ rfl (HX2.out.row _) Try.underlying25 rfl (by kernel_rfl)) rfl ⟨_, rfl, HN2.out.setRowOther _ _ (HN2.out.apartRow HX2.out (by decide)), below_setRow HB2.out (by omega) _⟩

set_option maxRecDepth 100000 in
set_option maxHeartbeats 1000000 in
theorem eqMethod_same (s : ByteArray) (n : Int) (v v' : Value) (L : List (List Nat)) (w : World) (h : Own w 9 v (strs L)) (h' : Own w 9 v' (strs L)) (hl : L.length ≤ 2000000) :
    Calls Try.prog 71 #[.agg #[.string s, .int .i64 n, v], .agg #[.string s, .int .i64 n, v']] w fun e w' => e = .returned (.bool true) ∧ Below w.heap.size w w' := by
  obtain ⟨a, cap, rfl, -⟩ := h.view
  obtain ⟨a', cap', rfl, -⟩ := h'.view
  have HT := Lib.hid h
  have HT' := Lib.hid h'
  clear h h'
  rw [strs_len] at *
  have HE := Lib.hid (fun w h h' => eqStringS_same (.slice a L.length cap) (.slice a' L.length cap') L w h h' hl)
  generalize L.length = m at *
  have HR0 := Lib.hid ((RowAt.new w 25 #[.string s, .int .i64 n, .slice a m cap]).push (.cells #[.string s, .int .i64 n, .slice a' m cap'] 25))
  have HY0 : Hid (RowAt ((w.alloc (.cells #[.string s, .int .i64 n, .slice a m cap] 25)).alloc (.cells #[.string s, .int .i64 n, .slice a' m cap'] 25)) (w.heap.size + 1) 25 #[.string s, .int .i64 n, .slice a' m cap']) := Lib.hid (by
    have := RowAt.new (w.alloc (.cells #[.string s, .int .i64 n, .slice a m cap] 25)) 25 #[.string s, .int .i64 n, .slice a' m cap']
    simpa using this)
  have HB0 := Lib.hid (((Below.refl _ w).alloc (Nat.le_refl _) (.cells #[.string s, .int .i64 n, .slice a m cap] 25)).alloc (by simp) (.cells #[.string s, .int .i64 n, .slice a' m cap'] 25))
  have c0 := HR0.out.cell 0 rfl
  have c1 := HR0.out.cell 1 rfl
  have c2 := HR0.out.cell 2 rfl
  have d0 := HY0.out.cell 0 rfl
  have d1 := HY0.out.cell 1 rfl
  have d2 := HY0.out.cell 2 rfl
  go_enter Try.func71, Try.ntmps71
  go_wp2_with fail
  refine (HE.out _ (HT.out.kept HB0.out) (HT'.out.kept HB0.out)).mono ?_
  rintro e w1 ⟨rfl, d1, rfl⟩
  go_wp2
  go_ret
  exact ⟨rfl, below_drewN HB0.out _⟩

set_option maxRecDepth 100000 in
set_option maxHeartbeats 1000000 in
theorem markMethod_any (s : ByteArray) (n : Int) (B : Nat) (v : Value) (L : List (List Nat)) (w : World) (h : New B w 9 v (strs L)) (hB : B ≤ w.heap.size) (hl : L.length ≤ 2000000) :
    Calls Try.prog 72 #[.agg #[.string s, .int .i64 n, v], .int .i64 1] w fun e w' => e = .returned (.int .i64 (1 + (L.length : Nat))) ∧ New B w' 9 v (strs (smarks 1 L.length)) ∧ Below B w w' ∧ KeptBut w w' v := by
  obtain ⟨a, cap, rfl, -⟩ := h.own.view
  have HT := Lib.hid h
  clear h
  rw [strs_len] at *
  have HM := Lib.hid (fun w h hB => markStringS_full B (.slice a L.length cap) L 1 w h hB hl (by omega) (by omega))
  generalize L.length = m at *
  have HR0 := Lib.hid (RowAt.new w 25 #[.string s, .int .i64 n, .slice a m cap])
  have HB0 := Lib.hid ((Below.refl _ w).alloc (Nat.le_refl _) (.cells #[.string s, .int .i64 n, .slice a m cap] 25))
  have c2 := HR0.out.cell 2 rfl
  go_enter Try.func72, Try.ntmps72
  go_wp2_with fail
  refine (HM.out _ (HT.out.kept HB0.out) (Nat.le_trans hB HB0.out.size)).mono ?_
  rintro e w1 ⟨rfl, hn1, hb1, hk1⟩
  go_wp2
  go_ret
  exact ⟨by go_num, hn1, (HB0.out.mono hB).trans hb1, fun k hk hne => (hk1 k (Nat.lt_of_lt_of_le hk HB0.out.size) hne).trans (HB0.out.block k hk)⟩

end Go.Proofs.Ytkhglknpcajmiaa
