/- StartAt in the program. -/
import Derived.Test.YtfocnflnpabmkaaD16
import Derived.StillTailTactics
namespace Go.Proofs.Ytfocnflnpabmkaa
open Go.RowKit
set_option linter.unusedSimpArgs false
set_option linter.unusedVariables false

theorem concat2_any (gb : Nat) (a1 a2 : Addr) (c1 c2 : Nat) (X Y : List (List Nat)) (W : World) (h1 : W.cell? ⟨gb, 0, none⟩ = some (.slice (some a1) X.length c1)) (h2 : W.cell? ⟨gb, 1, none⟩ = some (.slice (some a2) Y.length c2))
    (t1 : Txts W (.slice (some a1) X.length c1) X) (t2 : Txts W (.slice (some a2) Y.length c2) Y) (h0 : 0 < X.length + Y.length) (hl : X.length + Y.length ≤ 1000) :
    Calls Try.prog 63 #[.slice (some ⟨gb, 0, none⟩) 2 2] W (TextsOut (X ++ Y) W) := by
  have e : catL (fun i => if i = 0 then X else Y) 2 = X ++ Y := by simp [catL, List.range_succ]
  have := concat_any gb (fun i => if i = 0 then a1 else a2) (fun i => if i = 0 then c1 else c2) (fun i => if i = 0 then X else Y) W (fun i hi => by
    have : i = 0 ∨ i = 1 := by omega
    rcases this with rfl | rfl
    · exact h1
    · exact h2) (fun i hi => by
    have : i = 0 ∨ i = 1 := by omega
    rcases this with rfl | rfl
    · exact t1
    · exact t2) (by rw [e, List.length_append]; exact h0) (by rw [e, List.length_append]; exact hl)
  rwa [e] at this

/-- a good method and an index of it -/
def startB (s : ByteArray) (n : Int) (L : List (List Nat)) (k : Int) : Bool := goodM s n L && (decide (0 ≤ k) && decide (k < L.length))

set_option maxRecDepth 100000 in
set_option maxHeartbeats 1000000 in
theorem iStartAt_no (s : ByteArray) (hs : s.size ≤ maxLen) (n : Int) (v : Value) (L : List (List Nat)) (k : Int) (w : World) (h : Txts w v L) (hl : L.length ≤ 2000000) (hg : startB s n L k = false) :
    Calls Try.prog 18 #[.agg #[.string s, .int .i64 n, v], .int .i64 k] w (MethAny ⟨#[]⟩ 0 [] false w) := by
  obtain ⟨a, cap, rfl, hcap, -⟩ := id h
  have HT := Lib.hid h
  have HR0 := Lib.hid ((RowAt.new w 26 #[.string s, .int .i64 n, .slice a L.length cap]).push (.cells zeroM 26))
  have HZ0 : Hid (RowAt ((w.alloc (.cells #[.string s, .int .i64 n, .slice a L.length cap] 26)).alloc (.cells zeroM 26)) (w.heap.size + 1) 26 zeroM) := Lib.hid (by
    have := RowAt.new (w.alloc (.cells #[.string s, .int .i64 n, .slice a L.length cap] 26)) 26 zeroM
    simpa using this)
  have HB0 := Lib.hid (((Below.refl _ w).alloc (Nat.le_refl _) (.cells #[.string s, .int .i64 n, .slice a L.length cap] 26)).alloc (by simp) (.cells zeroM 26))
  have HG := Lib.hid (fun w h => iGoodMethod_any s hs n (.slice a L.length cap) L w h hl)
  have hcase : goodM s n L = false ∨ (goodM s n L = true ∧ k < 0) ∨ (goodM s n L = true ∧ ¬ k < 0 ∧ (L.length : Int) ≤ k) := by
    unfold startB at hg
    cases h1 : goodM s n L
    · exact .inl rfl
    · rw [h1, Bool.true_and, Bool.and_eq_false_iff, decide_eq_false_iff_not, decide_eq_false_iff_not] at hg
      rcases hg with hg | hg
      · exact .inr (.inl ⟨rfl, by omega⟩)
      · rcases Int.lt_or_le k 0 with h2 | h2
        · exact .inr (.inl ⟨rfl, h2⟩)
        · exact .inr (.inr ⟨rfl, by omega, by omega⟩)
  clear h hcap hg
  have hl' : (L.length : Int) ≤ 2000000 := by omega
  clear hl
  generalize goodM s n L = gm at *
  generalize L.length = m at *
  go_enter Try.func18, Try.ntmps18
  go_wp2_with (first | (refine wpList_load_row rfl 26 _ rfl _ rfl 26 _ _ _ (HR0.out) Try.underlying26 rfl (by kernel_rfl) ?_) | fail)
  refine (HG.out _ (HT.out.kept HB0.out)).mono ?_
  rintro e w1 ⟨rfl, hb1⟩
  have HR1 := Lib.hid (HR0.out.kept hb1)
  have HZ1 := Lib.hid (HZ0.out.kept hb1)
  have HB1 := Lib.hid (HB0.out.trans (hb1.mono HB0.out.size))
  have c2 := HR1.out.cell 2 rfl
  clear hb1
  rcases hcase with rfl | ⟨rfl, h1⟩ | ⟨rfl, h1, h2⟩
  all_goals
    go_wp2_with (first | (refine wpList_store_row rfl 26 _ _ rfl _ _ rfl rfl 26 _ (HZ1.out) (by kernel_rfl) rfl (by kernel_rfl) ?_) | fail)
    exact bodyPost_ret (results_row_tmp rfl _ _ (w.heap.size + 1) 26 _ (0, 0) _ rfl (HZ1.out.row _) Try.underlying26 rfl (by kernel_rfl)) rfl ⟨_, rfl, New.nil _ _ _, below_setRow HB1.out (by omega) _⟩

set_option maxRecDepth 100000 in
set_option maxHeartbeats 1000000 in
theorem iStartAt_yes (s : ByteArray) (hs : s.size ≤ maxLen) (n : Int) (v : Value) (L : List (List Nat)) (k : Nat) (w : World) (h : Txts w v L) (hl : L.length ≤ 2000000) (hg : goodM s n L = true) (hk : k < L.length) :
    Calls Try.prog 18 #[.agg #[.string s, .int .i64 n, v], .int .i64 k] w (MethAny s n (L.drop k ++ L.take k) true w) := by
  have hlen := goodAll_len (goodM_parts hg).1
  obtain ⟨a, cap, rfl, hcap, ha⟩ := id h
  obtain ⟨gl, off, rfl, hgl, hcl⟩ := ha (by omega)
  have hs1 := fun W' => slice_l1 gl off L.length cap k hk hcap W'
  have hs2 := fun W' => slice_h1 gl off L.length cap k (by omega) hcap (by omega) W'
  have ht1 : Txts w (.slice (some ⟨gl, off + k, none⟩) (L.length - k) (cap - k)) (L.drop k) := ⟨some ⟨gl, off + k, none⟩, cap - k, by simp, by simp; omega, fun h0 => ⟨gl, off + k, rfl, hgl, fun j hj => by
    simp at hj
    rw [Nat.add_assoc, hcl (k + j) (by omega)]
    simp [List.getD_eq_getElem?_getD]⟩⟩
  have ht2 : Txts w (.slice (some ⟨gl, off, none⟩) k cap) (L.take k) := ⟨some ⟨gl, off, none⟩, cap, by rw [List.length_take, Nat.min_eq_left (by omega)], by rw [List.length_take]; omega, fun h0 => ⟨gl, off, rfl, hgl, fun j hj => by
    have hj2 : j < k := by simp at hj; omega
    rw [hcl j (by omega)]
    simp [List.getD_eq_getElem?_getD, List.getElem?_take, hj2]⟩⟩
  have hx : (L.drop k).length = L.length - k := by simp
  have hy : (L.take k).length = k := by simp; omega
  have HT := Lib.hid h
  have HT1 := Lib.hid ht1
  have HT2 := Lib.hid ht2
  have HR0 := Lib.hid ((RowAt.new w 26 #[.string s, .int .i64 n, .slice (some ⟨gl, off, none⟩) L.length cap]).push (.cells zeroM 26))
  have HZ0 : Hid (RowAt ((w.alloc (.cells #[.string s, .int .i64 n, .slice (some ⟨gl, off, none⟩) L.length cap] 26)).alloc (.cells zeroM 26)) (w.heap.size + 1) 26 zeroM) := Lib.hid (by
    have := RowAt.new (w.alloc (.cells #[.string s, .int .i64 n, .slice (some ⟨gl, off, none⟩) L.length cap] 26)) 26 zeroM
    simpa using this)
  have HB0 := Lib.hid (((Below.refl _ w).alloc (Nat.le_refl _) (.cells #[.string s, .int .i64 n, .slice (some ⟨gl, off, none⟩) L.length cap] 26)).alloc (by simp) (.cells zeroM 26))
  have HG := Lib.hid (fun w h => iGoodMethod_any s hs n (.slice (some ⟨gl, off, none⟩) L.length cap) L w h hl)
  rw [hg] at HG
  obtain ⟨X, hX⟩ : ∃ X, L.drop k = X := ⟨_, rfl⟩
  obtain ⟨Y, hY⟩ : ∃ Y, L.take k = Y := ⟨_, rfl⟩
  rw [hX] at HT1 hx ⊢
  rw [hY] at HT2 hy ⊢
  obtain ⟨m, hm⟩ : ∃ m, L.length = m := ⟨_, rfl⟩
  rw [hm] at HT HT1 HR0 HZ0 HB0 HG hlen hk hs1 hs2 hx
  rw [hm]
  have HXL := Lib.hid hx
  have HYL := Lib.hid hy
  have hm40 : (m : Int) ≤ 40 := by omega
  have hkm : (k : Int) < m := by omega
  have hk0 : ¬ ((k : Int) < 0) := by omega
  have hk1 : (0 : Int) ≤ k := by omega
  clear h hcap hl hg hm ha hcl ht1 ht2 hX hY hx hy
  go_enter Try.func18, Try.ntmps18
  go_wp2_with (first | (refine wpList_load_row rfl 26 _ rfl _ rfl 26 _ _ _ (HR0.out) Try.underlying26 rfl (by kernel_rfl) ?_) | fail)
  refine (HG.out _ (HT.out.kept HB0.out)).mono ?_
  rintro e w1 ⟨rfl, hb1⟩
  have HR1 := Lib.hid (HR0.out.kept hb1)
  have HZ1 := Lib.hid (HZ0.out.kept hb1)
  have HB1 := Lib.hid (HB0.out.trans (hb1.mono HB0.out.size))
  have hwb : w.heap.size + 1 < w1.heap.size := HZ1.out.lt
  clear hb1 HR0 HZ0 HB0 HG
  have c2 := HR1.out.cell 2 rfl
  have f2 := HR1.out.free 2
  go_wp2
  obtain ⟨o3, ho3⟩ : ∃ o3, Obj.cells #[.slice (some ⟨gl, off + k, none⟩) (m - k) (cap - k), .slice (some ⟨gl, off, none⟩) k cap] 24 = o3 := ⟨_, rfl⟩
  have hal := below_drewN ((Below.refl w1.heap.size w1).alloc (Nat.le_refl _) o3) 1
  have HR3 := Lib.hid (HR1.out.kept hal)
  have HZ3 := Lib.hid (HZ1.out.kept hal)
  have HB3 := Lib.hid (HB1.out.trans (hal.mono HB1.out.size))
  have HG3 : Hid (RowAt ((w1.alloc o3).drewN 1) w1.heap.size 24 #[.slice (some ⟨gl, off + k, none⟩) (m - k) (cap - k), .slice (some ⟨gl, off, none⟩) k cap]) := Lib.hid (by rw [← ho3]; exact (RowAt.new w1 _ _).drewN 1)
  have HCC : Hid (Calls Try.prog 63 #[.slice (some ⟨w1.heap.size, 0, none⟩) 2 2] (w1.alloc o3).drew (TextsOut (X ++ Y) (w1.alloc o3).drew)) := Lib.hid (concat2_any w1.heap.size ⟨gl, off + k, none⟩ ⟨gl, off, none⟩ (cap - k) cap X Y ((w1.alloc o3).drewN 1) (by rw [HXL.out]; exact HG3.out.cell 0 rfl) (by rw [HYL.out]; exact HG3.out.cell 1 rfl) (by rw [HXL.out]; exact HT1.out.kept HB3.out) (by rw [HYL.out]; exact HT2.out.kept HB3.out) (by rw [HXL.out, HYL.out]; omega) (by rw [HXL.out, HYL.out]; omega))
  subst ho3
  unfold TextsOut at HCC
  have e2 := HR3.out.cell 2 rfl
  clear hal HG3 HT HT1 HT2
  go_region_law (first | (go_simp; go_at_call 63; refine HCC.out.mono ?_; rintro e5 w5 ⟨v5, rfl, hn5, hb5⟩; obtain ⟨a5, k5, hv5, -⟩ := hn5.own.view; rw [strs_len, List.length_append] at hv5; subst hv5; have cz := (HR3.out.kept hb5).cell 2 rfl; have fz := (HR3.out.kept hb5).free 2) | fail)
  all_goals
    have HR5 := Lib.hid (HR3.out.kept hb5)
    have HZ5 := Lib.hid (HZ3.out.kept hb5)
    have HB5 := Lib.hid (HB3.out.trans (hb5.mono HB3.out.size))
    have HN5 := Lib.hid (hn5.lower (B' := w.heap.size) HB3.out.size)
    have HR6 := Lib.hid (HR5.out.set 2 (.slice a5 (X.length + Y.length) k5))
    have HZ6 := Lib.hid (HZ5.out.other ⟨w.heap.size, 2, none⟩ (.slice a5 (X.length + Y.length) k5) (by show w.heap.size + 1 ≠ w.heap.size; omega))
    have HB6 := Lib.hid (HB5.out.setCell (p := ⟨w.heap.size, 2, none⟩) (Nat.le_refl _) (.slice a5 (X.length + Y.length) k5))
    have HN6 := Lib.hid (HN5.out.setOther w.heap.size 2 (.slice a5 (X.length + Y.length) k5) (HN5.out.apartRow HR5.out (by decide)))
    clear HR3 HZ3 HB3 HR5 HZ5 HB5 HN5 hn5 hb5 cz fz e2 c2 f2 HCC hs1 hs2 HR1 HZ1 HB1
    go_wp2_with (first | (refine wpList_load_row rfl 26 _ rfl _ rfl 26 _ _ _ (HR6.out) Try.underlying26 rfl (by kernel_rfl) ?_) | (refine wpList_store_row rfl 26 _ _ rfl _ _ rfl rfl 26 _ (HZ6.out) (by kernel_rfl) rfl (by kernel_rfl) ?_) | fail)
    exact bodyPost_ret (results_row_tmp rfl _ _ (w.heap.size + 1) 26 _ (0, 0) _ rfl (HZ6.out.row _) Try.underlying26 rfl (by kernel_rfl)) rfl ⟨_, rfl, HN6.out.setRowOther _ _ (HN6.out.apartRow HZ6.out (by decide)), below_setRow HB6.out (by omega) _⟩
end Go.Proofs.Ytfocnflnpabmkaa
