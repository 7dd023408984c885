/- TurnMethod in the program. -/
import Derived.Test.YtnoepobbecobbaaDA
import Derived.Shelf.Slices.Cells
namespace Go.Proofs.Ytnoepobbecobbaa
open Go.Shelf Go.RowKit
set_option linter.unusedSimpArgs false
set_option linter.unusedVariables false

/-- the numbers of slices.Reverse and its types -/
def rvRen : Go.Shelf.Ren := ⟨fun | 17 => 101 | n => n, fun | 0 => 0 | 3 => 3 | 4 => 4 | 9 => 9 | 24 => 22 | n => n, fun | n => n⟩
theorem lays17 : Go.Proofs.Lays2.n17 Try.prog rvRen := {
  mixed := by kernel_rfl
  f17 := Try.func101.trans (congrArg some (by kernel_rfl))
  t0 := Try.underlying0
  a0 := Try.isAgg0
  z0 := Try.sizeOf0
  v0 := Try.zeroValue0
  t3 := Try.underlying3
  a3 := Try.isAgg3
  z3 := Try.sizeOf3
  v3 := Try.zeroValue3
  t4 := Try.underlying4
  a4 := Try.isAgg4
  z4 := Try.sizeOf4
  v4 := Try.zeroValue4
  t9 := Try.underlying9
  a9 := Try.isAgg9
  z9 := Try.sizeOf9
  v9 := Try.zeroValue9
  t24 := Try.underlying22
  a24 := Try.isAgg22
  z24 := Try.sizeOf22
  v24 := Try.zeroValue22 }

theorem Own.setAll {e : TypeId} {g n cap : Nat} : ∀ (vs : List Value) (o : Nat) (xs : List Value) (W : World), o + vs.length = xs.length → Own W e (.slice (some ⟨g, 0, none⟩) n cap) xs → Own (W.setCells g o vs) e (.slice (some ⟨g, 0, none⟩) n cap) (xs.take o ++ vs)
  | [], o, xs, W, ho, h => by
    rw [List.take_of_length_le (by simp at ho; omega), List.append_nil]
    exact h
  | v :: vs, o, xs, W, ho, h => by
    have hlo : o < xs.length := by simp at ho; omega
    have := Own.setAll vs (o + 1) (xs.set o v) (W.setCell ⟨g, o, none⟩ v) (by simp at ho ⊢; omega) (h.set o v)
    rw [List.take_succ_eq_append_getElem (by simpa using hlo), List.take_set, List.set_eq_of_length_le (by simp; omega), List.getElem_set_self, List.append_assoc] at this
    exact this
theorem setCells_block (g b : Nat) (hne : g ≠ b) : ∀ (vs : List Value) (o : Nat) (W : World), (W.setCells g o vs).heap[b]? = W.heap[b]?
  | [], _, _ => rfl
  | v :: vs, o, W => (setCells_block g b hne vs (o + 1) _).trans (heap_setCell_other W ⟨g, o, none⟩ b v (fun h => hne h.symm))
theorem Below.setCells' {B g : Nat} {w : World} (hg : B ≤ g) : ∀ (vs : List Value) (o : Nat) (W : World), Below B w W → Below B w (W.setCells g o vs)
  | [], _, _, h => h
  | v :: vs, o, W, h => Below.setCells' hg vs (o + 1) _ (h.setCell (p := ⟨g, o, none⟩) hg v)

theorem reverse_any (B g n cap : Nat) (xs : List (List Nat)) (w : World) (h : New B w 9 (.slice (some ⟨g, 0, none⟩) n cap) (strs xs)) (hn : xs.length = n) (hl : n ≤ 100000) :
    Calls Try.prog 101 #[.slice (some ⟨g, 0, none⟩) n cap] w fun e w' => e = .returned (.tuple #[]) ∧ New B w' 9 (.slice (some ⟨g, 0, none⟩) n cap) (strs xs.reverse) ∧ KeptBut w w' (.slice (some ⟨g, 0, none⟩) n cap) ∧ Below B w w' := by
  subst hn
  refine (Any.slices_Reverse_string_cells lays17 g 0 xs.length cap (fun i => txt (xs.getD i [])) w (by omega) (fun i hi => ?_) (fun j hj => ?_)).mono ?_
  · rw [Nat.zero_add]
    exact h.own.cell i _ (by simp [strs, List.getD_eq_getElem?_getD, hi])
  · rw [Nat.zero_add]
    exact h.own.free j
  · rintro e w' ⟨rfl, q, rfl⟩
    have hvs : (Go.Lib.strsOf (fun i => txt (xs.getD i [])) xs.length).reverse.map encStr = strs xs.reverse := by
      apply List.ext_getElem
      · simp [Go.Lib.strsOf, strs]
      · intro i h1 h2
        simp [Go.Lib.strsOf, strs, encStr, List.getD_eq_getElem?_getD] at h1 h2 ⊢
        have : xs.length - 1 - i < xs.length := by omega
        simp [this]
    rw [hvs]
    have hgB : B ≤ g := h.base g rfl
    have ho := Own.setAll (strs xs.reverse) 0 (strs xs) (w.drewN q) (by simp [strs]) (h.own.drewN q)
    rw [List.take_zero, List.nil_append] at ho
    refine ⟨rfl, ⟨ho, h.base⟩, fun k hk hne => ?_, Below.setCells' hgB _ _ _ (below_drewN (Below.refl B w) q)⟩
    exact setCells_block g k (fun e => hne (by rw [e]; rfl)) _ _ _

/-- a method of its own, and a flag -/
def MethAny (s : ByteArray) (n : Int) (L : List (List Nat)) (b : Bool) (w : World) (e : Ending) (w' : World) : Prop :=
  ∃ v, e = .returned (.tuple #[.agg #[.string s, .int .i64 n, v], .bool b]) ∧ New w.heap.size w' 9 v (strs L) ∧ Below w.heap.size w w'

set_option maxRecDepth 100000 in
set_option maxHeartbeats 1000000 in
theorem iTurnMethod_no (s : ByteArray) (hs : s.size ≤ maxLen) (n : Int) (v : Value) (L : List (List Nat)) (w : World) (h : Txts w v L) (hl : L.length ≤ 2000000) (hg : goodM s n L = false) :
    Calls Try.prog 51 #[.agg #[.string s, .int .i64 n, v]] w (MethAny ⟨#[]⟩ 0 [] false w) := by
  obtain ⟨a, cap, rfl, hcap, -⟩ := id h
  have HT := Lib.hid h
  have HR0 := Lib.hid ((RowAt.new w 47 #[.string s, .int .i64 n, .slice a L.length cap]).push (.cells zeroM 47))
  have HZ0 : Hid (RowAt ((w.alloc (.cells #[.string s, .int .i64 n, .slice a L.length cap] 47)).alloc (.cells zeroM 47)) (w.heap.size + 1) 47 zeroM) := Lib.hid (by
    have := RowAt.new (w.alloc (.cells #[.string s, .int .i64 n, .slice a L.length cap] 47)) 47 zeroM
    simpa using this)
  have HB0 := Lib.hid (((Below.refl _ w).alloc (Nat.le_refl _) (.cells #[.string s, .int .i64 n, .slice a L.length cap] 47)).alloc (by simp) (.cells zeroM 47))
  have HG := Lib.hid (fun w h => iGoodMethod_any s hs n (.slice a L.length cap) L w h hl)
  rw [hg] at HG
  clear h hcap hl hg
  generalize L.length = m at *
  go_enter Try.func51, Try.ntmps51
  go_wp2_with (first | (refine wpList_load_row rfl 47 _ rfl _ rfl 47 _ _ _ (HR0.out) Try.underlying47 rfl (by kernel_rfl) ?_) | fail)
  refine (HG.out _ (HT.out.kept HB0.out)).mono ?_
  rintro e w1 ⟨rfl, hb1⟩
  have HZ1 := Lib.hid (HZ0.out.kept hb1)
  have HB1 := Lib.hid (HB0.out.trans (hb1.mono HB0.out.size))
  clear hb1
  go_wp2_with (first | (refine wpList_store_row rfl 47 _ _ rfl _ _ rfl rfl 47 _ (HZ1.out) (by kernel_rfl) rfl (by kernel_rfl) ?_) | fail)
  exact bodyPost_ret (results_row_tmp rfl _ _ (w.heap.size + 1) 47 _ (0, 0) _ rfl (HZ1.out.row _) Try.underlying47 rfl (by kernel_rfl)) rfl ⟨_, rfl, New.nil _ _ _, below_setRow HB1.out (by omega) _⟩

set_option maxRecDepth 100000 in
set_option maxHeartbeats 1000000 in
theorem iTurnMethod_yes (s : ByteArray) (hs : s.size ≤ maxLen) (n : Int) (v : Value) (L : List (List Nat)) (w : World) (h : Txts w v L) (hl : L.length ≤ 2000000) (hg : goodM s n L = true) :
    Calls Try.prog 51 #[.agg #[.string s, .int .i64 n, v]] w (MethAny s n L.reverse true w) := by
  obtain ⟨a, cap, rfl, hcap, -⟩ := id h
  have hlen := goodAll_len (goodM_parts hg).1
  have HT := Lib.hid h
  have HR0 := Lib.hid ((RowAt.new w 47 #[.string s, .int .i64 n, .slice a L.length cap]).push (.cells zeroM 47))
  have HZ0 : Hid (RowAt ((w.alloc (.cells #[.string s, .int .i64 n, .slice a L.length cap] 47)).alloc (.cells zeroM 47)) (w.heap.size + 1) 47 zeroM) := Lib.hid (by
    have := RowAt.new (w.alloc (.cells #[.string s, .int .i64 n, .slice a L.length cap] 47)) 47 zeroM
    simpa using this)
  have HB0 := Lib.hid (((Below.refl _ w).alloc (Nat.le_refl _) (.cells #[.string s, .int .i64 n, .slice a L.length cap] 47)).alloc (by simp) (.cells zeroM 47))
  have HG := Lib.hid (fun w h => iGoodMethod_any s hs n (.slice a L.length cap) L w h hl)
  rw [hg] at HG
  have HCL := Lib.hid (fun w h => clone_any (.slice a L.length cap) L w h (by omega))
  unfold Copied at HCL
  obtain ⟨m, hm⟩ : ∃ m, L.length = m := ⟨_, rfl⟩
  rw [hm] at HT HR0 HZ0 HB0 HG HCL hlen ⊢
  have HM := Lib.hid hm
  clear h hcap hl hg hm
  go_enter Try.func51, Try.ntmps51
  go_wp2_with (first | (refine wpList_load_row rfl 47 _ rfl _ rfl 47 _ _ _ (HR0.out) Try.underlying47 rfl (by kernel_rfl) ?_) | fail)
  refine (HG.out _ (HT.out.kept HB0.out)).mono ?_
  rintro e w1 ⟨rfl, hb1⟩
  have HR1 := Lib.hid (HR0.out.kept hb1)
  have HZ1 := Lib.hid (HZ0.out.kept hb1)
  have HB1 := Lib.hid (HB0.out.trans (hb1.mono HB0.out.size))
  have c2 := HR1.out.cell 2 rfl
  clear hb1 HR0 HZ0 HB0 HG
  go_wp2_with fail
  refine (HCL.out _ (HT.out.kept HB1.out)).mono ?_
  rintro e w2 ⟨v2, rfl, hn2, hb2⟩
  have HR2 := Lib.hid (HR1.out.kept hb2)
  have HZ2 := Lib.hid (HZ1.out.kept hb2)
  have HB2 := Lib.hid (HB1.out.trans (hb2.mono HB1.out.size))
  have HN2 := Lib.hid (hn2.lower HB1.out.size)
  obtain ⟨a2, k2, rfl, ha2⟩ := hn2.own.view
  rw [strs_len, HM.out] at HN2 ha2 ⊢
  obtain ⟨g2, rfl⟩ := ha2 (by omega)
  clear hb2 hn2 HR1 HZ1 HB1 HCL c2 ha2
  have d2 := HR2.out.cell 2 rfl
  have f2 := HR2.out.free 2
  have HR3 := Lib.hid (HR2.out.set 2 (.slice (some ⟨g2, 0, none⟩) m k2))
  have HZ3 := Lib.hid (HZ2.out.other ⟨w.heap.size, 2, none⟩ (.slice (some ⟨g2, 0, none⟩) m k2) (by show w.heap.size + 1 ≠ w.heap.size; omega))
  have HB3 := Lib.hid (HB2.out.setCell (p := ⟨w.heap.size, 2, none⟩) (Nat.le_refl _) (.slice (some ⟨g2, 0, none⟩) m k2))
  have HN3 := Lib.hid (HN2.out.setOther w.heap.size 2 (.slice (some ⟨g2, 0, none⟩) m k2) (HN2.out.apartRow HR2.out (by decide)))
  clear HZ2 HB2 HN2
  have e2 := HR3.out.cell 2 rfl
  go_wp2_with fail
  refine (reverse_any w.heap.size g2 m k2 L _ HN3.out HM.out (by omega)).mono ?_
  rintro e w4 ⟨rfl, hn4, hk4, hb4⟩
  have HR4 := Lib.hid (hk4.row HR3.out (HN3.out.apartRow HR3.out (by decide)))
  have HZ4 := Lib.hid (hk4.row HZ3.out (HN3.out.apartRow HZ3.out (by decide)))
  have HB4 := Lib.hid (HB3.out.trans hb4)
  have HN4 := Lib.hid hn4
  clear hk4 hb4 hn4 HR3 HZ3 HB3 HN3 HR2 d2 f2 e2
  go_wp2_with (first | (refine wpList_load_row rfl 47 _ rfl _ rfl 47 _ _ _ (HR4.out) Try.underlying47 rfl (by kernel_rfl) ?_) | (refine wpList_store_row rfl 47 _ _ rfl _ _ rfl rfl 47 _ (HZ4.out) (by kernel_rfl) rfl (by kernel_rfl) ?_) | fail)
  exact bodyPost_ret (results_row_tmp rfl _ _ (w.heap.size + 1) 47 _ (0, 0) _ rfl (HZ4.out.row _) Try.underlying47 rfl (by kernel_rfl)) rfl ⟨_, rfl, HN4.out.setRowOther _ _ (HN4.out.apartRow HZ4.out (by decide)), below_setRow HB4.out (by omega) _⟩
end Go.Proofs.Ytnoepobbecobbaa
