/- BetweenRows in the program and in the model, and the law on it. -/
import Derived.Test.YtkeighlcdnfjcaaB20
import Derived.Test.YtkeighlcdnfjcaaA15
namespace Go.Proofs.Ytkeighlcdnfjcaa
open Go.RowKit

/-- the row that leads from f to g -/
def quoR (n : Nat) (f g : Nat → Nat) : Nat → Nat := mulR n (invF n f) g
theorem isRow_quo {n : Nat} {f g : Nat → Nat} (hf : IsRow n f) (hg : IsRow n g) : IsRow n (quoR n f g) := isRow_mul (isRow_inv hf) hg
theorem quo_mul {n : Nat} {f c : Nat → Nat} (hf : IsRow n f) (hc : IsRow n c) : quoR n f (mulR n f c) = c := by
  unfold quoR
  rw [← mulR_assoc (isRow_inv hf) hf hc, inv_mul hf, rounds_mul hc]
theorem mul_quo {n : Nat} {f g : Nat → Nat} (hf : IsRow n f) (hg : IsRow n g) : mulR n f (quoR n f g) = g := by
  unfold quoR
  rw [← mulR_assoc hf (isRow_inv hf) hg, mul_inv hf, rounds_mul hg]
theorem lets_ch {n : Nat} {l : List Nat} (h3 : 3 ≤ n) (h8 : n ≤ 8) (h : l ∈ chs n) : lets (txt l) = l := lets_txt l fun b hb => by have := (chs_small n h3 h8 l h).2.1 b hb; omega
/-- the change between two texts, if there is one -/
noncomputable def betw (a b : ByteArray) : Option (List Nat) := if twoB a b = true then chText a.size (quoR a.size (dg a) (dg b)) else none

set_option maxRecDepth 100000 in
set_option maxHeartbeats 1000000 in
theorem iBetweenRows_yes (n : Nat) (f g : Nat → Nat) (hf : IsRow n f) (hg : IsRow n g) (w : World) :
    Calls Try.prog 17 #[.string (strOf n f), .string (strOf n g)] w fun e w' => e = .returned (chEnd (chText n (quoR n f g))) ∧ Below w.heap.size w w' := by
  have h8 := hf.eight
  have hsf := strOf_size n f
  have hsg := strOf_size n g
  have HF := Lib.hid hf
  have HG := Lib.hid hg
  clear hf hg
  have HCT := Lib.hid (changeText_any n (quoR n f g) (isRow_quo HF.out HG.out))
  generalize chText n (quoR n f g) = r at HCT ⊢
  have hne : (((strOf n f).size : Int) != ((strOf n g).size : Int)) = false := by rw [hsf, hsg]; simp
  go_enter Try.func17, Try.ntmps17
  go_wp2_with fail
  refine (digitsOf_row n f HF.out _).mono ?_
  rintro e w1 ⟨rfl, hb1⟩
  go_wp2_with (refine wpList_store_row rfl 56 _ _ rfl _ _ rfl rfl 56 _ (heap_alloc_new _ _) (by kernel_rfl) rfl (by kernel_rfl) ?_; rw [World.setRow_alloc_new])
  refine (digitsOf_row n g HG.out _).mono ?_
  rintro e w2 ⟨rfl, hb2⟩
  have hD := Lib.hid (((RowAt.new w1 56 (dig8 f)).kept hb2).push (.cells (dig8 g) 56))
  have hE := Lib.hid (RowAt.new w2 56 (dig8 g))
  have hs2 : w1.heap.size < w2.heap.size := by have := hb2.size; simp at this; omega
  have HB2 := Lib.hid ((hb1.alloc hb1.size _).trans (hb2.mono (by simp; have := hb1.size; omega)))
  have hbel := Lib.hid (HB2.out.alloc HB2.out.size (.cells (dig8 g) 56))
  clear hb1 hb2
  go_wp2_with (first | (refine wpList_store_row rfl 56 _ _ rfl _ _ rfl rfl 56 _ (heap_alloc_new _ _) (by kernel_rfl) rfl (by kernel_rfl) ?_; rw [World.setRow_alloc_new]) | (refine wpList_load_row rfl 56 _ rfl _ rfl 56 _ _ _ hD.out Try.underlying56 rfl (by kernel_rfl) ?_) | fail)
  have hcells : ∀ W : World, RowAt W w1.heap.size 56 (dig8 f) → RowAt W w2.heap.size 56 (dig8 g) → W.cell? ⟨w1.heap.size, 0, none⟩ = some (.int .u8 (f 0)) ∧ W.cell? ⟨w1.heap.size, 1, none⟩ = some (.int .u8 (f 1)) ∧ W.cell? ⟨w1.heap.size, 2, none⟩ = some (.int .u8 (f 2)) ∧ W.cell? ⟨w1.heap.size, 3, none⟩ = some (.int .u8 (f 3)) ∧ W.cell? ⟨w1.heap.size, 4, none⟩ = some (.int .u8 (f 4)) ∧ W.cell? ⟨w1.heap.size, 5, none⟩ = some (.int .u8 (f 5)) ∧ W.cell? ⟨w1.heap.size, 6, none⟩ = some (.int .u8 (f 6)) ∧ W.cell? ⟨w1.heap.size, 7, none⟩ = some (.int .u8 (f 7)) ∧ W.cell? ⟨w2.heap.size, 0, none⟩ = some (.int .u8 (g 0)) ∧ W.cell? ⟨w2.heap.size, 1, none⟩ = some (.int .u8 (g 1)) ∧ W.cell? ⟨w2.heap.size, 2, none⟩ = some (.int .u8 (g 2)) ∧ W.cell? ⟨w2.heap.size, 3, none⟩ = some (.int .u8 (g 3)) ∧ W.cell? ⟨w2.heap.size, 4, none⟩ = some (.int .u8 (g 4)) ∧ W.cell? ⟨w2.heap.size, 5, none⟩ = some (.int .u8 (g 5)) ∧ W.cell? ⟨w2.heap.size, 6, none⟩ = some (.int .u8 (g 6)) ∧ W.cell? ⟨w2.heap.size, 7, none⟩ = some (.int .u8 (g 7)) := fun W h1 h2 => ⟨h1.cell 0 rfl, h1.cell 1 rfl, h1.cell 2 rfl, h1.cell 3 rfl, h1.cell 4 rfl, h1.cell 5 rfl, h1.cell 6 rfl, h1.cell 7 rfl, h2.cell 0 rfl, h2.cell 1 rfl, h2.cell 2 rfl, h2.cell 3 rfl, h2.cell 4 rfl, h2.cell 5 rfl, h2.cell 6 rfl, h2.cell 7 rfl⟩
  generalize w2.alloc (.cells (dig8 g) 56) = w3 at *
  have HS3 := Lib.hid (show RowAt w3.drew w1.heap.size 56 (dig8 f) ∧ RowAt w3.drew w2.heap.size 56 (dig8 g) ∧ Below w.heap.size w w3.drew ∧ w3.drew.cell? ⟨w1.heap.size, 0, none⟩ = some (.int .u8 (f 0)) ∧ w3.drew.cell? ⟨w1.heap.size, 1, none⟩ = some (.int .u8 (f 1)) ∧ w3.drew.cell? ⟨w1.heap.size, 2, none⟩ = some (.int .u8 (f 2)) ∧ w3.drew.cell? ⟨w1.heap.size, 3, none⟩ = some (.int .u8 (f 3)) ∧ w3.drew.cell? ⟨w1.heap.size, 4, none⟩ = some (.int .u8 (f 4)) ∧ w3.drew.cell? ⟨w1.heap.size, 5, none⟩ = some (.int .u8 (f 5)) ∧ w3.drew.cell? ⟨w1.heap.size, 6, none⟩ = some (.int .u8 (f 6)) ∧ w3.drew.cell? ⟨w1.heap.size, 7, none⟩ = some (.int .u8 (f 7)) ∧ w3.drew.cell? ⟨w2.heap.size, 0, none⟩ = some (.int .u8 (g 0)) ∧ w3.drew.cell? ⟨w2.heap.size, 1, none⟩ = some (.int .u8 (g 1)) ∧ w3.drew.cell? ⟨w2.heap.size, 2, none⟩ = some (.int .u8 (g 2)) ∧ w3.drew.cell? ⟨w2.heap.size, 3, none⟩ = some (.int .u8 (g 3)) ∧ w3.drew.cell? ⟨w2.heap.size, 4, none⟩ = some (.int .u8 (g 4)) ∧ w3.drew.cell? ⟨w2.heap.size, 5, none⟩ = some (.int .u8 (g 5)) ∧ w3.drew.cell? ⟨w2.heap.size, 6, none⟩ = some (.int .u8 (g 6)) ∧ w3.drew.cell? ⟨w2.heap.size, 7, none⟩ = some (.int .u8 (g 7)) from ⟨hD.out, hE.out, hbel.out.drew, hcells _ hD.out hE.out⟩)
  have HSK := Lib.hid (show ∀ W W' : World, RowAt W w1.heap.size 56 (dig8 f) ∧ RowAt W w2.heap.size 56 (dig8 g) ∧ Below w.heap.size w W → Below W.heap.size W W' → RowAt W' w1.heap.size 56 (dig8 f) ∧ RowAt W' w2.heap.size 56 (dig8 g) ∧ Below w.heap.size w W' ∧ W'.cell? ⟨w1.heap.size, 0, none⟩ = some (.int .u8 (f 0)) ∧ W'.cell? ⟨w1.heap.size, 1, none⟩ = some (.int .u8 (f 1)) ∧ W'.cell? ⟨w1.heap.size, 2, none⟩ = some (.int .u8 (f 2)) ∧ W'.cell? ⟨w1.heap.size, 3, none⟩ = some (.int .u8 (f 3)) ∧ W'.cell? ⟨w1.heap.size, 4, none⟩ = some (.int .u8 (f 4)) ∧ W'.cell? ⟨w1.heap.size, 5, none⟩ = some (.int .u8 (f 5)) ∧ W'.cell? ⟨w1.heap.size, 6, none⟩ = some (.int .u8 (f 6)) ∧ W'.cell? ⟨w1.heap.size, 7, none⟩ = some (.int .u8 (f 7)) ∧ W'.cell? ⟨w2.heap.size, 0, none⟩ = some (.int .u8 (g 0)) ∧ W'.cell? ⟨w2.heap.size, 1, none⟩ = some (.int .u8 (g 1)) ∧ W'.cell? ⟨w2.heap.size, 2, none⟩ = some (.int .u8 (g 2)) ∧ W'.cell? ⟨w2.heap.size, 3, none⟩ = some (.int .u8 (g 3)) ∧ W'.cell? ⟨w2.heap.size, 4, none⟩ = some (.int .u8 (g 4)) ∧ W'.cell? ⟨w2.heap.size, 5, none⟩ = some (.int .u8 (g 5)) ∧ W'.cell? ⟨w2.heap.size, 6, none⟩ = some (.int .u8 (g 6)) ∧ W'.cell? ⟨w2.heap.size, 7, none⟩ = some (.int .u8 (g 7)) from fun W W' h hb => ⟨h.1.kept hb, h.2.1.kept hb, h.2.2.trans (hb.mono h.2.2.size), hcells _ (h.1.kept hb) (h.2.1.kept hb)⟩)
  clear hcells hD hE hbel HB2
  cases r with
  | none =>
    go_region_held3 (fun w' => RowAt w' w1.heap.size 56 (dig8 f) ∧ RowAt w' w2.heap.size 56 (dig8 g) ∧ Below w.heap.size w w' ∧ w'.cell? ⟨w1.heap.size, 0, none⟩ = some (.int .u8 (f 0)) ∧ w'.cell? ⟨w1.heap.size, 1, none⟩ = some (.int .u8 (f 1)) ∧ w'.cell? ⟨w1.heap.size, 2, none⟩ = some (.int .u8 (f 2)) ∧ w'.cell? ⟨w1.heap.size, 3, none⟩ = some (.int .u8 (f 3)) ∧ w'.cell? ⟨w1.heap.size, 4, none⟩ = some (.int .u8 (f 4)) ∧ w'.cell? ⟨w1.heap.size, 5, none⟩ = some (.int .u8 (f 5)) ∧ w'.cell? ⟨w1.heap.size, 6, none⟩ = some (.int .u8 (f 6)) ∧ w'.cell? ⟨w1.heap.size, 7, none⟩ = some (.int .u8 (f 7)) ∧ w'.cell? ⟨w2.heap.size, 0, none⟩ = some (.int .u8 (g 0)) ∧ w'.cell? ⟨w2.heap.size, 1, none⟩ = some (.int .u8 (g 1)) ∧ w'.cell? ⟨w2.heap.size, 2, none⟩ = some (.int .u8 (g 2)) ∧ w'.cell? ⟨w2.heap.size, 3, none⟩ = some (.int .u8 (g 3)) ∧ w'.cell? ⟨w2.heap.size, 4, none⟩ = some (.int .u8 (g 4)) ∧ w'.cell? ⟨w2.heap.size, 5, none⟩ = some (.int .u8 (g 5)) ∧ w'.cell? ⟨w2.heap.size, 6, none⟩ = some (.int .u8 (g 6)) ∧ w'.cell? ⟨w2.heap.size, 7, none⟩ = some (.int .u8 (g 7))) (first | exact HS3.out | exact HSK.out _ _ ⟨HS3.out.1, HS3.out.2.1, HS3.out.2.2.1⟩ hb4 | exact HSK.out _ _ ⟨(HSK.out _ _ ⟨HS3.out.1, HS3.out.2.1, HS3.out.2.2.1⟩ hb4).1, (HSK.out _ _ ⟨HS3.out.1, HS3.out.2.1, HS3.out.2.2.1⟩ hb4).2.1, (HSK.out _ _ ⟨HS3.out.1, HS3.out.2.1, HS3.out.2.2.1⟩ hb4).2.2.1⟩ hb5 | exact HSK.out _ _ ⟨HSX.out.1, HSX.out.2.1, HSX.out.2.2.1⟩ hb6) (first | (go_at_call 54; refine (inverse_any n f HF.out _).mono ?_; rintro e3 w4 ⟨rfl, hb4⟩) | (go_at_call 49; refine (times_any n (invF n f) g (isDig_of (isRow_inv HF.out)) (fun i hi => ⟨HG.out.lo i hi, HG.out.hi i hi⟩) _).mono ?_; rintro e4 w5 ⟨rfl, hb5⟩) | (go_at_call 53; refine (HCT.out _).mono ?_; rintro e5 w6 ⟨rfl, hb6⟩; have HSX := Lib.hid (HSK.out _ _ ⟨(HSK.out _ _ ⟨HS3.out.1, HS3.out.2.1, HS3.out.2.2.1⟩ hb4).1, (HSK.out _ _ ⟨HS3.out.1, HS3.out.2.1, HS3.out.2.2.1⟩ hb4).2.1, (HSK.out _ _ ⟨HS3.out.1, HS3.out.2.1, HS3.out.2.2.1⟩ hb4).2.2.1⟩ hb5); simp only [chEnd]))
    have HBF := Lib.hid (HSK.out _ _ ⟨HSX.out.1, HSX.out.2.1, HSX.out.2.2.1⟩ hb6).2.2.1
    clear HS3 HSK HSX hb4 hb5 hb6
    go_wp2
    go_ret2
    exact ⟨rfl, HBF.out⟩
  | some l =>
    go_region_held3 (fun w' => RowAt w' w1.heap.size 56 (dig8 f) ∧ RowAt w' w2.heap.size 56 (dig8 g) ∧ Below w.heap.size w w' ∧ w'.cell? ⟨w1.heap.size, 0, none⟩ = some (.int .u8 (f 0)) ∧ w'.cell? ⟨w1.heap.size, 1, none⟩ = some (.int .u8 (f 1)) ∧ w'.cell? ⟨w1.heap.size, 2, none⟩ = some (.int .u8 (f 2)) ∧ w'.cell? ⟨w1.heap.size, 3, none⟩ = some (.int .u8 (f 3)) ∧ w'.cell? ⟨w1.heap.size, 4, none⟩ = some (.int .u8 (f 4)) ∧ w'.cell? ⟨w1.heap.size, 5, none⟩ = some (.int .u8 (f 5)) ∧ w'.cell? ⟨w1.heap.size, 6, none⟩ = some (.int .u8 (f 6)) ∧ w'.cell? ⟨w1.heap.size, 7, none⟩ = some (.int .u8 (f 7)) ∧ w'.cell? ⟨w2.heap.size, 0, none⟩ = some (.int .u8 (g 0)) ∧ w'.cell? ⟨w2.heap.size, 1, none⟩ = some (.int .u8 (g 1)) ∧ w'.cell? ⟨w2.heap.size, 2, none⟩ = some (.int .u8 (g 2)) ∧ w'.cell? ⟨w2.heap.size, 3, none⟩ = some (.int .u8 (g 3)) ∧ w'.cell? ⟨w2.heap.size, 4, none⟩ = some (.int .u8 (g 4)) ∧ w'.cell? ⟨w2.heap.size, 5, none⟩ = some (.int .u8 (g 5)) ∧ w'.cell? ⟨w2.heap.size, 6, none⟩ = some (.int .u8 (g 6)) ∧ w'.cell? ⟨w2.heap.size, 7, none⟩ = some (.int .u8 (g 7))) (first | exact HS3.out | exact HSK.out _ _ ⟨HS3.out.1, HS3.out.2.1, HS3.out.2.2.1⟩ hb4 | exact HSK.out _ _ ⟨(HSK.out _ _ ⟨HS3.out.1, HS3.out.2.1, HS3.out.2.2.1⟩ hb4).1, (HSK.out _ _ ⟨HS3.out.1, HS3.out.2.1, HS3.out.2.2.1⟩ hb4).2.1, (HSK.out _ _ ⟨HS3.out.1, HS3.out.2.1, HS3.out.2.2.1⟩ hb4).2.2.1⟩ hb5 | exact HSK.out _ _ ⟨HSX.out.1, HSX.out.2.1, HSX.out.2.2.1⟩ hb6) (first | (go_at_call 54; refine (inverse_any n f HF.out _).mono ?_; rintro e3 w4 ⟨rfl, hb4⟩) | (go_at_call 49; refine (times_any n (invF n f) g (isDig_of (isRow_inv HF.out)) (fun i hi => ⟨HG.out.lo i hi, HG.out.hi i hi⟩) _).mono ?_; rintro e4 w5 ⟨rfl, hb5⟩) | (go_at_call 53; refine (HCT.out _).mono ?_; rintro e5 w6 ⟨rfl, hb6⟩; have HSX := Lib.hid (HSK.out _ _ ⟨(HSK.out _ _ ⟨HS3.out.1, HS3.out.2.1, HS3.out.2.2.1⟩ hb4).1, (HSK.out _ _ ⟨HS3.out.1, HS3.out.2.1, HS3.out.2.2.1⟩ hb4).2.1, (HSK.out _ _ ⟨HS3.out.1, HS3.out.2.1, HS3.out.2.2.1⟩ hb4).2.2.1⟩ hb5); simp only [chEnd]))
    have HBF := Lib.hid (HSK.out _ _ ⟨HSX.out.1, HSX.out.2.1, HSX.out.2.2.1⟩ hb6).2.2.1
    clear HS3 HSK HSX hb4 hb5 hb6
    go_wp2
    go_ret2
    exact ⟨rfl, HBF.out⟩

theorem betw_rows {n : Nat} {f g : Nat → Nat} (hf : IsRow n f) (hg : IsRow n g) : betw (strOf n f) (strOf n g) = chText n (quoR n f g) := by
  have h : twoB (strOf n f) (strOf n g) = true := by simp [twoB, goodB_strOf hf, goodB_strOf hg, strOf_size]
  unfold betw
  rw [if_pos h, strOf_size, dg_strOf hf, dg_strOf hg]
theorem two_rows {a b : ByteArray} (h : twoB a b = true) : ∃ n f g, IsRow n f ∧ IsRow n g ∧ a = strOf n f ∧ b = strOf n g := by
  have hy := twoB_yes h
  refine ⟨a.size, dg a, dg b, hy.1, ?_, strOf_of_isStr (isStr_dg a), ?_⟩
  · rw [hy.2.2]; exact hy.2.1
  · rw [hy.2.2]; exact strOf_of_isStr (isStr_dg b)

set_option maxRecDepth 100000 in
set_option maxHeartbeats 1000000 in
theorem iBetweenRows_no (a b : ByteArray) (ha : a.size ≤ maxLen) (hb : b.size ≤ maxLen) (h : twoB a b = false) (w : World) :
    Calls Try.prog 17 #[.string a, .string b] w fun e w' => e = .returned (.tuple #[.string ⟨#[]⟩, .bool false]) ∧ Below w.heap.size w w' := by
  have h' : (goodB a && goodB b && decide (a.size = b.size)) = false := h
  have hne : ((a.size : Int) != (b.size : Int)) = !decide (a.size = b.size) := by
    by_cases e : a.size = b.size
    · simp [e]
    · have : ¬ (a.size : Int) = b.size := by omega
      simp [e, this]
  have HA := Lib.hid (digitsOf_any a ha)
  have HB := Lib.hid (digitsOf_any b hb)
  generalize hx : goodB a = x at *
  generalize hy : goodB b = y at *
  generalize hz : decide (a.size = b.size) = z at *
  generalize dgF a = fa at *
  generalize dgF b = fb at *
  clear h hx hy hz
  go_enter Try.func17, Try.ntmps17
  go_wp2_with fail
  refine (HA.out _).mono ?_
  rintro e w1 ⟨rfl, hb1⟩
  go_wp2_with (refine wpList_store_row rfl 56 _ _ rfl _ _ rfl rfl 56 _ (heap_alloc_new _ _) (by kernel_rfl) rfl (by kernel_rfl) ?_; rw [World.setRow_alloc_new])
  refine (HB.out _).mono ?_
  rintro e w2 ⟨rfl, hb2⟩
  have HB2 := Lib.hid ((hb1.alloc hb1.size _).trans (hb2.mono (by simp; have := hb1.size; omega)))
  clear hb1 hb2
  cases x <;> cases y <;> cases z <;> simp at h' <;> (
    go_wp2_with (refine wpList_store_row rfl 56 _ _ rfl _ _ rfl rfl 56 _ (heap_alloc_new _ _) (by kernel_rfl) rfl (by kernel_rfl) ?_; rw [World.setRow_alloc_new])
    go_ret2
    exact ⟨rfl, HB2.out.alloc HB2.out.size _⟩)
end Go.Proofs.Ytkeighlcdnfjcaa
