/- BetweenRows in the program and in the model, and the law on it. BetweenRows in the model, and the law on it. What the model draws: changes, texts and stages. What the laws on changes are handed to ask with. Plain facts for the law on pairs. No program here. The law on pairs: what it calls, as functions. -/
import Derived.Test.YtkeighlcdnfjcaaB20
import Derived.Test.YtkeighlcdnfjcaaA15
import Derived.Test.YtkeighlcdnfjcaaM2
import Derived.Test.YtkeighlcdnfjcaaQ5
import Derived.Test.YtkeighlcdnfjcaaP3
namespace Go.Proofs.Ytkeighlcdnfjcaa
open Go.RowKit

/-- the row that leads from f to g -/
def quoR (n : Nat) (f g : Nat → Nat) : Nat → Nat := mulR n (invF n f) g
theorem isRow_quo {n : Nat} {f g : Nat → Nat} (hf : IsRow n f) (hg : IsRow n g) : IsRow n (quoR n f g) := isRow_mul (isRow_inv hf) hg
theorem quo_mul {n : Nat} {f c : Nat → Nat} (hf : IsRow n f) (hc : IsRow n c) : quoR n f (mulR n f c) = c := by
  unfold quoR
  rw [← mulR_assoc (isRow_inv hf) hf hc, inv_mul hf, rounds_mul hc]
theorem mul_quo {n : Nat} {f g : Nat → Nat} (hf : IsRow n f) (hg : IsRow n g) : mulR n f (quoR n f g) = g := by
  unfold quoR
  rw [← mulR_assoc hf (isRow_inv hf) hg, mul_inv hf, rounds_mul hg]
theorem lets_ch {n : Nat} {l : List Nat} (h3 : 3 ≤ n) (h8 : n ≤ 8) (h : l ∈ chs n) : lets (txt l) = l := lets_txt l fun b hb => by have := (chs_small n h3 h8 l h).2.1 b hb; omega
/-- the change between two texts, if there is one -/
noncomputable def betw (a b : ByteArray) : Option (List Nat) := if twoB a b = true then chText a.size (quoR a.size (dg a) (dg b)) else none

set_option maxRecDepth 100000 in
set_option maxHeartbeats 1000000 in
theorem iBetweenRows_yes (n : Nat) (f g : Nat → Nat) (hf : IsRow n f) (hg : IsRow n g) (w : World) :
    Calls Try.prog 17 #[.string (strOf n f), .string (strOf n g)] w fun e w' => e = .returned (chEnd (chText n (quoR n f g))) ∧ Below w.heap.size w w' := by
  have h8 := hf.eight
  have hsf := strOf_size n f
  have hsg := strOf_size n g
  have HF := Lib.hid hf
  have HG := Lib.hid hg
  clear hf hg
  have HCT := Lib.hid (changeText_any n (quoR n f g) (isRow_quo HF.out HG.out))
  generalize chText n (quoR n f g) = r at HCT ⊢
  have hne : (((strOf n f).size : Int) != ((strOf n g).size : Int)) = false := by rw [hsf, hsg]; simp
  go_enter Try.func17, Try.ntmps17
  go_wp2_with fail
  refine (digitsOf_row n f HF.out _).mono ?_
  rintro e w1 ⟨rfl, hb1⟩
  go_wp2_with (refine wpList_store_row rfl 56 _ _ rfl _ _ rfl rfl 56 _ (heap_alloc_new _ _) (by kernel_rfl) rfl (by kernel_rfl) ?_; rw [World.setRow_alloc_new])
  refine (digitsOf_row n g HG.out _).mono ?_
  rintro e w2 ⟨rfl, hb2⟩
  have hD := Lib.hid (((RowAt.new w1 56 (dig8 f)).kept hb2).push (.cells (dig8 g) 56))
  have hE := Lib.hid (RowAt.new w2 56 (dig8 g))
  have hs2 : w1.heap.size < w2.heap.size := by have := hb2.size; simp at this; omega
  have HB2 := Lib.hid ((hb1.alloc hb1.size _).trans (hb2.mono (by simp; have := hb1.size; omega)))
  have hbel := Lib.hid (HB2.out.alloc HB2.out.size (.cells (dig8 g) 56))
  clear hb1 hb2
  go_wp2_with (first | (refine wpList_store_row rfl 56 _ _ rfl _ _ rfl rfl 56 _ (heap_alloc_new _ _) (by kernel_rfl) rfl (by kernel_rfl) ?_; rw [World.setRow_alloc_new]) | (refine wpList_load_row rfl 56 _ rfl _ rfl 56 _ _ _ hD.out Try.underlying56 rfl (by kernel_rfl) ?_) | fail)
  have hcells : ∀ W : World, RowAt W w1.heap.size 56 (dig8 f) → RowAt W w2.heap.size 56 (dig8 g) → W.cell? ⟨w1.heap.size, 0, none⟩ = some (.int .u8 (f 0)) ∧ W.cell? ⟨w1.heap.size, 1, none⟩ = some (.int .u8 (f 1)) ∧ W.cell? ⟨w1.heap.size, 2, none⟩ = some (.int .u8 (f 2)) ∧ W.cell? ⟨w1.heap.size, 3, none⟩ = some (.int .u8 (f 3)) ∧ W.cell? ⟨w1.heap.size, 4, none⟩ = some (.int .u8 (f 4)) ∧ W.cell? ⟨w1.heap.size, 5, none⟩ = some (.int .u8 (f 5)) ∧ W.cell? ⟨w1.heap.size, 6, none⟩ = some (.int .u8 (f 6)) ∧ W.cell? ⟨w1.heap.size, 7, none⟩ = some (.int .u8 (f 7)) ∧ W.cell? ⟨w2.heap.size, 0, none⟩ = some (.int .u8 (g 0)) ∧ W.cell? ⟨w2.heap.size, 1, none⟩ = some (.int .u8 (g 1)) ∧ W.cell? ⟨w2.heap.size, 2, none⟩ = some (.int .u8 (g 2)) ∧ W.cell? ⟨w2.heap.size, 3, none⟩ = some (.int .u8 (g 3)) ∧ W.cell? ⟨w2.heap.size, 4, none⟩ = some (.int .u8 (g 4)) ∧ W.cell? ⟨w2.heap.size, 5, none⟩ = some (.int .u8 (g 5)) ∧ W.cell? ⟨w2.heap.size, 6, none⟩ = some (.int .u8 (g 6)) ∧ W.cell? ⟨w2.heap.size, 7, none⟩ = some (.int .u8 (g 7)) := fun W h1 h2 => ⟨h1.cell 0 rfl, h1.cell 1 rfl, h1.cell 2 rfl, h1.cell 3 rfl, h1.cell 4 rfl, h1.cell 5 rfl, h1.cell 6 rfl, h1.cell 7 rfl, h2.cell 0 rfl, h2.cell 1 rfl, h2.cell 2 rfl, h2.cell 3 rfl, h2.cell 4 rfl, h2.cell 5 rfl, h2.cell 6 rfl, h2.cell 7 rfl⟩
  generalize w2.alloc (.cells (dig8 g) 56) = w3 at *
  have HS3 := Lib.hid (show RowAt w3.drew w1.heap.size 56 (dig8 f) ∧ RowAt w3.drew w2.heap.size 56 (dig8 g) ∧ Below w.heap.size w w3.drew ∧ w3.drew.cell? ⟨w1.heap.size, 0, none⟩ = some (.int .u8 (f 0)) ∧ w3.drew.cell? ⟨w1.heap.size, 1, none⟩ = some (.int .u8 (f 1)) ∧ w3.drew.cell? ⟨w1.heap.size, 2, none⟩ = some (.int .u8 (f 2)) ∧ w3.drew.cell? ⟨w1.heap.size, 3, none⟩ = some (.int .u8 (f 3)) ∧ w3.drew.cell? ⟨w1.heap.size, 4, none⟩ = some (.int .u8 (f 4)) ∧ w3.drew.cell? ⟨w1.heap.size, 5, none⟩ = some (.int .u8 (f 5)) ∧ w3.drew.cell? ⟨w1.heap.size, 6, none⟩ = some (.int .u8 (f 6)) ∧ w3.drew.cell? ⟨w1.heap.size, 7, none⟩ = some (.int .u8 (f 7)) ∧ w3.drew.cell? ⟨w2.heap.size, 0, none⟩ = some (.int .u8 (g 0)) ∧ w3.drew.cell? ⟨w2.heap.size, 1, none⟩ = some (.int .u8 (g 1)) ∧ w3.drew.cell? ⟨w2.heap.size, 2, none⟩ = some (.int .u8 (g 2)) ∧ w3.drew.cell? ⟨w2.heap.size, 3, none⟩ = some (.int .u8 (g 3)) ∧ w3.drew.cell? ⟨w2.heap.size, 4, none⟩ = some (.int .u8 (g 4)) ∧ w3.drew.cell? ⟨w2.heap.size, 5, none⟩ = some (.int .u8 (g 5)) ∧ w3.drew.cell? ⟨w2.heap.size, 6, none⟩ = some (.int .u8 (g 6)) ∧ w3.drew.cell? ⟨w2.heap.size, 7, none⟩ = some (.int .u8 (g 7)) from ⟨hD.out, hE.out, hbel.out.drew, hcells _ hD.out hE.out⟩)
  have HSK := Lib.hid (show ∀ W W' : World, RowAt W w1.heap.size 56 (dig8 f) ∧ RowAt W w2.heap.size 56 (dig8 g) ∧ Below w.heap.size w W → Below W.heap.size W W' → RowAt W' w1.heap.size 56 (dig8 f) ∧ RowAt W' w2.heap.size 56 (dig8 g) ∧ Below w.heap.size w W' ∧ W'.cell? ⟨w1.heap.size, 0, none⟩ = some (.int .u8 (f 0)) ∧ W'.cell? ⟨w1.heap.size, 1, none⟩ = some (.int .u8 (f 1)) ∧ W'.cell? ⟨w1.heap.size, 2, none⟩ = some (.int .u8 (f 2)) ∧ W'.cell? ⟨w1.heap.size, 3, none⟩ = some (.int .u8 (f 3)) ∧ W'.cell? ⟨w1.heap.size, 4, none⟩ = some (.int .u8 (f 4)) ∧ W'.cell? ⟨w1.heap.size, 5, none⟩ = some (.int .u8 (f 5)) ∧ W'.cell? ⟨w1.heap.size, 6, none⟩ = some (.int .u8 (f 6)) ∧ W'.cell? ⟨w1.heap.size, 7, none⟩ = some (.int .u8 (f 7)) ∧ W'.cell? ⟨w2.heap.size, 0, none⟩ = some (.int .u8 (g 0)) ∧ W'.cell? ⟨w2.heap.size, 1, none⟩ = some (.int .u8 (g 1)) ∧ W'.cell? ⟨w2.heap.size, 2, none⟩ = some (.int .u8 (g 2)) ∧ W'.cell? ⟨w2.heap.size, 3, none⟩ = some (.int .u8 (g 3)) ∧ W'.cell? ⟨w2.heap.size, 4, none⟩ = some (.int .u8 (g 4)) ∧ W'.cell? ⟨w2.heap.size, 5, none⟩ = some (.int .u8 (g 5)) ∧ W'.cell? ⟨w2.heap.size, 6, none⟩ = some (.int .u8 (g 6)) ∧ W'.cell? ⟨w2.heap.size, 7, none⟩ = some (.int .u8 (g 7)) from fun W W' h hb => ⟨h.1.kept hb, h.2.1.kept hb, h.2.2.trans (hb.mono h.2.2.size), hcells _ (h.1.kept hb) (h.2.1.kept hb)⟩)
  clear hcells hD hE hbel HB2
  cases r with
  | none =>
    go_region_held3 (fun w' => RowAt w' w1.heap.size 56 (dig8 f) ∧ RowAt w' w2.heap.size 56 (dig8 g) ∧ Below w.heap.size w w' ∧ w'.cell? ⟨w1.heap.size, 0, none⟩ = some (.int .u8 (f 0)) ∧ w'.cell? ⟨w1.heap.size, 1, none⟩ = some (.int .u8 (f 1)) ∧ w'.cell? ⟨w1.heap.size, 2, none⟩ = some (.int .u8 (f 2)) ∧ w'.cell? ⟨w1.heap.size, 3, none⟩ = some (.int .u8 (f 3)) ∧ w'.cell? ⟨w1.heap.size, 4, none⟩ = some (.int .u8 (f 4)) ∧ w'.cell? ⟨w1.heap.size, 5, none⟩ = some (.int .u8 (f 5)) ∧ w'.cell? ⟨w1.heap.size, 6, none⟩ = some (.int .u8 (f 6)) ∧ w'.cell? ⟨w1.heap.size, 7, none⟩ = some (.int .u8 (f 7)) ∧ w'.cell? ⟨w2.heap.size, 0, none⟩ = some (.int .u8 (g 0)) ∧ w'.cell? ⟨w2.heap.size, 1, none⟩ = some (.int .u8 (g 1)) ∧ w'.cell? ⟨w2.heap.size, 2, none⟩ = some (.int .u8 (g 2)) ∧ w'.cell? ⟨w2.heap.size, 3, none⟩ = some (.int .u8 (g 3)) ∧ w'.cell? ⟨w2.heap.size, 4, none⟩ = some (.int .u8 (g 4)) ∧ w'.cell? ⟨w2.heap.size, 5, none⟩ = some (.int .u8 (g 5)) ∧ w'.cell? ⟨w2.heap.size, 6, none⟩ = some (.int .u8 (g 6)) ∧ w'.cell? ⟨w2.heap.size, 7, none⟩ = some (.int .u8 (g 7))) (first | exact HS3.out | exact HSK.out _ _ ⟨HS3.out.1, HS3.out.2.1, HS3.out.2.2.1⟩ hb4 | exact HSK.out _ _ ⟨(HSK.out _ _ ⟨HS3.out.1, HS3.out.2.1, HS3.out.2.2.1⟩ hb4).1, (HSK.out _ _ ⟨HS3.out.1, HS3.out.2.1, HS3.out.2.2.1⟩ hb4).2.1, (HSK.out _ _ ⟨HS3.out.1, HS3.out.2.1, HS3.out.2.2.1⟩ hb4).2.2.1⟩ hb5 | exact HSK.out _ _ ⟨HSX.out.1, HSX.out.2.1, HSX.out.2.2.1⟩ hb6) (first | (go_at_call 54; refine (inverse_any n f HF.out _).mono ?_; rintro e3 w4 ⟨rfl, hb4⟩) | (go_at_call 49; refine (times_any n (invF n f) g (isDig_of (isRow_inv HF.out)) (fun i hi => ⟨HG.out.lo i hi, HG.out.hi i hi⟩) _).mono ?_; rintro e4 w5 ⟨rfl, hb5⟩) | (go_at_call 53; refine (HCT.out _).mono ?_; rintro e5 w6 ⟨rfl, hb6⟩; have HSX := Lib.hid (HSK.out _ _ ⟨(HSK.out _ _ ⟨HS3.out.1, HS3.out.2.1, HS3.out.2.2.1⟩ hb4).1, (HSK.out _ _ ⟨HS3.out.1, HS3.out.2.1, HS3.out.2.2.1⟩ hb4).2.1, (HSK.out _ _ ⟨HS3.out.1, HS3.out.2.1, HS3.out.2.2.1⟩ hb4).2.2.1⟩ hb5); simp only [chEnd]))
    have HBF := Lib.hid (HSK.out _ _ ⟨HSX.out.1, HSX.out.2.1, HSX.out.2.2.1⟩ hb6).2.2.1
    clear HS3 HSK HSX hb4 hb5 hb6
    go_wp2
    go_ret2
    exact ⟨rfl, HBF.out⟩
  | some l =>
    go_region_held3 (fun w' => RowAt w' w1.heap.size 56 (dig8 f) ∧ RowAt w' w2.heap.size 56 (dig8 g) ∧ Below w.heap.size w w' ∧ w'.cell? ⟨w1.heap.size, 0, none⟩ = some (.int .u8 (f 0)) ∧ w'.cell? ⟨w1.heap.size, 1, none⟩ = some (.int .u8 (f 1)) ∧ w'.cell? ⟨w1.heap.size, 2, none⟩ = some (.int .u8 (f 2)) ∧ w'.cell? ⟨w1.heap.size, 3, none⟩ = some (.int .u8 (f 3)) ∧ w'.cell? ⟨w1.heap.size, 4, none⟩ = some (.int .u8 (f 4)) ∧ w'.cell? ⟨w1.heap.size, 5, none⟩ = some (.int .u8 (f 5)) ∧ w'.cell? ⟨w1.heap.size, 6, none⟩ = some (.int .u8 (f 6)) ∧ w'.cell? ⟨w1.heap.size, 7, none⟩ = some (.int .u8 (f 7)) ∧ w'.cell? ⟨w2.heap.size, 0, none⟩ = some (.int .u8 (g 0)) ∧ w'.cell? ⟨w2.heap.size, 1, none⟩ = some (.int .u8 (g 1)) ∧ w'.cell? ⟨w2.heap.size, 2, none⟩ = some (.int .u8 (g 2)) ∧ w'.cell? ⟨w2.heap.size, 3, none⟩ = some (.int .u8 (g 3)) ∧ w'.cell? ⟨w2.heap.size, 4, none⟩ = some (.int .u8 (g 4)) ∧ w'.cell? ⟨w2.heap.size, 5, none⟩ = some (.int .u8 (g 5)) ∧ w'.cell? ⟨w2.heap.size, 6, none⟩ = some (.int .u8 (g 6)) ∧ w'.cell? ⟨w2.heap.size, 7, none⟩ = some (.int .u8 (g 7))) (first | exact HS3.out | exact HSK.out _ _ ⟨HS3.out.1, HS3.out.2.1, HS3.out.2.2.1⟩ hb4 | exact HSK.out _ _ ⟨(HSK.out _ _ ⟨HS3.out.1, HS3.out.2.1, HS3.out.2.2.1⟩ hb4).1, (HSK.out _ _ ⟨HS3.out.1, HS3.out.2.1, HS3.out.2.2.1⟩ hb4).2.1, (HSK.out _ _ ⟨HS3.out.1, HS3.out.2.1, HS3.out.2.2.1⟩ hb4).2.2.1⟩ hb5 | exact HSK.out _ _ ⟨HSX.out.1, HSX.out.2.1, HSX.out.2.2.1⟩ hb6) (first | (go_at_call 54; refine (inverse_any n f HF.out _).mono ?_; rintro e3 w4 ⟨rfl, hb4⟩) | (go_at_call 49; refine (times_any n (invF n f) g (isDig_of (isRow_inv HF.out)) (fun i hi => ⟨HG.out.lo i hi, HG.out.hi i hi⟩) _).mono ?_; rintro e4 w5 ⟨rfl, hb5⟩) | (go_at_call 53; refine (HCT.out _).mono ?_; rintro e5 w6 ⟨rfl, hb6⟩; have HSX := Lib.hid (HSK.out _ _ ⟨(HSK.out _ _ ⟨HS3.out.1, HS3.out.2.1, HS3.out.2.2.1⟩ hb4).1, (HSK.out _ _ ⟨HS3.out.1, HS3.out.2.1, HS3.out.2.2.1⟩ hb4).2.1, (HSK.out _ _ ⟨HS3.out.1, HS3.out.2.1, HS3.out.2.2.1⟩ hb4).2.2.1⟩ hb5); simp only [chEnd]))
    have HBF := Lib.hid (HSK.out _ _ ⟨HSX.out.1, HSX.out.2.1, HSX.out.2.2.1⟩ hb6).2.2.1
    clear HS3 HSK HSX hb4 hb5 hb6
    go_wp2
    go_ret2
    exact ⟨rfl, HBF.out⟩

theorem betw_rows {n : Nat} {f g : Nat → Nat} (hf : IsRow n f) (hg : IsRow n g) : betw (strOf n f) (strOf n g) = chText n (quoR n f g) := by
  have h : twoB (strOf n f) (strOf n g) = true := by simp [twoB, goodB_strOf hf, goodB_strOf hg, strOf_size]
  unfold betw
  rw [if_pos h, strOf_size, dg_strOf hf, dg_strOf hg]
theorem two_rows {a b : ByteArray} (h : twoB a b = true) : ∃ n f g, IsRow n f ∧ IsRow n g ∧ a = strOf n f ∧ b = strOf n g := by
  have hy := twoB_yes h
  refine ⟨a.size, dg a, dg b, hy.1, ?_, strOf_of_isStr (isStr_dg a), ?_⟩
  · rw [hy.2.2]; exact hy.2.1
  · rw [hy.2.2]; exact strOf_of_isStr (isStr_dg b)

set_option maxRecDepth 100000 in
set_option maxHeartbeats 1000000 in
theorem iBetweenRows_no (a b : ByteArray) (ha : a.size ≤ maxLen) (hb : b.size ≤ maxLen) (h : twoB a b = false) (w : World) :
    Calls Try.prog 17 #[.string a, .string b] w fun e w' => e = .returned (.tuple #[.string ⟨#[]⟩, .bool false]) ∧ Below w.heap.size w w' := by
  have h' : (goodB a && goodB b && decide (a.size = b.size)) = false := h
  have hne : ((a.size : Int) != (b.size : Int)) = !decide (a.size = b.size) := by
    by_cases e : a.size = b.size
    · simp [e]
    · have : ¬ (a.size : Int) = b.size := by omega
      simp [e, this]
  have HA := Lib.hid (digitsOf_any a ha)
  have HB := Lib.hid (digitsOf_any b hb)
  generalize hx : goodB a = x at *
  generalize hy : goodB b = y at *
  generalize hz : decide (a.size = b.size) = z at *
  generalize dgF a = fa at *
  generalize dgF b = fb at *
  clear h hx hy hz
  go_enter Try.func17, Try.ntmps17
  go_wp2_with fail
  refine (HA.out _).mono ?_
  rintro e w1 ⟨rfl, hb1⟩
  go_wp2_with (refine wpList_store_row rfl 56 _ _ rfl _ _ rfl rfl 56 _ (heap_alloc_new _ _) (by kernel_rfl) rfl (by kernel_rfl) ?_; rw [World.setRow_alloc_new])
  refine (HB.out _).mono ?_
  rintro e w2 ⟨rfl, hb2⟩
  have HB2 := Lib.hid ((hb1.alloc hb1.size _).trans (hb2.mono (by simp; have := hb1.size; omega)))
  clear hb1 hb2
  cases x <;> cases y <;> cases z <;> simp at h' <;> (
    go_wp2_with (refine wpList_store_row rfl 56 _ _ rfl _ _ rfl rfl 56 _ (heap_alloc_new _ _) (by kernel_rfl) rfl (by kernel_rfl) ?_; rw [World.setRow_alloc_new])
    go_ret2
    exact ⟨rfl, HB2.out.alloc HB2.out.size _⟩)
end Go.Proofs.Ytkeighlcdnfjcaa
namespace Go.Proofs.Ytkeighlcdnfjcaa
open Go.RowKit

theorem app_rows {n : Nat} {f : Nat → Nat} (hf : IsRow n f) {c : List Nat} (h3 : 3 ≤ n) (h8 : n ≤ 8) (hc : c ∈ chs n) : appF (strOf n f) (txt c) = strOf n (mulR n f (cf n c)) := by
  unfold appF
  rw [strOf_size, dg_strOf hf, lets_ch h3 h8 hc, strOf_mul]
theorem betw_none {n : Nat} {f g : Nat → Nat} (hf : IsRow n f) (hg : IsRow n g) (h : ∀ c ∈ chs n, mulR n f (cf n c) ≠ g) : chText n (quoR n f g) = none := by
  cases hc : chText n (quoR n f g) with
  | none => rfl
  | some l =>
    obtain ⟨h1, h2⟩ := chText_some (isRow_quo hf hg) hc
    exact absurd (by rw [h2]; exact mul_quo hf hg) (h l (mem_chs h1))
theorem betw_some {n : Nat} {f g : Nat → Nat} (hf : IsRow n f) {c : List Nat} (h3 : 3 ≤ n) (h8 : n ≤ 8) (hc : c ∈ chs n) (h : mulR n f (cf n c) = g) : chText n (quoR n f g) = some c := by
  have hg := (chs_small n h3 h8 c hc).1
  rw [← h, quo_mul hf (isRow_cf hg)]
  exact chText_back hg

set_option maxRecDepth 100000 in
set_option maxHeartbeats 1000000 in
theorem sBetweenRows_yes (n : Nat) (f g : Nat → Nat) (hf : IsRow n f) (hg : IsRow n g) (w : World) :
    Calls Try.prog 33 #[.string (strOf n f), .string (strOf n g)] w fun e w' => e = .returned (chEnd (chText n (quoR n f g))) ∧ Below w.heap.size w w' := by
  have h8 := hf.eight
  have h3 := hf.three
  have hsf := strOf_size n f
  have hsg := strOf_size n g
  have htwo : (goodB (strOf n f) && goodB (strOf n g) && decide ((strOf n f).size = (strOf n g).size)) = true := by simp [goodB_strOf hf, goodB_strOf hg, hsf, hsg]
  have HTWO := Lib.hid htwo
  have HF := Lib.hid hf
  have HG := Lib.hid hg
  have HNONE := Lib.hid (betw_none hf hg)
  have HSOME := Lib.hid (fun c (hc : c ∈ chs n) (h : mulR n f (cf n c) = g) => betw_some (c := c) hf h3 h8 hc h)
  have hmx := mx_row f h8
  have hmy := mx_row g h8
  have hcl := (chs_len n h3 h8).1
  have HALL := Lib.hid (l2All_any n h3 h8)
  have HIN := Lib.hid (fun c (hc : c ∈ chs n) => (chs_small n h3 h8 c hc).1)
  have HLT := Lib.hid (fun c (hc : c ∈ chs n) => lets_ch h3 h8 hc)
  have HAP := Lib.hid (fun c (hc : c ∈ chs n) => app_rows hf h3 h8 hc)
  have HSZ := Lib.hid (fun c (hc : c ∈ chs n) => (show (txt c).size ≤ maxLen by
    have hg := (chs_small n h3 h8 c hc).1
    have : c.length ≤ n - 2 := by simp [goodL] at hg; omega
    rw [txt_size]; unfold maxLen; omega))
  generalize hr : chText n (quoR n f g) = r at *
  generalize chs n = L at *
  obtain ⟨m, hm⟩ : ∃ m, L.length = m := ⟨_, rfl⟩
  rw [hm] at hcl
  have HM := Lib.hid hm
  have hm' : (m : Int) ≤ 100 := by omega
  clear hf hg htwo hm hr
  go_enter Try.func33, Try.ntmps33
  go_wp2_with fail
  refine (l1Two_any _ _ hmx hmy _).mono ?_
  rintro e w1 ⟨rfl, hb1⟩
  rw [HTWO.out]
  go_wp2_with fail
  refine (HALL.out _).mono ?_
  rintro e w2 ⟨v, rfl, hn2, hb2⟩
  obtain ⟨a, cap, rfl, ha⟩ := hn2.own.view
  rw [strs_len, HM.out] at hn2 ha ⊢
  have HV := Lib.hid hn2.own
  have HA := Lib.hid ha
  have HB2 := Lib.hid (hb1.trans (hb2.mono hb1.size))
  clear hn2 ha hb1 hb2
  go_wp2
  go_loopg [7, 16] m (fun q _ i wr => ∃ j : Nat, j ≤ m ∧ q + j = m ∧ i = .int .i64 j ∧ (∀ k, k < j → ∀ (hk : k < L.length), mulR n f (cf n L[k]) ≠ g) ∧ Below w.heap.size w wr ∧ Below w2.heap.size w2 wr)
  case atStart => exact ⟨0, Nat.zero_le _, rfl, rfl, fun k hk => absurd hk (Nat.not_lt_zero _), HB2.out, Below.refl _ _⟩
  case round =>
    clear HB2
    obtain ⟨j, hj, hq, rfl, hno, hb, hb2⟩ := hrel
    have HQ := Lib.hid hq
    have HNO := Lib.hid hno
    have HB := Lib.hid hb
    have HBB := Lib.hid hb2
    clear hq hno hb hb2
    by_cases hlt : j < m
    · obtain ⟨g0, rfl⟩ := HA.out (by omega)
      have hjl : j < L.length := by rw [HM.out]; exact hlt
      have hmem := List.getElem_mem hjl
      have c1 := (HV.out.kept HBB.out).cell j (.string (txt L[j])) (by simp [strs, hjl])
      have hji : (j : Int) < m := by omega
      have hgl := HIN.out _ hmem
      have hrowc := isRow_mul HF.out (isRow_cf hgl)
      have HAPC := Lib.hid (l2Apply_any (strOf n f) (txt L[j]) (HSZ.out _ hmem) (goodB_strOf HF.out) (by rw [hsf, HLT.out _ hmem]; exact hgl))
      rw [HAP.out _ hmem] at HAPC
      have HHIT := Lib.hid (HSOME.out _ hmem)
      have HSTEP := Lib.hid (show mulR n f (cf n L[j]) ≠ g → ∀ k, k < j + 1 → ∀ (hk : k < L.length), mulR n f (cf n L[k]) ≠ g from fun hne k hk hkl => by
        by_cases e : k = j
        · subst e; exact hne
        · exact HNO.out k (by omega) hkl)
      generalize L[j] = c at *
      clear hmem hgl
      by_cases heq : mulR n f (cf n c) = g
      · have hsame := str_same (n := n) heq
        have hres := HHIT.out heq
        have HRES := Lib.hid hres
        clear hres heq
        go_wp2_with fail
        refine (HAPC.out _).mono ?_
        rintro e w3 ⟨rfl, hb3⟩
        have HB3 := Lib.hid (HB.out.trans (hb3.mono HB.out.size))
        clear hb3
        go_wp2
        go_ret2
        exact ⟨by rw [HRES.out]; rfl, HB3.out⟩
      · have hother := str_other hrowc HG.out heq
        have HNEXT := Lib.hid (HSTEP.out heq)
        clear heq
        go_wp2_with fail
        refine (HAPC.out _).mono ?_
        rintro e w3 ⟨rfl, hb3⟩
        have HB3 := Lib.hid (HB.out.trans (hb3.mono HB.out.size))
        have HBB3 := Lib.hid (HBB.out.trans (hb3.mono HBB.out.size))
        clear hb3
        go_wp2
        go_roundg (m - (j + 1))
        case measure => have := HQ.out; omega
        case rel => exact ⟨j + 1, by omega, by have := HQ.out; omega, by go_num, HNEXT.out, HB3.out, HBB3.out⟩
    · obtain rfl : j = m := by omega
      have hji : ¬ (j : Int) < j := by omega
      have hres := HNONE.out (fun c hc => by
        obtain ⟨k, hk, rfl⟩ := List.getElem_of_mem hc
        exact HNO.out k (by rw [← HM.out]; exact hk) hk)
      have HRES := Lib.hid hres
      clear hres
      go_wp2
      go_ret2
      exact ⟨by rw [HRES.out]; rfl, HB.out⟩

set_option maxRecDepth 100000 in
set_option maxHeartbeats 1000000 in
theorem sBetweenRows_no (a b : ByteArray) (ha : a.size ≤ maxLen) (hb : b.size ≤ maxLen) (h : twoB a b = false) (w : World) :
    Calls Try.prog 33 #[.string a, .string b] w fun e w' => e = .returned (.tuple #[.string ⟨#[]⟩, .bool false]) ∧ Below w.heap.size w w' := by
  have H := Lib.hid (show (goodB a && goodB b && decide (a.size = b.size)) = false from h)
  clear h
  go_enter Try.func33, Try.ntmps33
  go_wp2_with fail
  refine (l1Two_any a b ha hb _).mono ?_
  rintro e w1 ⟨rfl, hb1⟩
  rw [H.out]
  go_wp2
  go_ret2
  exact ⟨rfl, hb1⟩

theorem betw_off {a b : ByteArray} (h : twoB a b = false) : betw a b = none := by
  unfold betw
  rw [if_neg (by rw [h]; simp)]
/-- both in one -/
theorem iBetweenRows_any (a b : ByteArray) (ha : a.size ≤ maxLen) (hb : b.size ≤ maxLen) (w : World) :
    Calls Try.prog 17 #[.string a, .string b] w fun e w' => e = .returned (chEnd (betw a b)) ∧ Below w.heap.size w w' := by
  cases h : twoB a b
  · rw [betw_off h]; exact iBetweenRows_no a b ha hb h w
  · obtain ⟨n, f, g, hf, hg, rfl, rfl⟩ := two_rows h
    rw [betw_rows hf hg]
    exact iBetweenRows_yes n f g hf hg w
theorem sBetweenRows_any (a b : ByteArray) (ha : a.size ≤ maxLen) (hb : b.size ≤ maxLen) (w : World) :
    Calls Try.prog 33 #[.string a, .string b] w fun e w' => e = .returned (chEnd (betw a b)) ∧ Below w.heap.size w w' := by
  cases h : twoB a b
  · rw [betw_off h]; exact sBetweenRows_no a b ha hb h w
  · obtain ⟨n, f, g, hf, hg, rfl, rfl⟩ := two_rows h
    rw [betw_rows hf hg]
    exact sBetweenRows_yes n f g hf hg w

set_option maxRecDepth 100000 in
set_option maxHeartbeats 1000000 in
theorem lawBetweenRows (s t : ByteArray) (w : World) (hs : s.size ≤ maxLen) (ht : t.size ≤ maxLen) :
    Calls Try.prog 9 #[.string s, .string t] w fun e w' => e = .returned (.bool true) ∧ Below w.heap.size w w' := by
  by_cases hbig : 1048576 < s.size
  · have hbig' : (1048576 : Int) < s.size := by omega
    go_enter Try.func9, Try.ntmps9
    go_wp2
    go_ret
    exact ⟨rfl, Below.refl _ _⟩
  · have hbig' : (s.size : Int) ≤ 1048576 := by omega
    by_cases hbig2 : 1048576 < t.size
    · have hbig2' : (1048576 : Int) < t.size := by omega
      go_enter Try.func9, Try.ntmps9
      go_wp2
      go_ret
      exact ⟨rfl, Below.refl _ _⟩
    · have hbig2' : (t.size : Int) ≤ 1048576 := by omega
      have HS := Lib.hid (sBetweenRows_any s t hs ht)
      have HI := Lib.hid (iBetweenRows_any s t hs ht)
      generalize betw s t = r at HS HI
      cases r with
      | none =>
        go_enter Try.func9, Try.ntmps9
        go_wp2_with fail
        refine (HS.out _).mono ?_
        rintro e w1 ⟨rfl, hb1⟩
        unfold chEnd
        go_wp2_with fail
        refine (HI.out _).mono ?_
        rintro e w2 ⟨rfl, hb2⟩
        unfold chEnd
        go_wp2
        go_ret
        exact ⟨rfl, hb1.trans (hb2.mono hb1.size)⟩
      | some l =>
        generalize hT : txt l = T
        have HT := Lib.hid hT
        have hself : (T.toList == T.toList) = true := by simp
        clear hT
        go_enter Try.func9, Try.ntmps9
        go_wp2_with fail
        refine (HS.out _).mono ?_
        rintro e w1 ⟨rfl, hb1⟩
        unfold chEnd
        simp only [HT.out]
        go_wp2_with fail
        refine (HI.out _).mono ?_
        rintro e w2 ⟨rfl, hb2⟩
        unfold chEnd
        simp only [HT.out]
        go_wp2
        go_ret
        exact ⟨rfl, hb1.trans (hb2.mono hb1.size)⟩
end Go.Proofs.Ytkeighlcdnfjcaa
namespace Go.Proofs.Ytkeighlcdnfjcaa
open Go.RowKit

theorem IsBytes.belowW {w w' : World} {a : Option Addr} {len cap : Nat} {zs : List Int} (h : IsBytes w a len cap zs) (hb : Below w.heap.size w w') : IsBytes w' a len cap zs := by
  rcases h with h | ⟨x, h1, h2, h3, h4, h5, h6⟩
  · exact .inl h
  · refine .inr ⟨x, h1, h2, h3, h4, fun i hi => ?_, h6⟩
    have := h5 i hi
    rw [hb.cell (block_lt_of_cell this)]; exact this
theorem IsBytes.lenW {w : World} {a : Option Addr} {len cap : Nat} {zs : List Int} (h : IsBytes w a len cap zs) : len ≤ maxLen := by
  rcases h with ⟨_, h, _⟩ | ⟨x, h1, h2, h3, h4, h5, h6⟩
  · omega
  · omega
theorem mx10W {s : ByteArray} (h : s.size ≤ 10) : s.size ≤ maxLen := by unfold maxLen; omega

/-- a change of stage n is returned, and the cursor goes on -/
def SomeChange (n : Nat) (b : Nat) (a : Option Addr) (len cap m : Nat) (w : World) (e : Ending) (w' : World) : Prop :=
  ∃ l : List Nat, l ∈ chs n ∧ e = .returned (.string (txt l)) ∧ Cur w' b a len cap m ∧ Only b w w'

set_option maxRecDepth 100000 in
set_option maxHeartbeats 1000000 in
theorem change_draw (b : Nat) (a : Option Addr) (len cap m n : Nat) (hm : m ≤ 900000) (h3 : 3 ≤ n) (h8 : n ≤ 8) (w : World) (hc : Cur w b a len cap m) :
    Calls Try.prog 45 #[.pointer (some ⟨b, 0, none⟩), .int .i64 n] w (SomeChange n b a len cap (m + 2) w) := by
  have HC := Lib.hid hc
  have hlt := hc.lt
  clear hc
  obtain ⟨hl1, hl2⟩ := chs_len n h3 h8
  have HALL := Lib.hid (l2All_any n h3 h8)
  have HIN : Hid (∀ i (h : i < (chs n).length), (chs n)[i] ∈ chs n) := Lib.hid (fun i h => List.getElem_mem h)
  obtain ⟨q, hq⟩ : ∃ q, (chs n).length = q := ⟨_, rfl⟩
  have HQ := Lib.hid hq
  rw [hq] at hl1 hl2
  clear hq
  have hq' : (q : Int) ≤ 100 := by omega
  go_enter Try.func45, Try.ntmps45
  go_wp2_with fail
  refine (HALL.out _).mono ?_
  rintro e w1 ⟨v, rfl, hn1, hb1⟩
  obtain ⟨a1, cap1, rfl, ha⟩ := hn1.own.view
  rw [strs_len, HQ.out] at hn1 ha ⊢
  obtain ⟨g, rfl⟩ := ha (by omega)
  have hgb := hn1.base g rfl
  have HV := Lib.hid hn1.own
  have HC1 := Lib.hid (HC.out.below hb1)
  have HO1 := Lib.hid (Only.of_below (b := b) hb1)
  clear hn1 hb1 ha
  go_wp2_with fail
  refine (pick_any b a len cap m q hm hl2 (by omega) _ HC1.out).mono ?_
  rintro e w2 ⟨x, hx, rfl, hc2, ho2⟩
  have hxl : x < (chs n).length := by rw [HQ.out]; exact hx
  have c1 : w2.cell? ⟨g, x, none⟩ = some (.string (txt (chs n)[x])) := by
    have h1 := HV.out.cell x (.string (txt (chs n)[x])) (by simp [strs, hxl])
    rw [World.cell?_of_block (w := w1) (ho2.block g (block_lt_of_cell h1) (by show g ≠ b; omega))]
    exact h1
  have HMEM := Lib.hid (HIN.out x hxl)
  generalize (chs n)[x] = l at *
  have HC2 := Lib.hid hc2
  have HO2 := Lib.hid (HO1.out.trans ho2)
  have hxi : (x : Int) < q := by omega
  clear hc2 ho2
  go_wp2
  go_ret
  exact ⟨l, HMEM.out, rfl, HC2.out, HO2.out⟩

set_option maxRecDepth 100000 in
set_option maxHeartbeats 1000000 in
theorem of_draw (b : Nat) (a : Option Addr) (len cap m n lb lcap : Nat) (L : Nat → ByteArray) (hm : m ≤ 900000) (hn : 1 ≤ n) (hn2 : n ≤ 65536) (w : World) (hc : Cur w b a len cap m) (hne : lb ≠ b)
    (hL : ∀ i, i < n → (L i).size ≤ 10 ∧ w.cell? ⟨lb, i, none⟩ = some (.string (L i))) :
    Calls Try.prog 46 #[.pointer (some ⟨b, 0, none⟩), .slice (some ⟨lb, 0, none⟩) n lcap] w (SomeText 10 b a len cap (m + 2) w) := by
  have HC := Lib.hid hc
  have HL := Lib.hid hL
  clear hc hL
  go_enter Try.func46, Try.ntmps46
  go_wp2_with fail
  refine (pick_any b a len cap m n hm hn hn2 _ HC.out).mono ?_
  rintro e w1 ⟨x, hx, rfl, hc1, ho1⟩
  have HC1 := Lib.hid hc1
  have HO1 := Lib.hid ho1
  have c1 : w1.cell? ⟨lb, x, none⟩ = some (.string (L x)) := by
    have hlt := block_lt_of_cell (HL.out x hx).2
    rw [World.cell?_of_block (w := w) (ho1.block lb hlt hne)]
    exact (HL.out x hx).2
  have hxi : (x : Int) < n := by omega
  have HS := Lib.hid (HL.out x hx).1
  generalize L x = t at c1 HS
  clear hc1 ho1
  go_wp2
  go_ret
  exact ⟨t, HS.out, rfl, HC1.out, HO1.out⟩
end Go.Proofs.Ytkeighlcdnfjcaa
namespace Go.Proofs.Ytkeighlcdnfjcaa
open Go.RowKit

theorem text_cells (W : World) (l : List ByteArray) (T : TypeId) (i : Nat) (hi : i < l.length) : (W.alloc (.cells (l.map Value.string).toArray T)).cell? ⟨W.heap.size, i, none⟩ = some (.string (l.getD i ⟨#[]⟩)) := by
  rw [World.cell?_alloc_at _ _ _ _ rfl]
  simp [hi]
theorem small_of {l : List ByteArray} (h : ∀ s ∈ l, s.size ≤ 10) (i : Nat) : (l.getD i ⟨#[]⟩).size ≤ 10 := by
  rw [List.getD_eq_getElem?_getD]
  by_cases hi : i < l.length
  · rw [List.getElem?_eq_getElem hi]; exact h _ (List.getElem_mem hi)
  · rw [List.getElem?_eq_none (by omega)]; exact Nat.zero_le _
theorem ch_small {n : Nat} (h3 : 3 ≤ n) (h8 : n ≤ 8) {l : List Nat} (hl : l ∈ chs n) : (txt l).size ≤ 10 := by
  have hg := (chs_small n h3 h8 l hl).1
  have : l.length ≤ n - 2 := by simp [goodL] at hg; omega
  rw [txt_size]; omega

theorem ofList_draw (b : Nat) (a : Option Addr) (len cap m : Nat) (l : List ByteArray) (hl : ∀ s ∈ l, s.size ≤ 10) (hm : m ≤ 900000) (hn : 1 ≤ l.length) (hn2 : l.length ≤ 100) (w : World) (hc : Cur w b a len cap m) (T : TypeId) :
    Calls Try.prog 46 #[.pointer (some ⟨b, 0, none⟩), .slice (some ⟨w.heap.size, 0, none⟩) l.length l.length] (w.alloc (.cells (l.map Value.string).toArray T)) fun e w' => ∃ s : ByteArray, s.size ≤ 10 ∧ e = .returned (.string s) ∧ Cur w' b a len cap (m + 2) ∧ Only b w w' := by
  have hlt := hc.lt
  refine (of_draw b a len cap m l.length w.heap.size l.length (fun i => l.getD i ⟨#[]⟩) hm hn (by omega) _ (hc.below ((Below.refl _ _).alloc (Nat.le_refl _) _)) (by omega) (fun i hi => ⟨small_of hl i, text_cells w l T i hi⟩)).mono ?_
  rintro e w' ⟨s, h1, h2, h3, h4⟩
  exact ⟨s, h1, h2, h3, (Only.of_below (b := b) ((Below.refl w.heap.size w).alloc (Nat.le_refl _) _)).trans h4⟩
def few : List ByteArray := [⟨#[45]⟩, ⟨#[49]⟩, ⟨#[49, 52]⟩, ⟨#[120]⟩]
theorem few_small : ∀ s ∈ few, s.size ≤ 10 := by
  intro s hs
  simp only [few, List.mem_cons, List.not_mem_nil, or_false] at hs
  rcases hs with rfl | rfl | rfl | rfl <;> decide
def many : List ByteArray := [⟨#[45]⟩, ⟨#[]⟩, ⟨#[49]⟩, ⟨#[49, 50]⟩, ⟨#[49, 51]⟩, ⟨#[49, 52]⟩, ⟨#[49, 54]⟩, ⟨#[49, 50, 51, 52, 53, 54]⟩, ⟨#[51, 54]⟩, ⟨#[48]⟩, ⟨#[50, 49]⟩]
theorem many_small : ∀ s ∈ many, s.size ≤ 10 := by
  intro s hs
  simp only [many, List.mem_cons, List.not_mem_nil, or_false] at hs
  rcases hs with rfl | rfl | rfl | rfl | rfl | rfl | rfl | rfl | rfl | rfl | rfl <;> decide

set_option maxRecDepth 100000 in
set_option maxHeartbeats 1000000 in
theorem DrawApply_any (a : Option Addr) (len cap : Nat) (zs : List Int) (w : World) (hz : IsBytes w a len cap zs) (hl : len ≤ 1048576) :
    Calls Try.prog 14 #[.slice a len cap] w (SomeStr2 w) := by
  have HCODE := Lib.hid (codeAt_of hz)
  clear hz
  go_enter Try.func14, Try.ntmps14
  go_wp2_with fail
  refine (anyRow_draw w.heap.size a len cap 0 (by omega) _ (cur_new a len cap w HCODE.out hl)).mono ?_
  rintro e w1 ⟨s, hs, rfl, hc1, ho1⟩
  have HC1 := Lib.hid hc1
  have HO1 := Lib.hid ho1
  clear hc1 ho1
  go_wp2_with fail
  refine (l1Row_any s (mx10W hs) _).mono ?_
  rintro e w2 ⟨rfl, hb2⟩
  have HC2 := Lib.hid (HC1.out.below hb2)
  have HO2 := Lib.hid (HO1.out.trans (Only.of_below hb2))
  clear hb2
  cases hg : goodB s
  · clear hg
    go_wp2_with fail
    refine (ofList_draw w.heap.size a len cap _ few few_small (by omega) (by decide) (by decide) _ HC2.out 9).mono ?_
    rintro e w5 ⟨u, hu, rfl, hc5, ho5⟩
    have HO5 := Lib.hid (HO2.out.trans ho5)
    clear hc5 ho5
    go_wp2
    go_ret2
    exact ⟨s, u, hs, hu, rfl, cur_below HO5.out⟩
  · have h3 := (goodB_row hg).three
    have h8 := (goodB_row hg).eight
    have h8' : (s.size : Int) ≤ 8 := by omega
    clear hg
    go_wp2_with fail
    refine (one_any w.heap.size a len cap _ 8 (by omega) (by omega) (by omega) _ HC2.out).mono ?_
    rintro e w3 ⟨t, rfl, hc3, ho3⟩
    have HC3 := Lib.hid hc3
    have HO3 := Lib.hid (HO2.out.trans ho3)
    clear hc3 ho3
    cases t
    · go_wp2_with fail
      refine (change_draw w.heap.size a len cap _ s.size (by omega) h3 h8 _ HC3.out).mono ?_
      rintro e w4 ⟨l, hl4, rfl, hc4, ho4⟩
      have HT := Lib.hid (ch_small h3 h8 hl4)
      have HO4 := Lib.hid (HO3.out.trans ho4)
      clear hc4 ho4 hl4
      go_wp2
      go_ret2
      exact ⟨s, txt l, hs, HT.out, rfl, cur_below HO4.out⟩
    · go_wp2_with fail
      refine (ofList_draw w.heap.size a len cap _ few few_small (by omega) (by decide) (by decide) _ HC3.out 9).mono ?_
      rintro e w5 ⟨u, hu, rfl, hc5, ho5⟩
      have HO5 := Lib.hid (HO3.out.trans ho5)
      clear hc5 ho5
      go_wp2
      go_ret2
      exact ⟨s, u, hs, hu, rfl, cur_below HO5.out⟩

/-- a number and a text of no more than 10 bytes -/
def SomeIntStr (w : World) (e : Ending) (w' : World) : Prop := ∃ (k : Int) (s : ByteArray), s.size ≤ 10 ∧ e = .returned (.tuple #[.int .i64 k, .string s]) ∧ Below w.heap.size w w'

set_option maxRecDepth 100000 in
set_option maxHeartbeats 1000000 in
theorem staged_draw (b : Nat) (a : Option Addr) (len cap m : Nat) (hm : m ≤ 800000) (w : World) (hc : Cur w b a len cap m) :
    Calls Try.prog 56 #[.pointer (some ⟨b, 0, none⟩)] w fun e w' => ∃ (k : Int) (s : ByteArray), s.size ≤ 10 ∧ e = .returned (.tuple #[.int .i64 k, .string s]) ∧ Only b w w' := by
  have HC := Lib.hid hc
  clear hc
  go_enter Try.func56, Try.ntmps56
  go_wp2_with fail
  refine (stage_draw b a len cap m (by omega) _ HC.out).mono ?_
  rintro e w1 ⟨n, ⟨h3, h8⟩, rfl, hc1, ho1⟩
  obtain ⟨q, rfl⟩ := Int.eq_ofNat_of_zero_le (show 0 ≤ n by omega)
  have HC1 := Lib.hid hc1
  have HO1 := Lib.hid ho1
  clear hc1 ho1
  go_wp2_with fail
  refine (one_any b a len cap (m + 2) 6 (by omega) (by omega) (by omega) _ HC1.out).mono ?_
  rintro e w2 ⟨t, rfl, hc2, ho2⟩
  have HC2 := Lib.hid hc2
  have HO2 := Lib.hid (HO1.out.trans ho2)
  clear hc2 ho2
  cases t
  · go_wp2_with fail
    refine (change_draw b a len cap _ q (by omega) (by omega) (by omega) _ HC2.out).mono ?_
    rintro e w3 ⟨l, hl3, rfl, hc3, ho3⟩
    have HT := Lib.hid (ch_small (by omega) (by omega) hl3)
    have HO3 := Lib.hid (HO2.out.trans ho3)
    clear hc3 ho3 hl3
    go_wp2
    go_ret2
    exact ⟨q, txt l, HT.out, rfl, HO3.out⟩
  · go_wp2_with fail
    refine (pick_any b a len cap _ 2 (by omega) (by omega) (by omega) _ HC2.out).mono ?_
    rintro e w3 ⟨x, hx, rfl, hc3, ho3⟩
    have HC3 := Lib.hid hc3
    have HO3 := Lib.hid (HO2.out.trans ho3)
    have hx2 : (x : Int) < 2 := by omega
    clear hc3 ho3 hx
    go_wp2_with fail
    refine (ofList_draw b a len cap _ many many_small (by omega) (by decide) (by decide) _ HC3.out 9).mono ?_
    rintro e w5 ⟨u, hu, rfl, hc5, ho5⟩
    have HO5 := Lib.hid (HO3.out.trans ho5)
    clear hc5 ho5
    go_wp2
    go_ret2
    exact ⟨_, u, hu, rfl, HO5.out⟩

set_option maxRecDepth 100000 in
set_option maxHeartbeats 1000000 in
theorem DrawGoodChange_any (a : Option Addr) (len cap : Nat) (zs : List Int) (w : World) (hz : IsBytes w a len cap zs) (hl : len ≤ 1048576) :
    Calls Try.prog 20 #[.slice a len cap] w (SomeIntStr w) := by
  have HCODE := Lib.hid (codeAt_of hz)
  clear hz
  go_enter Try.func20, Try.ntmps20
  go_wp2_with fail
  refine (staged_draw w.heap.size a len cap 0 (by omega) _ (cur_new a len cap w HCODE.out hl)).mono ?_
  rintro e w1 ⟨k, s, hs, rfl, ho1⟩
  have HO1 := Lib.hid ho1
  clear ho1
  go_wp2
  go_ret2
  exact ⟨k, s, hs, rfl, cur_below HO1.out⟩

set_option maxRecDepth 100000 in
set_option maxHeartbeats 1000000 in
theorem DrawBetweenRows_any (a : Option Addr) (len cap : Nat) (zs : List Int) (w : World) (hz : IsBytes w a len cap zs) (hl : len ≤ 1048576) :
    Calls Try.prog 32 #[.slice a len cap] w (SomeStr2 w) := by
  have HZ := Lib.hid hz
  have HCODE := Lib.hid (codeAt_of hz)
  clear hz
  go_enter Try.func32, Try.ntmps32
  go_wp2_with fail
  refine (anyRow_draw w.heap.size a len cap 0 (by omega) _ (cur_new a len cap w HCODE.out hl)).mono ?_
  rintro e w1 ⟨s, hs, rfl, hc1, ho1⟩
  have HC1 := Lib.hid hc1
  have HO1 := Lib.hid ho1
  clear hc1 ho1
  go_wp2_with fail
  refine (l1Row_any s (mx10W hs) _).mono ?_
  rintro e w2 ⟨rfl, hb2⟩
  have HC2 := Lib.hid (HC1.out.below hb2)
  have HO2 := Lib.hid (HO1.out.trans (Only.of_below hb2))
  clear hb2
  cases hg : goodB s
  · clear hg
    have HB := Lib.hid (cur_below HO2.out)
    go_wp2_with fail
    refine (DrawTimes_any a len cap zs _ (HZ.out.belowW HB.out) hl).mono ?_
    rintro e w3 ⟨t, u, ht, hu, rfl, hb3⟩
    have HB3 := Lib.hid (HB.out.trans (hb3.mono HB.out.size))
    clear hb3
    go_wp2
    go_ret2
    exact ⟨t, u, ht, hu, rfl, HB3.out⟩
  · have h3 := (goodB_row hg).three
    have h8 := (goodB_row hg).eight
    have h8' : (s.size : Int) ≤ 8 := by omega
    have HG := Lib.hid hg
    clear hg
    go_wp2_with fail
    refine (one_any w.heap.size a len cap _ 4 (by omega) (by omega) (by omega) _ HC2.out).mono ?_
    rintro e w3 ⟨t, rfl, hc3, ho3⟩
    have HC3 := Lib.hid hc3
    have HO3 := Lib.hid (HO2.out.trans ho3)
    clear hc3 ho3
    cases t
    · go_wp2_with fail
      refine (change_draw w.heap.size a len cap _ s.size (by omega) h3 h8 _ HC3.out).mono ?_
      rintro e w4 ⟨l, hl4, rfl, hc4, ho4⟩
      have HO4 := Lib.hid (HO3.out.trans ho4)
      have HAP := Lib.hid (l2Apply_any s (txt l) (mx10W (ch_small h3 h8 hl4)) HG.out (by rw [lets_ch h3 h8 hl4]; exact (chs_small s.size h3 h8 l hl4).1))
      have hsz : (appF s (txt l)).size ≤ 10 := by unfold appF; rw [strOf_size]; omega
      generalize appF s (txt l) = T at *
      clear hc4 ho4 hl4
      go_wp2_with fail
      refine (HAP.out _).mono ?_
      rintro e w5 ⟨rfl, hb5⟩
      have HB5 := Lib.hid ((cur_below HO4.out).trans (hb5.mono (cur_below HO4.out).size))
      clear hb5
      go_wp2
      go_ret2
      exact ⟨s, T, hs, hsz, rfl, HB5.out⟩
    · have HB := Lib.hid (cur_below HO3.out)
      go_wp2_with fail
      refine (DrawTimes_any a len cap zs _ (HZ.out.belowW HB.out) hl).mono ?_
      rintro e w4 ⟨t, u, ht, hu, rfl, hb4⟩
      have HB4 := Lib.hid (HB.out.trans (hb4.mono HB.out.size))
      clear hb4
      go_wp2
      go_ret2
      exact ⟨t, u, ht, hu, rfl, HB4.out⟩

set_option maxRecDepth 100000 in
set_option maxHeartbeats 1000000 in
theorem DrawAllChanges_any (a : Option Addr) (len cap : Nat) (zs : List Int) (w : World) (hz : IsBytes w a len cap zs) (hl : len ≤ 1048576) :
    Calls Try.prog 28 #[.slice a len cap] w (SomeInt1 w) := by
  have HZ := Lib.hid hz
  clear hz
  go_enter Try.func28, Try.ntmps28
  go_wp2_with fail
  refine (DrawRoundsOf_any a len cap zs _ HZ.out hl).mono ?_
  rintro e w1 ⟨k, rfl, hb1⟩
  go_wp2
  go_ret
  exact ⟨k, rfl, hb1⟩
end Go.Proofs.Ytkeighlcdnfjcaa
namespace Go.Proofs.Ytkeighlcdnfjcaa

/-- what the law asks of the places and the swaps of a change -/
def pairOk (n : Nat) (l : List Nat) : Bool :=
  decide ((placesOf n l).length + 2 * (swapsOf n l).length = n) && decide ((swapsOf n l).length ≠ 0) &&
  (placesOf n l).all (fun p => decide (1 ≤ p ∧ p ≤ n ∧ cf n l (p - 1) = 48 + p)) &&
  (swapsOf n l).all (fun p => decide (1 ≤ p ∧ p < n ∧ cf n l (p - 1) = 49 + p ∧ cf n l p = 48 + p)) &&
  (List.range n).all (fun i => decide (cf n l (cf n l i - 49) = 49 + i))
structure Pairs (n : Nat) (l : List Nat) : Prop where
  sum : (placesOf n l).length + 2 * (swapsOf n l).length = n
  some : (swapsOf n l).length ≠ 0
  place : ∀ p ∈ placesOf n l, 1 ≤ p ∧ p ≤ n ∧ cf n l (p - 1) = 48 + p
  swap : ∀ p ∈ swapsOf n l, 1 ≤ p ∧ p < n ∧ cf n l (p - 1) = 49 + p ∧ cf n l p = 48 + p
  twice : mulR n (cf n l) (cf n l) = rdf n
theorem pairs_of {n : Nat} {l : List Nat} (h : goodL n l = true) : Pairs n l := by
  have h3 := goodL_three h
  have h8 := goodL_eight h
  have hk : ∀ n, n < 9 → 3 ≤ n → ∀ l ∈ chs n, pairOk n l = true := by decide +kernel
  have := hk n (by omega) h3 l (mem_chs h)
  simp only [pairOk, Bool.and_eq_true, decide_eq_true_eq, List.all_eq_true, List.mem_range] at this
  obtain ⟨⟨⟨⟨a1, a2⟩, a3⟩, a4⟩, a5⟩ := this
  have hr := isRow_cf h
  exact ⟨a1, a2, a3, a4, row_ext (isRow_mul hr hr) (isRow_rdf h3 h8) fun i hi => by
    rw [mulR_at _ _ hi, a5 i hi]; simp [rdf, hi]⟩
theorem ord_two {n : Nat} {l : List Nat} (h : goodL n l = true) : IsOrd n (cf n l) 2 := by
  have h3 := goodL_three h
  have h8 := goodL_eight h
  have hr := isRow_cf h
  have h1 : powR n (cf n l) 1 = cf n l := by
    show mulR n (rdf n) (cf n l) = cf n l
    exact rounds_mul hr
  refine ⟨by omega, by omega, ?_, fun j hj1 hj2 => ?_⟩
  · show mulR n (powR n (cf n l) 1) (cf n l) = rdf n
    rw [h1]; exact (pairs_of h).twice
  · obtain rfl : j = 1 := by omega
    rw [h1]
    obtain ⟨_, _, _, i, hi, hne⟩ := chs_small n h3 h8 l (mem_chs h)
    exact fun e => hne (by rw [e])
theorem mir_good {n : Nat} {l : List Nat} (h : goodL n l = true) : goodL n (mirL n l) = true ∧ mirL n (mirL n l) = l := by
  have := mirrors n (goodL_three h) (goodL_eight h) l (mem_chs h)
  simp only [mirOk, Bool.and_eq_true, beq_iff_eq] at this
  exact ⟨this.1.1.1.1.2, this.1.1.1.2⟩
end Go.Proofs.Ytkeighlcdnfjcaa
namespace Go.Proofs.Ytkeighlcdnfjcaa
open Go.RowKit

theorem app_of {n : Nat} {f : Nat → Nat} (hf : IsRow n f) (s : ByteArray) : appF (strOf n f) s = strOf n (mulR n f (cf n (lets s))) := by
  unfold appF
  rw [strOf_size, dg_strOf hf, strOf_mul]
theorem lets_mir {n : Nat} {l : List Nat} (h : goodL n l = true) : lets (txt (mirL n l)) = mirL n l := by
  have hg := (mir_good h).1
  exact lets_ch (goodL_three h) (goodL_eight h) (mem_chs hg)
/-- the row of a change, the mirrored change, for whatever arguments -/
def crS (n : Int) (s : ByteArray) : ByteArray := if goodC n s = true then strOf n.toNat (cf n.toNat (lets s)) else ⟨#[]⟩
def miS (n : Int) (s : ByteArray) : ByteArray := if goodC n s = true then txt (mirL n.toNat (lets s)) else ⟨#[]⟩
theorem iChangeRow_any (n : Int) (s : ByteArray) (w : World) :
    Calls Try.prog 21 #[.int .i64 n, .string s] w fun e w' => e = .returned (.tuple #[.string (crS n s), .bool (goodC n s)]) ∧ Below w.heap.size w w' := by
  unfold crS
  cases h : goodC n s
  · exact iChangeRow_no n s h w
  · obtain ⟨m, rfl, hg⟩ := goodC_stage h
    exact iChangeRow_yes m s hg w
theorem sChangeRow_any (n : Int) (s : ByteArray) (hs : s.size ≤ maxLen) (w : World) :
    Calls Try.prog 22 #[.int .i64 n, .string s] w fun e w' => e = .returned (.tuple #[.string (crS n s), .bool (goodC n s)]) ∧ Below w.heap.size w w' := by
  unfold crS
  cases h : goodC n s
  · exact (sChangeRow_no n s hs h w).mono fun e w' ⟨h1, h2⟩ => ⟨h1, h2 ▸ Below.refl _ _⟩
  · obtain ⟨m, rfl, hg⟩ := goodC_stage h
    exact sChangeRow_yes m s hs hg w
theorem iMirrorChange_any (n : Int) (s : ByteArray) (w : World) :
    Calls Try.prog 23 #[.int .i64 n, .string s] w fun e w' => e = .returned (.tuple #[.string (miS n s), .bool (goodC n s)]) ∧ Below w.heap.size w w' := by
  unfold miS
  cases h : goodC n s
  · exact iMirrorChange_no n s h w
  · obtain ⟨m, rfl, hg⟩ := goodC_stage h
    exact iMirrorChange_yes m s hg w
theorem sMirrorChange_any (n : Int) (s : ByteArray) (hs : s.size ≤ maxLen) (w : World) :
    Calls Try.prog 24 #[.int .i64 n, .string s] w fun e w' => e = .returned (.tuple #[.string (miS n s), .bool (goodC n s)]) ∧ Below w.heap.size w w' := by
  unfold miS
  cases h : goodC n s
  · exact (sMirrorChange_no n s hs h w).mono fun e w' ⟨h1, h2⟩ => ⟨h1, h2 ▸ Below.refl _ _⟩
  · obtain ⟨m, rfl, hg⟩ := goodC_stage h
    exact sMirrorChange_yes m s hs hg w
theorem crS_yes {n : Nat} {s : ByteArray} (h : goodL n (lets s) = true) : crS n s = strOf n (cf n (lets s)) := by
  unfold crS
  rw [if_pos (by rw [goodC_in]; exact h)]
  rfl
theorem miS_yes {n : Nat} {s : ByteArray} (h : goodL n (lets s) = true) : miS n s = txt (mirL n (lets s)) := by
  unfold miS
  rw [if_pos (by rw [goodC_in]; exact h)]
  rfl
end Go.Proofs.Ytkeighlcdnfjcaa
