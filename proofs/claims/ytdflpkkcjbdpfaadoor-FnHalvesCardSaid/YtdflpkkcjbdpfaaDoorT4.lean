/- NotationText in the program and in the model. -/
import Derived.Test.YtdflpkkcjbdpfaaDoorT3
namespace Go.Proofs.YtdflpkkcjbdpfaaDoor
open Go.RowKit
set_option linter.unusedSimpArgs false

theorem goodC_len {n : Int} {l : List Nat} (h : goodC n (txt l) = true) : l.length ≤ 6 := by
  obtain ⟨m, rfl, hg⟩ := goodC_stage h
  have h8 := goodL_eight hg
  have : (lets (txt l)).length ≤ m - 2 := by
    simp only [goodL, Bool.and_eq_true, decide_eq_true_eq] at hg
    exact hg.1.2
  rw [lets_len, txt_size] at this
  omega
theorem textT_len : ∀ (L : List (List Nat)) (d : Bool), (∀ l ∈ L, l.length ≤ 6) → (textT d L).length ≤ 7 * L.length
  | [], _, _ => by simp [textT]
  | c :: t, d, h => by
    have := textT_len t (isDash c) (fun l hl => h l (List.mem_cons_of_mem _ hl))
    have hc := h c List.mem_cons_self
    simp only [textT, List.length_append, List.length_cons]
    split
    · omega
    · simp only [List.length_cons]; omega
theorem goodAll_mem {n : Int} {L : List (List Nat)} (h : goodAll n L = true) : ∀ l ∈ L, goodC n (txt l) = true := by
  unfold goodAll at h
  simp only [Bool.and_eq_true] at h
  exact List.all_eq_true.1 h.2
theorem goodAll_len {n : Int} {L : List (List Nat)} (h : goodAll n L = true) : 1 ≤ L.length ∧ L.length ≤ 40 := by
  unfold goodAll at h
  simp only [Bool.and_eq_true, decide_eq_true_eq] at h
  exact h.1
theorem goodAll_text {n : Int} {L : List (List Nat)} (h : goodAll n L = true) : (textT true L).length ≤ 280 := by
  have h1 := textT_len L true (fun l hl => goodC_len (goodAll_mem h l hl))
  have h2 := goodAll_len h
  omega
/-- the text, if these are changes -/
def noteT (n : Int) (L : List (List Nat)) : List Nat := if goodAll n L = true then textT true L else []
def TextRes (r : List Nat) (b : Bool) (w : World) (e : Ending) (w' : World) : Prop := e = .returned (.tuple #[.string (txt r), .bool b]) ∧ Below w.heap.size w w'

set_option maxRecDepth 100000 in
set_option maxHeartbeats 1000000 in
theorem sNotationText_any (n : Int) (v : Value) (L : List (List Nat)) (w : World) (h : Txts w v L) (hl : L.length ≤ 2000000) (hs : ∀ l ∈ L, l.length ≤ maxLen) :
    Calls Tryd.prog 22 #[.int .i64 n, v] w (TextRes (noteT n L) (goodAll n L) w) := by
  have hG := l3List_any n v L w h hl hs
  have HH := Lib.hid h
  cases hg : goodAll n L
  · rw [hg] at hG
    have hr : noteT n L = [] := by unfold noteT; rw [hg]; rfl
    rw [hr]
    clear hg hr
    go_enter Tryd.func22, Tryd.ntmps22
    go_wp2_with fail
    refine hG.mono ?_
    rintro e w1 ⟨rfl, rfl⟩
    go_wp2
    go_ret2
    exact ⟨rfl, Below.refl _ _⟩
  · rw [hg] at hG
    have hr : noteT n L = textT true L := by unfold noteT; rw [hg]; rfl
    have hJ : Hid (∀ u w, Txts w u L → Calls Tryd.prog 44 #[u] w _) := Lib.hid (fun u w h => l3Text_any u L w h (by have := goodAll_len hg; omega) (by have := goodAll_text hg; omega))
    rw [hr]
    generalize textT true L = tot at *
    clear hg hr
    go_enter Tryd.func22, Tryd.ntmps22
    go_wp2_with fail
    refine hG.mono ?_
    rintro e w1 ⟨rfl, rfl⟩
    go_wp2_with fail
    refine (hJ.out _ _ HH.out).mono ?_
    rintro e w2 ⟨rfl, rfl⟩
    go_wp2
    go_ret2
    exact ⟨rfl, Below.refl _ _⟩
end Go.Proofs.YtdflpkkcjbdpfaaDoor
