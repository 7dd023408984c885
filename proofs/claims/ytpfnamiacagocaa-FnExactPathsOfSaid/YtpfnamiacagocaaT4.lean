/- NotationText in the program and in the model. -/
import Derived.Test.YtpfnamiacagocaaT3
namespace Go.Proofs.Ytpfnamiacagocaa
open Go.RowKit
set_option linter.unusedSimpArgs false

theorem goodC_len {n : Int} {l : List Nat} (h : goodC n (txt l) = true) : l.length ≤ 6 := by
  obtain ⟨m, rfl, hg⟩ := goodC_stage h
  have h8 := goodL_eight hg
  have : (lets (txt l)).length ≤ m - 2 := by
    simp only [goodL, Bool.and_eq_true, decide_eq_true_eq] at hg
    exact hg.1.2
  rw [lets_len, txt_size] at this
  omega
theorem textT_len : ∀ (L : List (List Nat)) (d : Bool), (∀ l ∈ L, l.length ≤ 6) → (textT d L).length ≤ 7 * L.length
  | [], _, _ => by simp [textT]
  | c :: t, d, h => by
    have := textT_len t (isDash c) (fun l hl => h l (List.mem_cons_of_mem _ hl))
    have hc := h c List.mem_cons_self
    simp only [textT, List.length_append, List.length_cons]
    split
    · omega
    · simp only [List.length_cons]; omega
theorem goodAll_mem {n : Int} {L : List (List Nat)} (h : goodAll n L = true) : ∀ l ∈ L, goodC n (txt l) = true := by
  unfold goodAll at h
  simp only [Bool.and_eq_true] at h
  exact List.all_eq_true.1 h.2
theorem goodAll_len {n : Int} {L : List (List Nat)} (h : goodAll n L = true) : 1 ≤ L.length ∧ L.length ≤ 40 := by
  unfold goodAll at h
  simp only [Bool.and_eq_true, decide_eq_true_eq] at h
  exact h.1
theorem goodAll_text {n : Int} {L : List (List Nat)} (h : goodAll n L = true) : (textT true L).length ≤ 280 := by
  have h1 := textT_len L true (fun l hl => goodC_len (goodAll_mem h l hl))
  have h2 := goodAll_len h
  omega
/-- the text, if these are changes -/
def noteT (n : Int) (L : List (List Nat)) : List Nat := if goodAll n L = true then textT true L else []
def TextRes (r : List Nat) (b : Bool) (w : World) (e : Ending) (w' : World) : Prop := e = .returned (.tuple #[.string (txt r), .bool b]) ∧ Below w.heap.size w w'

end Go.Proofs.Ytpfnamiacagocaa
