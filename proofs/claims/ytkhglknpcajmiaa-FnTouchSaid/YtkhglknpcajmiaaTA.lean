/- Lists of changes: whether they are good; their texts. The text of a list of changes. The text of a list of changes in the model. NotationText in the program and in the model. -/
import Derived.Test.YtkhglknpcajmiaaC3
import Derived.Test.YtkhglknpcajmiaaK3
namespace Go.Proofs.Ytkhglknpcajmiaa
open Go.RowKit
set_option linter.unusedSimpArgs false

/-- 1 to 40 changes of stage n -/
def goodAll (n : Int) (L : List (List Nat)) : Bool := decide (1 ≤ L.length) && decide (L.length ≤ 40) && L.all (fun l => goodC n (txt l))

theorem goodC_range {n : Int} {s : ByteArray} (h : goodC n s = true) : 3 ≤ n ∧ n ≤ 8 := by
  obtain ⟨m, rfl, hg⟩ := goodC_stage h
  have := goodL_three hg
  have := goodL_eight hg
  omega

end Go.Proofs.Ytkhglknpcajmiaa
namespace Go.Proofs.Ytkhglknpcajmiaa
open Go.RowKit
set_option linter.unusedSimpArgs false

def isDash (l : List Nat) : Bool := (txt l).toList == [45]
/-- the text of these changes behind another, which is - or none, if d -/
def textT : Bool → List (List Nat) → List Nat
  | _, [] => []
  | d, c :: t => (if isDash c || d then c else 46 :: c) ++ textT (isDash c) t
def prevD (L : List (List Nat)) (j : Nat) : Bool := if j = 0 then true else isDash (L.getD (j - 1) [])
theorem textT_step (L : List (List Nat)) (j : Nat) (hj : j < L.length) : textT (prevD L j) (L.drop j) = (if isDash L[j] || prevD L j then L[j] else 46 :: L[j]) ++ textT (prevD L (j + 1)) (L.drop (j + 1)) := by
  rw [List.drop_eq_getElem_cons hj]
  have : prevD L (j + 1) = isDash L[j] := by simp [prevD, List.getD_eq_getElem?_getD, hj]
  rw [this]
  rfl
theorem ofNat_snoc (l : List Nat) (x : List Nat) : (l ++ x).map UInt8.ofNat = l.map UInt8.ofNat ++ (txt x).data.toList := by simp [txt]
end Go.Proofs.Ytkhglknpcajmiaa
namespace Go.Proofs.Ytkhglknpcajmiaa
open Go.RowKit
set_option linter.unusedSimpArgs false

end Go.Proofs.Ytkhglknpcajmiaa
namespace Go.Proofs.Ytkhglknpcajmiaa
open Go.RowKit
set_option linter.unusedSimpArgs false

theorem goodC_len {n : Int} {l : List Nat} (h : goodC n (txt l) = true) : l.length ≤ 6 := by
  obtain ⟨m, rfl, hg⟩ := goodC_stage h
  have h8 := goodL_eight hg
  have : (lets (txt l)).length ≤ m - 2 := by
    simp only [goodL, Bool.and_eq_true, decide_eq_true_eq] at hg
    exact hg.1.2
  rw [lets_len, txt_size] at this
  omega
theorem textT_len : ∀ (L : List (List Nat)) (d : Bool), (∀ l ∈ L, l.length ≤ 6) → (textT d L).length ≤ 7 * L.length
  | [], _, _ => by simp [textT]
  | c :: t, d, h => by
    have := textT_len t (isDash c) (fun l hl => h l (List.mem_cons_of_mem _ hl))
    have hc := h c List.mem_cons_self
    simp only [textT, List.length_append, List.length_cons]
    split
    · omega
    · simp only [List.length_cons]; omega
theorem goodAll_mem {n : Int} {L : List (List Nat)} (h : goodAll n L = true) : ∀ l ∈ L, goodC n (txt l) = true := by
  unfold goodAll at h
  simp only [Bool.and_eq_true] at h
  exact List.all_eq_true.1 h.2
theorem goodAll_len {n : Int} {L : List (List Nat)} (h : goodAll n L = true) : 1 ≤ L.length ∧ L.length ≤ 40 := by
  unfold goodAll at h
  simp only [Bool.and_eq_true, decide_eq_true_eq] at h
  exact h.1
theorem goodAll_text {n : Int} {L : List (List Nat)} (h : goodAll n L = true) : (textT true L).length ≤ 280 := by
  have h1 := textT_len L true (fun l hl => goodC_len (goodAll_mem h l hl))
  have h2 := goodAll_len h
  omega
/-- the text, if these are changes -/
def noteT (n : Int) (L : List (List Nat)) : List Nat := if goodAll n L = true then textT true L else []
def TextRes (r : List Nat) (b : Bool) (w : World) (e : Ending) (w' : World) : Prop := e = .returned (.tuple #[.string (txt r), .bool b]) ∧ Below w.heap.size w w'

end Go.Proofs.Ytkhglknpcajmiaa
