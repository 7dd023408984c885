/- What the law FnStarts wants of a method that starts elsewhere. -/
import Derived.Test.YtnoepobbecobbaaG5
import Derived.Test.YtnoepobbecobbaaD18
import Derived.Test.YtnoepobbecobbaaD14
import Derived.Test.YtnoepobbecobbaaD4
import Derived.Test.YtnoepobbecobbaaD5
namespace Go.Proofs.Ytnoepobbecobbaa
open Go.RowKit
set_option linter.unusedSimpArgs false
set_option linter.unusedVariables false

theorem small10s {L : List (List Nat)} (h : ∀ l ∈ L, l.length ≤ 10) : Small L := fun l hl => by
  have := h l hl
  unfold maxLen
  omega
theorem twoB_rows {n : Nat} {f g : Nat → Nat} (hf : IsRow n f) (hg : IsRow n g) : twoB (strOf n f) (strOf n g) = true := by
  unfold twoB
  rw [goodB_strOf hf, goodB_strOf hg, strOf_size, strOf_size]
  simp
theorem iTimes_rows {n : Nat} {f g : Nat → Nat} (hf : IsRow n f) (hg : IsRow n g) (w : World) :
    Calls Try.prog 50 #[.string (strOf n f), .string (strOf n g)] w fun e w' => e = .returned (.tuple #[.string (strOf n (mulR n f g)), .bool true]) ∧ Below w.heap.size w w' := by
  have h := iTimes_yes (strOf n f) (strOf n g) (mx_row f hf.eight) (mx_row g hg.eight) (twoB_rows hf hg) w
  rw [strOf_size, dg_strOf hf, dg_strOf hg, strOf_mul] at h
  exact h
theorem iTurnRow_row {n : Nat} {f : Nat → Nat} (hf : IsRow n f) (w : World) :
    Calls Try.prog 52 #[.string (strOf n f)] w fun e w' => e = .returned (.tuple #[.string (strOf n (invF n f)), .bool true]) ∧ Below w.heap.size w w' := by
  have h := iTurnRow_any (strOf n f) (mx_row f hf.eight) true (goodB_strOf hf) w
  rw [strOf_size, dg_strOf hf] at h
  exact h.mono fun e w' he => ⟨by rw [he.1, if_pos rfl], he.2⟩
theorem goodAll_turn {n : Int} {L : List (List Nat)} (h : goodAll n L = true) (k : Nat) (hk : k < L.length) : goodAll n (L.drop k ++ L.take k) = true := by
  have hlen := goodAll_len h
  have hall := goodAll_mem h
  unfold goodAll
  rw [Bool.and_eq_true, Bool.and_eq_true, decide_eq_true_eq, decide_eq_true_eq, List.all_eq_true]
  have e : (L.drop k ++ L.take k).length = L.length := by simp; omega
  refine ⟨⟨by rw [e]; exact hlen.1, by rw [e]; exact hlen.2⟩, fun l hl => ?_⟩
  rcases List.mem_append.1 hl with h9 | h9
  · exact hall l (List.mem_of_mem_drop h9)
  · exact hall l (List.mem_of_mem_take h9)
theorem goodM_turn {s : ByteArray} {n : Int} {L : List (List Nat)} (h : goodM s n L = true) (k : Nat) (hk : k < L.length) : goodM s n (L.drop k ++ L.take k) = true := by
  have := goodM_parts h
  unfold goodM
  rw [goodAll_turn this.1 k hk, this.2]
  rfl

end Go.Proofs.Ytnoepobbecobbaa
