/- What the law FnStarts wants of a method that starts elsewhere. -/
import Derived.Test.YtfocnflnpabmkaaG5
import Derived.Test.YtfocnflnpabmkaaD18
import Derived.Test.YtfocnflnpabmkaaD14
import Derived.Test.YtfocnflnpabmkaaD4
import Derived.Test.YtfocnflnpabmkaaD5
namespace Go.Proofs.Ytfocnflnpabmkaa
open Go.RowKit
set_option linter.unusedSimpArgs false
set_option linter.unusedVariables false

theorem small10s {L : List (List Nat)} (h : ∀ l ∈ L, l.length ≤ 10) : Small L := fun l hl => by
  have := h l hl
  unfold maxLen
  omega
theorem twoB_rows {n : Nat} {f g : Nat → Nat} (hf : IsRow n f) (hg : IsRow n g) : twoB (strOf n f) (strOf n g) = true := by
  unfold twoB
  rw [goodB_strOf hf, goodB_strOf hg, strOf_size, strOf_size]
  simp
theorem iTimes_rows {n : Nat} {f g : Nat → Nat} (hf : IsRow n f) (hg : IsRow n g) (w : World) :
    Calls Try.prog 25 #[.string (strOf n f), .string (strOf n g)] w fun e w' => e = .returned (.tuple #[.string (strOf n (mulR n f g)), .bool true]) ∧ Below w.heap.size w w' := by
  have h := iTimes_yes (strOf n f) (strOf n g) (mx_row f hf.eight) (mx_row g hg.eight) (twoB_rows hf hg) w
  rw [strOf_size, dg_strOf hf, dg_strOf hg, strOf_mul] at h
  exact h
theorem iTurnRow_row {n : Nat} {f : Nat → Nat} (hf : IsRow n f) (w : World) :
    Calls Try.prog 24 #[.string (strOf n f)] w fun e w' => e = .returned (.tuple #[.string (strOf n (invF n f)), .bool true]) ∧ Below w.heap.size w w' := by
  have h := iTurnRow_any (strOf n f) (mx_row f hf.eight) true (goodB_strOf hf) w
  rw [strOf_size, dg_strOf hf] at h
  exact h.mono fun e w' he => ⟨by rw [he.1, if_pos rfl], he.2⟩
theorem goodAll_turn {n : Int} {L : List (List Nat)} (h : goodAll n L = true) (k : Nat) (hk : k < L.length) : goodAll n (L.drop k ++ L.take k) = true := by
  have hlen := goodAll_len h
  have hall := goodAll_mem h
  unfold goodAll
  rw [Bool.and_eq_true, Bool.and_eq_true, decide_eq_true_eq, decide_eq_true_eq, List.all_eq_true]
  have e : (L.drop k ++ L.take k).length = L.length := by simp; omega
  refine ⟨⟨by rw [e]; exact hlen.1, by rw [e]; exact hlen.2⟩, fun l hl => ?_⟩
  rcases List.mem_append.1 hl with h9 | h9
  · exact hall l (List.mem_of_mem_drop h9)
  · exact hall l (List.mem_of_mem_take h9)
theorem goodM_turn {s : ByteArray} {n : Int} {L : List (List Nat)} (h : goodM s n L = true) (k : Nat) (hk : k < L.length) : goodM s n (L.drop k ++ L.take k) = true := by
  have := goodM_parts h
  unfold goodM
  rw [goodAll_turn this.1 k hk, this.2]
  rfl

/-- what the law runs on a good method that starts at change k -/
structure Starts (s : ByteArray) (n : Int) (L : List (List Nat)) (r : Int) (sp : ByteArray) (np : Int) (P : List (List Nat)) (q k o : Nat) (H G R C T X : ByteArray) (rl : List (List Nat)) : Prop where
  hq : n = (q : Int)
  hk : r = (k : Int)
  lt : k < L.length
  len : L.length ≤ 40
  rlen : rl.length = L.length
  at' : txt (rl.getD k []) = C
  head : ∀ u w, Txts w u L → Calls Try.prog 21 #[.agg #[.string s, .int .i64 n, u]] w fun e w' => e = .returned (.tuple #[.string H, .bool true]) ∧ Below w.heap.size w w'
  head' : ∀ u w, Txts w u P → Calls Try.prog 21 #[.agg #[.string sp, .int .i64 np, u]] w fun e w' => e = .returned (.tuple #[.string G, .bool true]) ∧ Below w.heap.size w w'
  rounds : ∀ w, Calls Try.prog 22 #[.int .i64 n] w fun e w' => e = .returned (.tuple #[.string R, .bool true]) ∧ Below w.heap.size w w'
  rows : ∀ u w, Txts w u L → Calls Try.prog 23 #[.agg #[.string s, .int .i64 n, u], .string R] w (TextsAny rl true w)
  turn : ∀ w, Calls Try.prog 24 #[.string C] w fun e w' => e = .returned (.tuple #[.string T, .bool true]) ∧ Below w.heap.size w w'
  times : ∀ w, Calls Try.prog 25 #[.string H, .string C] w fun e w' => e = .returned (.tuple #[.string X, .bool true]) ∧ Below w.heap.size w w'
  times' : ∀ w, Calls Try.prog 25 #[.string T, .string X] w fun e w' => e = .returned (.tuple #[.string G, .bool true]) ∧ Below w.heap.size w w'
  leads : ∀ u w, Txts w u L → Calls Try.prog 26 #[.agg #[.string s, .int .i64 n, u]] w fun e w' => e = .returned (.tuple #[.int .i64 o, .bool true]) ∧ Below w.heap.size w w'
  leads' : ∀ u w, Txts w u P → Calls Try.prog 26 #[.agg #[.string sp, .int .i64 np, u]] w fun e w' => e = .returned (.tuple #[.int .i64 o, .bool true]) ∧ Below w.heap.size w w'

theorem startFacts (s : ByteArray) (hs : s.size ≤ maxLen) (n : Int) (L : List (List Nat)) (hl : L.length ≤ 2000000) (hsm : Small L) (r : Int) :
    ∃ (sp : ByteArray) (np : Int) (P : List (List Nat)), P.length ≤ 1000 ∧
      (∀ u w, Txts w u L → Calls Try.prog 18 #[.agg #[.string s, .int .i64 n, u], .int .i64 r] w (MethAny sp np P (startB s n L r) w)) ∧
      (∀ u w, Txts w u L → Calls Try.prog 19 #[.agg #[.string s, .int .i64 n, u], .int .i64 r] w (MethAny sp np P (startB s n L r) w)) ∧
      (startB s n L r = true → ∃ (q k o : Nat) (H G R C T X : ByteArray) (rl : List (List Nat)), Starts s n L r sp np P q k o H G R C T X rl) := by
  cases hb : startB s n L r
  · exact ⟨_, _, [], by simp, fun u w h => iStartAt_no s hs n u L r w h hl hb, fun u w h => sStartAt_no s hs n u L r w h hl hsm hb, fun h => by cases h⟩
  · unfold startB at hb
    rw [Bool.and_eq_true, Bool.and_eq_true, decide_eq_true_eq, decide_eq_true_eq] at hb
    obtain ⟨hg, h0, hlt⟩ := hb
    obtain ⟨k, rfl⟩ : ∃ k : Nat, r = k := ⟨r.toNat, by omega⟩
    have hk : k < L.length := by omega
    have hlen := goodAll_len (goodM_parts hg).1
    obtain ⟨q, rfl⟩ := good_cast hg
    have h9 := goodM_nat hg
    have hg' := goodM_turn hg k hk
    obtain ⟨o, ho⟩ := good_ord hg
    have hA : Rows q ((chR q L).take k) := h9.2.2.1.take k
    have hB : Rows q ((chR q L).drop k) := h9.2.2.1.drop k
    have hcs : chR q L = (chR q L).take k ++ (chR q L).drop k := (List.take_append_drop k _).symm
    have hrA := isRow_head h9.1 h9.2.1 hA
    have hrB := isRow_head h9.1 h9.2.1 hB
    have hh : headF q (chR q L) = mulR q (headF q ((chR q L).take k)) (headF q ((chR q L).drop k)) := by
      have := headF_app h9.1 h9.2.1 hA hB
      rwa [← hcs] at this
    have hp : chR q (L.drop k ++ L.take k) = (chR q L).drop k ++ (chR q L).take k := by simp [chR]
    have hh' : headF q (chR q (L.drop k ++ L.take k)) = mulR q (headF q ((chR q L).drop k)) (headF q ((chR q L).take k)) := by
      rw [hp]
      exact headF_app h9.1 h9.2.1 hB hA
    have ho' : IsOrd q (headF q (chR q (L.drop k ++ L.take k))) o := by
      rw [hh']
      rw [hh] at ho
      exact ord_swap hrA hrB ho
    have hrd := isRow_rdf h9.1 h9.2.1
    have hlb : leadB s q L (strOf q (rdf q)) = true := by
      unfold leadB
      rw [hg, goodB_strOf hrd, strOf_size]
      simp
    have hll : leadL s q L (strOf q (rdf q)) = rowsL q (leadF q (chR q L) (rdf q)) := by
      unfold leadL
      rw [if_pos hlb, dg_strOf hrd]
      rfl
    have hprod : mulR q (invF q (headF q ((chR q L).take k))) (mulR q (headF q (chR q L)) (headF q ((chR q L).take k))) = headF q (chR q (L.drop k ++ L.take k)) := by
      rw [hh, hh', mulR_assoc hrA hrB hrA, ← mulR_assoc (isRow_inv hrA) hrA (isRow_mul hrB hrA), inv_mul hrA, rounds_mul (isRow_mul hrB hrA)]
    have hrH := isRow_head h9.1 h9.2.1 h9.2.2.1
    refine ⟨s, (q : Int), L.drop k ++ L.take k, by simp; omega, fun u w h => iStartAt_yes s hs q u L k w h hl hg hk, fun u w h => sStartAt_yes s hs q u L k w h hl hsm hg hk, fun _ => ⟨q, k, o, strOf q (headF q (chR q L)), strOf q (headF q (chR q (L.drop k ++ L.take k))), strOf q (rdf q), strOf q (headF q ((chR q L).take k)), strOf q (invF q (headF q ((chR q L).take k))), strOf q (mulR q (headF q (chR q L)) (headF q ((chR q L).take k))), rowsL q (leadF q (chR q L) (rdf q)), rfl, rfl, hk, hlen.2, ?_, ?_, fun u w h => iLeadHead_yes s hs q u L w h hl hg, fun u w h => iLeadHead_yes s hs q u _ w h (by simp; omega) hg', fun w => ?_, fun u w h => ?_, fun w => iTurnRow_row hrA w, fun w => iTimes_rows hrH hrA w, fun w => ?_, fun u w h => iLeadsIn_yes s hs q u L w h hl hg o ho, fun u w h => iLeadsIn_yes s hs q u _ w h (by simp; omega) hg' o ho'⟩⟩
    · rw [rowsL_len, leadF_len, chR_len]
    · have h1 := leadF_at (n := q) (chR q L) (rdf q) k (by rw [chR_len]; exact hk)
      have h2 : (rowsL q (leadF q (chR q L) (rdf q))).getD k [] = rowL q (headF q ((chR q L).take k)) := by
        rw [List.getD_eq_getElem?_getD]
        unfold rowsL
        rw [List.getElem?_map, h1]
        rfl
      rw [h2, txt_rowL]
    · rw [strOf_rdf]
      exact iRoundsOf_yes q h9.1 h9.2.1 w
    · have h1 := iLeadRows_any s hs q u L (strOf q (rdf q)) (mx_row _ h9.2.1) w h hl
      rw [hlb, hll] at h1
      exact h1
    · have h1 := iTimes_rows (isRow_inv hrA) (isRow_mul hrH hrA) w
      rw [hprod] at h1
      exact h1
end Go.Proofs.Ytfocnflnpabmkaa
