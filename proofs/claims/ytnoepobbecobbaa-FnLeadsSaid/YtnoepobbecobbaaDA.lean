/- Methods: what both sides give alike: GoodMethod, LeadHead, LeadsIn. Laws on lists: marks; what both sides give alike: LeadRows, CourseRows. HuntBells in the model, and the law. -/
import Derived.Test.YtnoepobbecobbaaD1
import Derived.Test.YtnoepobbecobbaaNA
import Derived.Test.YtnoepobbecobbaaCB
import Derived.Deep.RegionHeld3
namespace Go.Proofs.Ytnoepobbecobbaa
open Go.RowKit
set_option linter.unusedSimpArgs false
set_option linter.unusedVariables false

theorem small_letss {ss : List ByteArray} (h : ∀ t ∈ ss, t.size ≤ maxLen) : Small (letss ss) := fun l hl => by
  simp only [letss, List.mem_map] at hl
  obtain ⟨x, hx, rfl⟩ := hl
  have := h x hx
  simpa [lets] using this
theorem bothGoodMethod (s : ByteArray) (hs : s.size ≤ maxLen) (n : Int) (L : List (List Nat)) (hl : L.length ≤ 2000000) (hsm : Small L) :
    ∃ b : Bool, (∀ u w, Txts w u L → Calls Try.prog 47 #[.agg #[.string s, .int .i64 n, u]] w fun e w' => e = .returned (.bool b) ∧ Below w.heap.size w w') ∧
      (∀ u w, Txts w u L → Calls Try.prog 48 #[.agg #[.string s, .int .i64 n, u]] w fun e w' => e = .returned (.bool b) ∧ Below w.heap.size w w') :=
  ⟨_, fun u w h => iGoodMethod_any s hs n u L w h hl, fun u w h => sGoodMethod_any s hs n u L w h hl hsm⟩
theorem good_cast {s : ByteArray} {n : Int} {L : List (List Nat)} (h : goodM s n L = true) : ∃ k : Nat, n = k := by
  have := goodAll_range (goodM_parts h).1
  exact ⟨n.toNat, by omega⟩
theorem good_ord {s : ByteArray} {n : Nat} {L : List (List Nat)} (h : goodM s n L = true) : ∃ k, IsOrd n (headF n (chR n L)) k := by
  have h9 := goodM_nat h
  exact ord_exists (isRow_head h9.1 h9.2.1 h9.2.2.1)
theorem bothLeadsIn (s : ByteArray) (hs : s.size ≤ maxLen) (n : Int) (L : List (List Nat)) (hl : L.length ≤ 2000000) (hsm : Small L) :
    ∃ (t : Int) (b : Bool), (∀ u w, Txts w u L → Calls Try.prog 57 #[.agg #[.string s, .int .i64 n, u]] w fun e w' => e = .returned (.tuple #[.int .i64 t, .bool b]) ∧ Below w.heap.size w w') ∧
      (∀ u w, Txts w u L → Calls Try.prog 58 #[.agg #[.string s, .int .i64 n, u]] w fun e w' => e = .returned (.tuple #[.int .i64 t, .bool b]) ∧ Below w.heap.size w w') := by
  cases hg : goodM s n L
  · exact ⟨_, _, fun u w h => iLeadsIn_no s hs n u L w h hl hg, fun u w h => sLeadsIn_no s hs n u L w h hl hsm hg⟩
  · obtain ⟨k, rfl⟩ := good_cast hg
    obtain ⟨o, ho⟩ := good_ord hg
    exact ⟨_, _, fun u w h => iLeadsIn_yes s hs k u L w h hl hg o ho, fun u w h => sLeadsIn_yes s hs k u L w h hl hsm hg o ho⟩
end Go.Proofs.Ytnoepobbecobbaa
namespace Go.Proofs.Ytnoepobbecobbaa
open Go.RowKit
set_option linter.unusedSimpArgs false
set_option linter.unusedVariables false

theorem markTexts (B : Nat) (v : Value) (P : List (List Nat)) (w : World) (h : New B w 9 v (strs P)) (hB : B ≤ w.heap.size) (hl : P.length ≤ 1000) :
    Calls Try.prog 21 #[v, .int .i64 1] w fun e w' => e = .returned (.int .i64 (1 + (P.length : Nat))) ∧ Own w' 9 v (strs (smarks 1 P.length)) ∧ Below B w w' :=
  (markStringS_full B v P 1 w h hB (by omega) (by omega) (by omega)).mono fun e w' h => ⟨h.1, h.2.1.own, h.2.2.1⟩
theorem heldTexts (v : Value) (p : Nat) (w : World) (h : Own w 9 v (strs (smarks 1 p))) (hl : p ≤ 1000) :
    Calls Try.prog 33 #[v, .int .i64 1] w fun e w' => e = .returned (.int .i64 (1 + (p : Nat))) ∧ Below w.heap.size w w' :=
  heldStringS_any v p 1 w h (by omega) (by omega) (by omega)
theorem markInts (B : Nat) (v : Value) (P : List Int) (w : World) (h : New B w 3 v (ints P)) (hB : B ≤ w.heap.size) (hl : P.length ≤ 1000) :
    Calls Try.prog 27 #[v, .int .i64 1] w fun e w' => e = .returned (.int .i64 (1 + (P.length : Nat))) ∧ Own w' 3 v (ints (marks 1 P.length)) ∧ Below B w w' :=
  (markIntS_any v P 1 w h.own (by omega) (by omega) (by omega)).mono fun e w' hw => ⟨hw.1, hw.2.1, (Below.refl B w).grown hw.2.2 hB (fun g hg => h.base g hg)⟩
theorem heldInts (v : Value) (p : Nat) (w : World) (h : Own w 3 v (ints (marks 1 p))) (hl : p ≤ 1000) :
    Calls Try.prog 28 #[v, .int .i64 1] w fun e w' => e = .returned (.int .i64 (1 + (p : Nat))) ∧ Below w.heap.size w w' :=
  (heldIntS_any v p 1 w h (by omega) (by omega) (by omega)).mono fun e w' hw => ⟨hw.1, hw.2 ▸ Below.refl _ _⟩

theorem bothLeadRows (s : ByteArray) (hs : s.size ≤ maxLen) (n : Int) (L : List (List Nat)) (hl : L.length ≤ 2000000) (hsm : Small L) (r : ByteArray) (hr : r.size ≤ maxLen) :
    ∃ (P : List (List Nat)) (b : Bool), P.length ≤ 1000 ∧ (∀ u w, Txts w u L → Calls Try.prog 44 #[.agg #[.string s, .int .i64 n, u], .string r] w (TextsAny P b w)) ∧
      (∀ u w, Txts w u L → Calls Try.prog 45 #[.agg #[.string s, .int .i64 n, u], .string r] w (TextsAny P b w)) := by
  refine ⟨_, _, ?_, fun u w h => iLeadRows_any s hs n u L r hr w h hl, fun u w h => sLeadRows_any s hs n u L r hr w h hl hsm⟩
  unfold leadL
  split
  · rename_i h
    unfold leadB at h
    simp only [Bool.and_eq_true] at h
    have := goodAll_len (goodM_parts h.1.1).1
    simp [rowsL_len, leadF_len, chR_len]
    omega
  · simp
theorem bothCourseRows (s : ByteArray) (hs : s.size ≤ maxLen) (n : Int) (L : List (List Nat)) (hl : L.length ≤ 2000000) (hsm : Small L) :
    ∃ (P : List (List Nat)) (b : Bool), P.length ≤ 1000 ∧ (∀ u w, Txts w u L → Calls Try.prog 55 #[.agg #[.string s, .int .i64 n, u]] w (TextsAny P b w)) ∧
      (∀ u w, Txts w u L → Calls Try.prog 56 #[.agg #[.string s, .int .i64 n, u]] w (TextsAny P b w)) := by
  cases hg : goodM s n L
  · exact ⟨[], _, by simp, fun u w h => iCourseRows_no s hs n u L w h hl hg, fun u w h => sCourseRows_no s hs n u L w h hl hsm hg⟩
  · obtain ⟨k, rfl⟩ := good_cast hg
    obtain ⟨o, ho⟩ := good_ord hg
    refine ⟨_, _, ?_, fun u w h => iCourseRows_yes s hs k u L w h hl hg o ho _ rfl, fun u w h => sCourseRows_yes s hs k u L w h hl hsm hg o ho _ rfl⟩
    split
    · rename_i h
      rw [decide_eq_true_eq] at h
      rw [rowsL_len, courseF_len, chR_len]
      omega
    · simp

end Go.Proofs.Ytnoepobbecobbaa
namespace Go.Proofs.Ytnoepobbecobbaa
open Go.RowKit
set_option linter.unusedSimpArgs false
set_option linter.unusedVariables false

/-- a slice of numbers of its own, and a flag -/
def IntsAny (P : List Int) (b : Bool) (w : World) (e : Ending) (w' : World) : Prop :=
  ∃ v, e = .returned (.tuple #[v, .bool b]) ∧ New w.heap.size w' 3 v (ints P) ∧ Below w.heap.size w w'
theorem IntsAny.of {xs : List Nat} {b : Bool} {w : World} {e : Ending} {w' : World} (h : NumsAny xs b w e w') : IntsAny (xs.map fun (k : Nat) => (k : Int)) b w e w' := h

end Go.Proofs.Ytnoepobbecobbaa
