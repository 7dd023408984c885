/- Methods: what both sides give alike: GoodMethod, LeadHead, LeadsIn. -/
import Derived.Test.YtfocnflnpabmkaaD1
import Derived.Test.YtfocnflnpabmkaaN3
namespace Go.Proofs.Ytfocnflnpabmkaa
open Go.RowKit
set_option linter.unusedSimpArgs false
set_option linter.unusedVariables false

theorem small_letss {ss : List ByteArray} (h : ∀ t ∈ ss, t.size ≤ maxLen) : Small (letss ss) := fun l hl => by
  simp only [letss, List.mem_map] at hl
  obtain ⟨x, hx, rfl⟩ := hl
  have := h x hx
  simpa [lets] using this
theorem bothGoodMethod (s : ByteArray) (hs : s.size ≤ maxLen) (n : Int) (L : List (List Nat)) (hl : L.length ≤ 2000000) (hsm : Small L) :
    ∃ b : Bool, (∀ u w, Txts w u L → Calls Try.prog 47 #[.agg #[.string s, .int .i64 n, u]] w fun e w' => e = .returned (.bool b) ∧ Below w.heap.size w w') ∧
      (∀ u w, Txts w u L → Calls Try.prog 45 #[.agg #[.string s, .int .i64 n, u]] w fun e w' => e = .returned (.bool b) ∧ Below w.heap.size w w') :=
  ⟨_, fun u w h => iGoodMethod_any s hs n u L w h hl, fun u w h => sGoodMethod_any s hs n u L w h hl hsm⟩
theorem good_cast {s : ByteArray} {n : Int} {L : List (List Nat)} (h : goodM s n L = true) : ∃ k : Nat, n = k := by
  have := goodAll_range (goodM_parts h).1
  exact ⟨n.toNat, by omega⟩
theorem good_ord {s : ByteArray} {n : Nat} {L : List (List Nat)} (h : goodM s n L = true) : ∃ k, IsOrd n (headF n (chR n L)) k := by
  have h9 := goodM_nat h
  exact ord_exists (isRow_head h9.1 h9.2.1 h9.2.2.1)
theorem bothLeadHead (s : ByteArray) (hs : s.size ≤ maxLen) (n : Int) (L : List (List Nat)) (hl : L.length ≤ 2000000) (hsm : Small L) :
    ∃ (t : ByteArray) (b : Bool), (∀ u w, Txts w u L → Calls Try.prog 21 #[.agg #[.string s, .int .i64 n, u]] w fun e w' => e = .returned (.tuple #[.string t, .bool b]) ∧ Below w.heap.size w w') ∧
      (∀ u w, Txts w u L → Calls Try.prog 43 #[.agg #[.string s, .int .i64 n, u]] w fun e w' => e = .returned (.tuple #[.string t, .bool b]) ∧ Below w.heap.size w w') := by
  cases hg : goodM s n L
  · exact ⟨_, _, fun u w h => iLeadHead_no s hs n u L w h hl hg, fun u w h => sLeadHead_no s hs n u L w h hl hsm hg⟩
  · obtain ⟨k, rfl⟩ := good_cast hg
    exact ⟨_, _, fun u w h => iLeadHead_yes s hs k u L w h hl hg, fun u w h => sLeadHead_yes s hs k u L w h hl hsm hg⟩
theorem bothLeadsIn (s : ByteArray) (hs : s.size ≤ maxLen) (n : Int) (L : List (List Nat)) (hl : L.length ≤ 2000000) (hsm : Small L) :
    ∃ (t : Int) (b : Bool), (∀ u w, Txts w u L → Calls Try.prog 26 #[.agg #[.string s, .int .i64 n, u]] w fun e w' => e = .returned (.tuple #[.int .i64 t, .bool b]) ∧ Below w.heap.size w w') ∧
      (∀ u w, Txts w u L → Calls Try.prog 49 #[.agg #[.string s, .int .i64 n, u]] w fun e w' => e = .returned (.tuple #[.int .i64 t, .bool b]) ∧ Below w.heap.size w w') := by
  cases hg : goodM s n L
  · exact ⟨_, _, fun u w h => iLeadsIn_no s hs n u L w h hl hg, fun u w h => sLeadsIn_no s hs n u L w h hl hsm hg⟩
  · obtain ⟨k, rfl⟩ := good_cast hg
    obtain ⟨o, ho⟩ := good_ord hg
    exact ⟨_, _, fun u w h => iLeadsIn_yes s hs k u L w h hl hg o ho, fun u w h => sLeadsIn_yes s hs k u L w h hl hsm hg o ho⟩
end Go.Proofs.Ytfocnflnpabmkaa
