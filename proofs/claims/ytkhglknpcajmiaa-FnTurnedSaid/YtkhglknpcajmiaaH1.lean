/- Halves: lists that are their own mirror. -/
import Derived.Test.YtkhglknpcajmiaaTA
namespace Go.Proofs.Ytkhglknpcajmiaa
open Go.RowKit
set_option linter.unusedSimpArgs false

def sameT (x y : List Nat) : Bool := (txt x).toList == (txt y).toList
theorem sameT_comm (x y : List Nat) : sameT x y = sameT y x := by
  unfold sameT
  rw [Bool.eq_iff_iff, beq_iff_eq, beq_iff_eq]
  exact eq_comm
theorem sameT_self (x : List Nat) : sameT x x = true := by simp [sameT]
def pairOk (L : List (List Nat)) (i : Nat) : Bool := sameT (L.getD i []) (L.getD (L.length - 1 - i) [])
def pairsOk (L : List (List Nat)) : Bool := (List.range L.length).all (pairOk L)
/-- of odd length and its own mirror -/
def palB (L : List (List Nat)) : Bool := pairsOk L && decide (L.length % 2 = 1)
def half (L : List (List Nat)) : List (List Nat) := L.take (L.length / 2 + 1)
theorem pairOk_comm (L : List (List Nat)) (i : Nat) (hi : i < L.length) : pairOk L (L.length - 1 - i) = pairOk L i := by
  unfold pairOk
  rw [sameT_comm, show L.length - 1 - (L.length - 1 - i) = i by omega]
theorem pairsOk_half (L : List (List Nat)) (i k : Nat) (hik : i + k + 1 = L.length) (hge : k ≤ i) (h : ∀ t, t < i → pairOk L t = true) : pairsOk L = true := by
  unfold pairsOk
  rw [List.all_eq_true]
  intro t ht
  rw [List.mem_range] at ht
  by_cases h1 : t < i
  · exact h t h1
  · by_cases h2 : L.length - 1 - t < i
    · rw [← pairOk_comm L t ht]
      exact h _ h2
    · have e : L.length - 1 - t = t := by omega
      unfold pairOk
      rw [e]
      exact sameT_self _
theorem pairsOk_no (L : List (List Nat)) (i : Nat) (hi : i < L.length) (h : pairOk L i = false) : pairsOk L = false := by
  unfold pairsOk
  rw [List.all_eq_false]
  exact ⟨i, List.mem_range.2 hi, by rw [h]; simp⟩

set_option maxRecDepth 100000 in
/-- parts of a list of texts -/
theorem slice_h {W : World} {a : Option Addr} {m cap : Nat} {L : List (List Nat)} (h : Txts W (.slice a m cap) L) (k : Nat) (hk : k ≤ L.length) :
    ∃ u, (∀ W', (Instr.sliceAt 23 (.slice a m cap) none (some (.int .i64 k)) none).run Try.prog W' = .ok u W') ∧ Txts W u (L.take k) := by
  obtain ⟨a', cap', hv, hcap, hc⟩ := h
  injection hv with e1 e2 e3
  subst e1 e2 e3
  refine ⟨.slice a k cap, fun W' => ?_, ?_⟩
  · rw [run_sliceAt_slice W' _ _ _ _ _ Try.underlying23, run_slice_h W' _ _ _ _ Try.underlying23 .i64 _ (by omega) (by omega), show (sizeOf (Try.prog.elem 23)).run Try.prog W' = .ok 1 W' by kernel_rfl]
    simp only [Result.andThen, sliced]
    cases a with
    | none => simp
    | some ad =>
      rcases Nat.eq_zero_or_pos cap with h0 | h0
      · simp [h0]
      · obtain ⟨_, b, o, s⟩ : ∃ u : Unit, ∃ b o s, ad = ⟨b, o, s⟩ := ⟨(), ad.block, ad.off, ad.spot, rfl⟩
        simp [Addr.add]
  · have e : (L.take k).length = k := by simp; omega
    refine ⟨a, cap, by rw [e], by omega, fun h0 => ?_⟩
    rw [e] at h0
    obtain ⟨g, off, rfl, hg, hcc⟩ := hc (by omega)
    refine ⟨g, off, rfl, hg, fun j hj => ?_⟩
    rw [e] at hj
    rw [hcc j (by omega)]
    simp [List.getD_eq_getElem?_getD, hj]
set_option maxRecDepth 100000 in
theorem slice_l {W : World} {a : Option Addr} {m cap : Nat} {L : List (List Nat)} (h : Txts W (.slice a m cap) L) (k : Nat) (hk : k ≤ L.length) :
    ∃ u, (∀ W', (Instr.sliceAt 23 (.slice a m cap) (some (.int .i64 k)) none none).run Try.prog W' = .ok u W') ∧ Txts W u (L.drop k) := by
  obtain ⟨a', cap', hv, hcap, hc⟩ := h
  injection hv with e1 e2 e3
  subst e1 e2 e3
  refine ⟨.slice (if cap = k then a else a.map (·.add k)) (L.length - k) (cap - k), fun W' => ?_, ?_⟩
  · rw [run_sliceAt_slice W' _ _ _ _ _ Try.underlying23, run_slice_l W' _ _ _ _ Try.underlying23 .i64 _ (by omega) (by omega), show (sizeOf (Try.prog.elem 23)).run Try.prog W' = .ok 1 W' by kernel_rfl]
    simp [Result.andThen, sliced]
  · have e : (L.drop k).length = L.length - k := by simp
    refine ⟨_, cap - k, by rw [e], by omega, fun h0 => ?_⟩
    rw [e] at h0
    obtain ⟨g, off, rfl, hg, hcc⟩ := hc (by omega)
    refine ⟨g, off + k, ?_, hg, fun j hj => ?_⟩
    · rw [if_neg (by omega)]
      simp [add_at]
    · rw [e] at hj
      rw [Nat.add_assoc, hcc (k + j) (by omega)]
      simp [List.getD_eq_getElem?_getD]
end Go.Proofs.Ytkhglknpcajmiaa
