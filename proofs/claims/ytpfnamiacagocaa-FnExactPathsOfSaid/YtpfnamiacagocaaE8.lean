/- leadWith, PathOf, PlaceBells in the program. -/
import Derived.Test.YtpfnamiacagocaaE7
namespace Go.Proofs.Ytpfnamiacagocaa
open Go.RowKit
set_option linter.unusedSimpArgs false
set_option linter.unusedVariables false

/-- a valid method and a bell of its stage -/
def askB (s : ByteArray) (n : Int) (L : List (List Nat)) (b : Int) : Bool := goodM s n L && (decide (1 ≤ b) && decide (b ≤ n))
theorem askB_yes {s : ByteArray} {n : Int} {L : List (List Nat)} {b : Int} (h : askB s n L b = true) : goodM s n L = true ∧ 1 ≤ b ∧ b ≤ n := by
  unfold askB at h
  simp only [Bool.and_eq_true, decide_eq_true_eq] at h
  exact ⟨h.1, h.2.1, h.2.2⟩
theorem askB_of {s : ByteArray} {n : Int} {L : List (List Nat)} {b : Int} (h : goodM s n L = true) (h1 : 1 ≤ b) (h2 : b ≤ n) : askB s n L b = true := by simp [askB, h, h1, h2]
/-- what leadWith gives -/
def WithAny (s : ByteArray) (n : Int) (L : List (List Nat)) (b : Int) (w : World) (e : Ending) (w' : World) : Prop :=
  ∃ a m c f, e = .returned (.tuple #[.agg (leadV (.slice a m c) f), .bool (askB s n L b)]) ∧ (askB s n L b = true → f = rdf n.toNat ∧ NewD w.heap.size w' (.slice a m c) (chR n L)) ∧ Below w.heap.size w w'

set_option maxRecDepth 100000 in
set_option maxHeartbeats 1000000 in
theorem leadWith_any (s : ByteArray) (hs : s.size ≤ maxLen) (n : Int) (v : Value) (L : List (List Nat)) (b : Int) (w : World) (h : Txts w v L) (hl : L.length ≤ 2000000) :
    Calls Try.prog 73 #[.agg #[.string s, .int .i64 n, v], .int .i64 b] w (WithAny s n L b w) := by
  obtain ⟨a, cap, rfl, hcap, -⟩ := id h
  have HT := Lib.hid h
  have HC := Lib.hid (fun w h => leadOf_any s hs n (.slice a L.length cap) L w h hl)
  unfold LeadAny at HC
  unfold WithAny
  have HR0 := Lib.hid ((RowAt.new w 26 #[.string s, .int .i64 n, .slice a L.length cap]).push (.cells zero9 70))
  have HZ0 : Hid (RowAt ((w.alloc (.cells #[.string s, .int .i64 n, .slice a L.length cap] 26)).alloc (.cells zero9 70)) (w.heap.size + 1) 70 zero9) := Lib.hid (by
    have := RowAt.new (w.alloc (.cells #[.string s, .int .i64 n, .slice a L.length cap] 26)) 70 zero9
    simpa using this)
  have HB0 := Lib.hid (((Below.refl _ w).alloc (Nat.le_refl _) (.cells #[.string s, .int .i64 n, .slice a L.length cap] 26)).alloc (by simp) (.cells zero9 70))
  have HAB : Hid (askB s n L b = (goodM s n L && (decide (1 ≤ b) && decide (b ≤ n)))) := Lib.hid rfl
  generalize hchr : chR n L = cs at *
  clear h hcap hl hs hchr
  generalize L.length = m at *
  generalize goodM s n L = gm at *
  generalize askB s n L b = ab at *
  go_enter Try.func73, Try.ntmps73
  go_wp2_with (first | (refine wpList_load_row rfl 26 _ rfl _ rfl 26 _ _ _ (HR0.out) Try.underlying26 rfl (by kernel_rfl) ?_) | fail)
  refine (HC.out _ (HT.out.kept HB0.out)).mono ?_
  rintro e w1 ⟨a1, m1, c1, f1, rfl, hn1, hb1⟩
  have HM2 := Lib.hid ((HR0.out.kept hb1).push (.cells (leadV (.slice a1 m1 c1) f1) 70))
  have HZ2 := Lib.hid ((HZ0.out.kept hb1).push (.cells (leadV (.slice a1 m1 c1) f1) 70))
  have HL2 := Lib.hid (RowAt.new w1 70 (leadV (.slice a1 m1 c1) f1))
  have HB1 := Lib.hid (HB0.out.trans (hb1.mono HB0.out.size))
  have HB2 := Lib.hid (HB1.out.alloc HB1.out.size (.cells (leadV (.slice a1 m1 c1) f1) 70))
  have HN2 : Hid (gm = true → f1 = rdf n.toNat ∧ NewD w.heap.size (w1.alloc (.cells (leadV (.slice a1 m1 c1) f1) 70)) (.slice a1 m1 c1) cs) := Lib.hid fun hg => ⟨(hn1 hg).1, ((hn1 hg).2.kept ((Below.refl _ _).alloc (Nat.le_refl _) _)).lower HB0.out.size⟩
  have HW1 := Lib.hid (Nat.le_trans HB0.out.size hb1.size)
  clear hn1 hb1 HB1 HC HB0 HZ0 HR0
  have d1 := HM2.out.cell 1 rfl
  have hno : ab = false → ∀ W' : World, W' = (w1.alloc (.cells (leadV (.slice a1 m1 c1) f1) 70)).setRow (w.heap.size + 1) zero9 → ∃ a m c f, Ending.returned (.tuple #[.agg zero9, .bool false]) = .returned (.tuple #[.agg (leadV (.slice a m c) f), .bool ab]) ∧ (ab = true → f = rdf n.toNat ∧ NewD w.heap.size W' (.slice a m c) cs) ∧ Below w.heap.size w W' := by
    rintro rfl W' rfl
    exact ⟨none, 0, 0, fun _ => 0, rfl, fun h => (Bool.noConfusion h), below_setRow HB2.out (by omega) _⟩
  have HNO := Lib.hid hno
  clear hno
  cases gm
  · have hab : ab = false := HAB.out
    go_wp2_with (first | (refine wpList_store_row rfl 70 _ _ rfl _ _ rfl rfl 70 _ (heap_at _ _ _ (by simp)) (by kernel_rfl) rfl (by kernel_rfl) ?_; rw [setRow_at _ _ _ _ _ (by simp)]) | (refine wpList_store_row rfl 70 _ _ rfl _ _ rfl rfl 70 _ (HZ2.out) (by kernel_rfl) rfl (by kernel_rfl) ?_) | fail)
    refine bodyPost_ret (results_row_tmp rfl _ _ (w.heap.size + 1) 70 _ (0, 0) _ rfl (HZ2.out.row _) Try.underlying70 rfl (by kernel_rfl)) rfl ?_
    exact HNO.out hab _ rfl
  · by_cases h1 : b < 1
    · have hab : ab = false := by have := HAB.out; simpa [show ¬ 1 ≤ b by omega] using this
      go_wp2_with (first | (refine wpList_store_row rfl 70 _ _ rfl _ _ rfl rfl 70 _ (heap_at _ _ _ (by simp)) (by kernel_rfl) rfl (by kernel_rfl) ?_; rw [setRow_at _ _ _ _ _ (by simp)]) | (refine wpList_store_row rfl 70 _ _ rfl _ _ rfl rfl 70 _ (HZ2.out) (by kernel_rfl) rfl (by kernel_rfl) ?_) | fail)
      refine bodyPost_ret (results_row_tmp rfl _ _ (w.heap.size + 1) 70 _ (0, 0) _ rfl (HZ2.out.row _) Try.underlying70 rfl (by kernel_rfl)) rfl ?_
      exact HNO.out hab _ rfl
    · have h1' : 1 ≤ b := by omega
      by_cases h2 : n < b
      · have hab : ab = false := by have := HAB.out; simpa [show ¬ b ≤ n by omega] using this
        go_wp2_with (first | (refine wpList_store_row rfl 70 _ _ rfl _ _ rfl rfl 70 _ (heap_at _ _ _ (by simp)) (by kernel_rfl) rfl (by kernel_rfl) ?_; rw [setRow_at _ _ _ _ _ (by simp)]) | (refine wpList_store_row rfl 70 _ _ rfl _ _ rfl rfl 70 _ (HZ2.out) (by kernel_rfl) rfl (by kernel_rfl) ?_) | fail)
        refine bodyPost_ret (results_row_tmp rfl _ _ (w.heap.size + 1) 70 _ (0, 0) _ rfl (HZ2.out.row _) Try.underlying70 rfl (by kernel_rfl)) rfl ?_
        exact HNO.out hab _ rfl
      · have h2' : b ≤ n := by omega
        have hab : ab = true := by have := HAB.out; simpa [h1', h2'] using this
        have HN := Lib.hid (HN2.out rfl)
        go_wp2_with (first | (refine wpList_store_row rfl 70 _ _ rfl _ _ rfl rfl 70 _ (heap_at _ _ _ (by simp)) (by kernel_rfl) rfl (by kernel_rfl) ?_; rw [setRow_at _ _ _ _ _ (by simp)]) | (refine wpList_load_row rfl 70 _ rfl _ rfl 70 _ _ _ (HL2.out) Try.underlying70 rfl (by kernel_rfl) ?_) | (refine wpList_store_row rfl 70 _ _ rfl _ _ rfl rfl 70 _ (HZ2.out) (by kernel_rfl) rfl (by kernel_rfl) ?_) | fail)
        subst hab
        refine bodyPost_ret (results_row_tmp rfl _ _ (w.heap.size + 1) 70 _ (0, 0) _ rfl (HZ2.out.row _) Try.underlying70 rfl (by kernel_rfl)) rfl ?_
        refine ⟨a1, m1, c1, f1, rfl, fun _ => ⟨HN.out.1, HN.out.2.setRowOther _ _ ?_⟩, below_setRow HB2.out (by omega) _⟩
        exact HN.out.2.apart8 HZ2.out (by decide)
end Go.Proofs.Ytpfnamiacagocaa
