/- Maps of rows in the program: a set of a list; the products of rows. -/
import Derived.Test.YtnoepobbecobbaaSM
import Derived.Test.YtnoepobbecobbaaMB
namespace Go.Proofs.Ytnoepobbecobbaa
open Go.RowKit
set_option linter.unusedSimpArgs false
set_option linter.unusedVariables false

/-- a map of its own that holds the rows S -/
def SetOut (n : Nat) (S : List (Nat → Nat)) (w : World) (e : Ending) (w' : World) : Prop := ∃ b, e = .returned (.map (some b)) ∧ w.heap.size ≤ b ∧ SetAt w' n b S ∧ Below w.heap.size w w'
noncomputable def rowsIn (fs : List (Nat → Nat)) : List (Nat → Nat) := fs.foldl withF []
theorem rowsIn_take {fs : List (Nat → Nat)} {j : Nat} (hj : j < fs.length) : rowsIn (fs.take (j + 1)) = withF (rowsIn (fs.take j)) fs[j] := by
  unfold rowsIn
  rw [List.take_succ_eq_append_getElem hj, List.foldl_append]
  rfl
theorem with_len (S : List (Nat → Nat)) (f : Nat → Nat) : (withF S f).length ≤ S.length + 1 := by
  unfold withF
  split <;> simp
theorem rowsIn_len : ∀ (fs S : List (Nat → Nat)), (fs.foldl withF S).length ≤ S.length + fs.length
  | [], S => by simp
  | f :: t, S => by
    rw [List.foldl_cons]
    have h1 := rowsIn_len t (withF S f)
    have h2 := with_len S f
    rw [List.length_cons]
    omega
theorem mem_fold : ∀ (fs S : List (Nat → Nat)) (x : Nat → Nat), x ∈ fs.foldl withF S ↔ x ∈ S ∨ x ∈ fs
  | [], S, x => by simp
  | f :: t, S, x => by
    rw [List.foldl_cons, mem_fold t, mem_with, List.mem_cons, or_assoc]
theorem mem_rowsIn (fs : List (Nat → Nat)) (x : Nat → Nat) : x ∈ rowsIn fs ↔ x ∈ fs := by
  unfold rowsIn
  rw [mem_fold]
  simp

set_option maxRecDepth 100000 in
set_option maxHeartbeats 1000000 in
theorem rowSetOf_any (n : Nat) (v : Value) (fs : List (Nat → Nat)) (hr : Rows n fs) (hl : fs.length ≤ 1000) (w : World) (h : Digs w v fs) :
    Calls Try.prog 84 #[v] w (SetOut n (rowsIn fs) w) := by
  obtain ⟨m, hm⟩ : ∃ m, fs.length = m := ⟨_, rfl⟩
  obtain ⟨a, cap, rfl, hcap, ha⟩ := h
  have ha : 0 < m → ∃ g off, a = some ⟨g, off, none⟩ ∧ g < w.heap.size ∧ ∀ i (h : i < fs.length), w.rangeAt g (off + i * 8) (cells8 fs[i]) := fun h0 => ha (by rw [hm]; exact h0)
  rw [hm] at hl ⊢
  have hl' : (m : Int) ≤ 1000 := by omega
  have HA := Lib.hid ha
  have HM := Lib.hid hm
  have HC := Lib.hid hr
  have HS0 := Lib.hid (SetAt.made w n)
  have HB0 := Lib.hid ((Below.refl _ w).alloc (Nat.le_refl _) (.map #[] 0))
  clear ha hm hcap hr
  have hmm := @run_makeMap Try.prog
  unfold SetOut
  go_enter Try.func84, Try.ntmps84
  go_wp2
  go_loopg [9] m (fun q i wr => ∃ j : Nat, q + j = m ∧ i = .int .i64 j ∧ SetAt wr n w.heap.size (rowsIn (fs.take j)) ∧ Below w.heap.size w wr)
  case atStart => exact ⟨0, by omega, rfl, HS0.out, HB0.out⟩
  case round =>
    clear HS0 HB0
    obtain ⟨j, hq, rfl, hs, hb⟩ := hrel
    have HS := Lib.hid hs
    have HB := Lib.hid hb
    clear hs hb
    by_cases hlt : j < m
    · obtain ⟨q', rfl⟩ : ∃ q', gk = q' + 1 := ⟨gk - 1, by omega⟩
      obtain ⟨gb, off, rfl, hgb, hc⟩ := HA.out (by omega)
      have hjx : j < fs.length := by rw [HM.out]; exact hlt
      have hset := rowsIn_take hjx
      have hrow := HC.out _ (List.getElem_mem hjx)
      have hload := hc j hjx
      have hlen := rowsIn_len (fs.take j) []
      rw [List.length_nil, List.length_take] at hlen
      have hlen : (rowsIn (fs.take j)).length < maxLen := by unfold maxLen; show (List.foldl withF [] (fs.take j)).length < _; omega
      generalize fs[j] = x at *
      have HL : Hid (wr.rangeAt gb (off + j * 8) (cells8 x)) := Lib.hid (fun k u hu => (HB.out.cell (p := ⟨gb, off + j * 8 + k, none⟩) hgb).trans (hload k u hu))
      have hji : (j : Int) < m := by omega
      have HBX := Lib.hid (HB.out.alloc HB.out.size (.cells (dig8 x) 80))
      have HXX := Lib.hid (RowAt.new wr 80 (dig8 x))
      have HSX := Lib.hid (HS.out.kept ((Below.refl _ _).alloc (Nat.le_refl _) (.cells (dig8 x) 80)))
      have HSET := Lib.hid hset
      clear hc hload hset
      go_wp2_with (first | (refine wpList_store_row rfl 80 _ _ rfl _ _ rfl rfl 80 _ (heap_at _ _ _ (by simp)) (by kernel_rfl) rfl (by kernel_rfl) ?_; rw [setRow_at _ _ _ _ _ (by simp)]) | (refine wpList_load8 rfl _ rfl gb (off + j * 8) rfl x HL.out ?_) | (refine wpList_load_row rfl 80 _ rfl _ rfl 80 _ _ _ (HXX.out) Try.underlying80 rfl (by kernel_rfl) ?_) | (at_mapUpdate; refine wpList_put_row rfl _ _ _ rfl n w.heap.size (rowsIn (fs.take j)) x hrow HSX.out hlen rfl rfl rfl ?_) | fail)
      intro w7 hs7 hg7
      rw [← HSET.out] at hs7
      have HS7 := Lib.hid hs7
      have HB7 := Lib.hid (HBX.out.grown hg7 HBX.out.size (fun k hk => by cases hk; exact Nat.le_refl _))
      clear hs7 hg7 HSX HBX HXX HL HS HB HSET
      go_wp2
      go_roundg q'
      case measure => omega
      case rel => exact ⟨j + 1, by omega, by go_num, HS7.out, HB7.out⟩
    · obtain rfl : gk = 0 := by omega
      obtain rfl : j = m := by omega
      have hs := HS.out
      rw [List.take_of_length_le (by rw [HM.out]; exact Nat.le_refl _)] at hs
      have HS2 := Lib.hid hs
      clear hs HS
      go_wp2
      go_ret
      exact ⟨_, rfl, Nat.le_refl _, HS2.out, HB.out⟩
end Go.Proofs.Ytnoepobbecobbaa
