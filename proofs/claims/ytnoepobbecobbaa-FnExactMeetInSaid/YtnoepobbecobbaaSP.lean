/- The products of rows, found row by row, in the program. -/
import Derived.Test.YtnoepobbecobbaaSN
import Derived.Test.YtnoepobbecobbaaSO
namespace Go.Proofs.Ytnoepobbecobbaa
open Go.RowKit
set_option linter.unusedSimpArgs false
set_option linter.unusedVariables false

/-- a map of its own with these rows, or none -/
def SetAny (n : Nat) (r : Option (List (Nat → Nat))) (w : World) (e : Ending) (w' : World) : Prop :=
  match r with
  | some G => ∃ b, e = .returned (.tuple #[.map (some b), .bool true]) ∧ w.heap.size ≤ b ∧ SetAt w' n b G ∧ Below w.heap.size w w'
  | none => e = .returned (.tuple #[.map none, .bool false]) ∧ Below w.heap.size w w'
/-- a map's block is no slice's -/
theorem QueD.apartMap {B n b : Nat} {W : World} {v : Value} {fs S : List (Nat → Nat)} (h : QueD B W v fs) (hs : SetAt W n b S) : v.ownBlock ≠ some b := by
  obtain ⟨g, off, cap, cur, rfl, hB, hb, _⟩ := h
  obtain ⟨_, _, es, ⟨xs, clock, h3, _⟩, _⟩ := hs
  intro e
  have e : g = b := by simpa [Value.ownBlock] using e
  subst e
  rw [hb] at h3
  cases h3
theorem QueD.view {B : Nat} {W : World} {v : Value} {fs : List (Nat → Nat)} {m : Nat} (h : QueD B W v fs) (hm : fs.length = m) : ∃ g off cap, v = .slice (some ⟨g, off, none⟩) m cap ∧ m ≤ cap := by
  obtain ⟨g, off, cap, cur, rfl, hB, hb, hle, _⟩ := h
  subst hm
  exact ⟨g, off, cap, rfl, hle⟩
theorem SetAt.keptBut {W W' : World} {n b : Nat} {S : List (Nat → Nat)} {v : Value} (h : SetAt W n b S) (hk : KeptBut W W' v) (hne : v.ownBlock ≠ some b) : SetAt W' n b S := h.block (hk b h.lt hne)
theorem _root_.Go.RowKit.Below.size1 {wr W : World} {o : Obj} (h : Below (wr.heap.size + 1) (wr.alloc o) W) : wr.heap.size + 1 ≤ W.heap.size := Nat.le_trans (by simp) h.size
theorem new_new8 (w : World) (o : Obj) (cs : Array Value) : RowAt ((w.alloc o).alloc (.cells cs 80)) (w.heap.size + 1) 80 cs := by
  have e : (w.alloc o).heap.size = w.heap.size + 1 := by simp
  have := RowAt.new (w.alloc o) 80 cs
  rw [e] at this
  exact this
theorem SetAt.ne_row {W : World} {n b c : Nat} {S : List (Nat → Nat)} {T : TypeId} {cs : Array Value} (h : SetAt W n b S) (hr : RowAt W c T cs) : b ≠ c := by
  obtain ⟨_, _, es, ⟨xs, clock, h3, _⟩, _⟩ := h
  rintro rfl
  have := h3.symm.trans hr
  cases this
theorem rdf_one (n : Nat) : rowsIn [rdf n] = [rdf n] := by simp [rowsIn, withF]

end Go.Proofs.Ytnoepobbecobbaa

