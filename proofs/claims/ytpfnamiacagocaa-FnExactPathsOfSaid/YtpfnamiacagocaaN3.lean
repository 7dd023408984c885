/- Methods in the model: courses, hunt bells. -/
import Derived.Test.YtpfnamiacagocaaN2
namespace Go.Proofs.Ytpfnamiacagocaa
open Go.RowKit
set_option linter.unusedSimpArgs false
set_option linter.unusedVariables false

/-- a method's box stands, and all that was there -/
def Boxed (w0 : World) (b : Nat) (s : ByteArray) (n : Int) (u : Value) (W : World) : Prop := W.cell? ⟨b, 0, none⟩ = some (.string s) ∧ W.cell? ⟨b, 1, none⟩ = some (.int .i64 n) ∧ W.cell? ⟨b, 2, none⟩ = some u ∧ Below w0.heap.size w0 W
theorem Boxed.more {w0 W W' : World} {b : Nat} {s : ByteArray} {n : Int} {u : Value} (h : Boxed w0 b s n u W) (hlt : b < w0.heap.size) (hb : Below W.heap.size W W') : Boxed w0 b s n u W' := by
  obtain ⟨h0, h1, h2, hW⟩ := h
  have hlt2 := Nat.lt_of_lt_of_le hlt hW.size
  exact ⟨(hb.cell (p := ⟨b, 0, none⟩) hlt2).trans h0, (hb.cell (p := ⟨b, 1, none⟩) hlt2).trans h1, (hb.cell (p := ⟨b, 2, none⟩) hlt2).trans h2, hW.trans (hb.mono hW.size)⟩
theorem RowAt.boxed {W : World} {b : Nat} {T : TypeId} {s : ByteArray} {n : Int} {u : Value} (h : RowAt W b T #[.string s, .int .i64 n, u]) : Boxed W b s n u W := ⟨h.cell 0 rfl, h.cell 1 rfl, h.cell 2 rfl, Below.refl _ _⟩

end Go.Proofs.Ytpfnamiacagocaa
