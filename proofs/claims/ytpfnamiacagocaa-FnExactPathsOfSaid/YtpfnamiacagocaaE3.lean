/- The place of a bell in a row, in the program: by bytes.IndexByte. -/
import Derived.Shelf.Bytes.IndexByte
import Derived.Lib.IndexLaws
import Derived.Test.YtpfnamiacagocaaE1
namespace Go.Proofs.Ytpfnamiacagocaa
open Go.Shelf Go.RowKit
set_option linter.unusedSimpArgs false
set_option linter.unusedVariables false

def lays187_ren : Go.Shelf.Ren := ⟨fun | 187 => 122 | 255 => 127 | n => n, fun | 3 => 3 | 5 => 5 | 37 => 22 | n => n, fun | n => n⟩
theorem lays187 : Lays.n187 Try.prog lays187_ren := {
  mixed := by kernel_rfl
  f187 := Try.func122.trans (congrArg some (by kernel_rfl))
  f255 := Try.func127.trans (congrArg some (by kernel_rfl))
  t3 := Try.underlying3
  a3 := Try.isAgg3
  z3 := Try.sizeOf3
  v3 := Try.zeroValue3
  t5 := Try.underlying5
  a5 := Try.isAgg5
  z5 := Try.sizeOf5
  v5 := Try.zeroValue5
  t37 := Try.underlying22
  a37 := Try.isAgg22
  z37 := Try.sizeOf22
  v37 := Try.zeroValue22 }

/-- a row's eight numbers -/
def nums8 (f : Nat → Nat) : List Int := (List.range 8).map fun i => (f i : Int)
theorem nums8_get (f : Nat → Nat) (i : Nat) (h : i < 8) : (nums8 f).getD i 0 = (f i : Int) := by simp [nums8, List.getD_eq_getElem?_getD, h]
theorem bytes8_get (f : Nat → Nat) (i : Nat) (h : i < 8) : (Lib.bytesOf (nums8 f))[i]? = some (UInt8.ofNat (f i)) := by simp [Lib.bytesOf, nums8, h]
theorem indexByte_plc {n : Nat} {f : Nat → Nat} (h : IsRow n f) {b : Nat} (h1 : 1 ≤ b) (hn : b ≤ n) : Lib.indexByte (Lib.bytesOf (nums8 f)) (UInt8.ofNat (48 + b)) = (plc n f b : Int) - 1 := by
  have h8 := h.eight
  obtain ⟨p1, p2, p3⟩ := plc_spec h h1 hn
  have hge := Lib.indexByte_ge (Lib.bytesOf (nums8 f)) (UInt8.ofNat (48 + b))
  generalize hr : Lib.indexByte (Lib.bytesOf (nums8 f)) (UInt8.ofNat (48 + b)) = r at *
  by_cases hneg : r = -1
  · subst hneg
    have := Lib.indexByte_none hr (plc n f b - 1)
    rw [bytes8_get f _ (by omega), p3] at this
    exact absurd rfl this
  · obtain ⟨o, rfl⟩ := Int.eq_ofNat_of_zero_le (show 0 ≤ r by omega)
    obtain ⟨e1, -⟩ := Lib.indexByte_some hr
    have ho : o < 8 := by
      have := (List.getElem?_eq_some_iff.1 e1).1
      simpa [Lib.bytesOf, nums8] using this
    rw [bytes8_get f o ho] at e1
    injection e1 with e1
    have hfo : f o < 256 := by
      by_cases hon : o < n
      · have := h.hi o hon; omega
      · rw [h.zero o (by omega)]; omega
    have e2 : f o = 48 + b := by
      have := congrArg UInt8.toNat e1
      simp at this
      omega
    have hon : o < n := by
      by_cases hon : o < n
      · exact hon
      · rw [h.zero o (by omega)] at e2; omega
    have := plc_uniq h h1 hn hon e2
    show (o : Int) = _
    omega

theorem indexByte8_any (n : Nat) (f : Nat → Nat) (hf : IsRow n f) (b : Nat) (h1 : 1 ≤ b) (hn : b ≤ n) (c : Nat) (w : World) (g cap : Nat) (h : ∀ i, i < 8 → w.cell? ⟨g, i, none⟩ = some (.int .u8 (f i))) (hc : c = 48 + b) :
    Calls Try.prog 122 #[.slice (some ⟨g, 0, none⟩) 8 cap, .int .u8 c] w fun e w' => e = .returned (.int .i64 ((plc n f b : Int) - 1)) ∧ w' = w := by
  subst hc
  have := Any.bytes_IndexByte lays187 g 0 8 cap (nums8 f) ((48 + b : Nat) : Int) w (by simp [nums8]) (fun i hi => by rw [nums8_get f i hi, Nat.zero_add]; exact h i hi)
  rw [show (((48 + b : Nat) : Int)).toNat.toUInt8 = UInt8.ofNat (48 + b) from rfl, indexByte_plc hf h1 hn] at this
  exact this

set_option maxRecDepth 100000 in
set_option maxHeartbeats 1000000 in
theorem placeOf_any (n : Nat) (f : Nat → Nat) (hf : IsRow n f) (b : Nat) (h1 : 1 ≤ b) (hn : b ≤ n) (w : World) :
    Calls Try.prog 100 #[.agg (dig8 f), .int .i64 b] w fun e w' => e = .returned (.int .i64 (plc n f b)) ∧ Below w.heap.size w w' := by
  have h8 := hf.eight
  obtain ⟨p1, p2, -⟩ := plc_spec hf h1 hn
  have HR := Lib.hid (RowAt.new w 68 (dig8 f))
  have HB := Lib.hid ((Below.refl _ w).alloc (Nat.le_refl _) (.cells (dig8 f) 68))
  have HI := Lib.hid (fun c w g cap h hc => indexByte8_any n f hf b h1 hn c w g cap h hc)
  have hp : IntKind.i64.wrap ((plc n f b : Int) - 1 + 1) = (plc n f b : Int) := by rw [Int.sub_add_cancel]; exact Go.IntWalk.i64_in _ ⟨by omega, by omega⟩
  generalize plc n f b = p at *
  have hb8 : (b : Int) ≤ 8 := by omega
  have hb1 : (1 : Int) ≤ b := by omega
  have hw : IntKind.u8.wrap (48 + (b : Int)) = ((48 + b : Nat) : Int) := by
    rw [show (48 : Int) + b = ((48 + b : Nat) : Int) by omega]
    simp [IntKind.wrap, IntKind.bits]
    omega
  clear hf
  go_enter Try.func100, Try.ntmps100
  go_wp2_with (first | (go_at_call 122; refine (HI.out _ _ _ _ (fun i hi => HR.out.cell i (dig8_get f i hi)) rfl).mono ?_; rintro e w1 ⟨rfl, rfl⟩) | fail)
  go_ret
  exact ⟨rfl, HB.out⟩
end Go.Proofs.Ytpfnamiacagocaa
