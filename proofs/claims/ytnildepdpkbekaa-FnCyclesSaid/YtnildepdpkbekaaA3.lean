/- Walks over the program's arrays of digits: a row's text. -/
import Derived.Test.YtnildepdpkbekaaA2
namespace Go.Proofs.Ytnildepdpkbekaa
open Go.RowKit

theorem bcell {W w1 : World} (hb : Below W.heap.size W w1) : (∀ b o, b < W.heap.size → w1.cell? ⟨b, o, none⟩ = W.cell? ⟨b, o, none⟩) ∧ (∀ b o, b < W.heap.size → w1.frozen? ⟨b, o, none⟩ = W.frozen? ⟨b, o, none⟩) :=
  ⟨fun b o h => hb.cell (p := ⟨b, o, none⟩) h, fun b o h => hb.frozen (p := ⟨b, o, none⟩) h⟩

theorem foldl_push (ns : List Int) : ∀ s : ByteArray, ns.foldl (fun r n => r.push (UInt8.ofNat n.toNat)) s = ⟨s.data ++ (ns.map fun n => UInt8.ofNat n.toNat).toArray⟩ := by
  induction ns with
  | nil => intro s; simp
  | cons n ns ih => intro s; rw [List.foldl_cons, ih]; cases s; simp [ByteArray.push]

theorem conv_dig (W : World) (b n c : Nat) (f : Nat → Nat) (hc : ∀ i, i < n → W.cell? ⟨b, i, none⟩ = some (.int .u8 (f i))) :
    (convert 28 9 (.slice (some ⟨b, 0, none⟩) n c)).run Try.prog W = .ok (.string (strOf n f)) W := by
  rw [run_convert_bytes_string W _ _ 5 _ _ _ Try.underlying28 Try.underlying5 Try.underlying9]
  have h := run_loadCells (P := Try.prog) (w := W) ⟨b, 0, none⟩ n (fun i => .int .u8 (f i)) (fun j hj => by
    rw [show (⟨b, 0, none⟩ : Addr).add j = ⟨b, j, none⟩ from by unfold Addr.add; split <;> simp_all]; exact hc j hj)
  rw [run_bytesToString W _ n c ((List.range n).map fun i => (f i : Int)) (by rw [h]; simp [List.map_map, Function.comp_def])]
  rw [foldl_push]
  simp [strOf, ByteArray.empty, ByteArray.emptyWithCapacity, Function.comp_def]
  rfl

set_option maxHeartbeats 1000000 in
theorem row_any (n : Nat) (f : Nat → Nat) (hf : IsDig n f) (w : World) :
    Calls Try.prog 60 #[.agg (dig8 f)] w fun e w' => e = .returned (.string (strOf n f)) ∧ Below w.heap.size w w' := by
  have h8 : n ≤ 8 := hf.1
  have hget := dig8_get f
  have HF := Lib.hid hf
  clear hf
  go_enter Try.func60, Try.ntmps60
  simp only [dig8]
  go_wp2_with fail
  refine (stage_any n f HF.out _).mono ?_
  rintro e w1 ⟨rfl, hb⟩
  have hcell : ∀ i, i < n → w1.cell? ⟨w.heap.size, i, none⟩ = some (.int .u8 (f i)) := by
    intro i hi
    rw [hb.cell (by simp), World.cell?_alloc_at _ _ _ _ rfl]
    exact hget i (by omega)
  have hconv := conv_dig w1 w.heap.size n 8 f hcell
  clear hcell hget
  have h8' : (n : Int) ≤ 8 := by omega
  go_wp2
  go_ret
  exact ⟨rfl, ((Below.refl _ _).alloc (Nat.le_refl _) _).trans (hb.mono (by simp))⟩
end Go.Proofs.Ytnildepdpkbekaa
