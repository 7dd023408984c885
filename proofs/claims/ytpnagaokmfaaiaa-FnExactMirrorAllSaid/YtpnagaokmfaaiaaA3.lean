/- Walks over the program's arrays of digits: a row's text. -/
import Derived.Test.YtpnagaokmfaaiaaA2
namespace Go.Proofs.Ytpnagaokmfaaiaa
open Go.RowKit

theorem bcell {W w1 : World} (hb : Below W.heap.size W w1) : (∀ b o, b < W.heap.size → w1.cell? ⟨b, o, none⟩ = W.cell? ⟨b, o, none⟩) ∧ (∀ b o, b < W.heap.size → w1.frozen? ⟨b, o, none⟩ = W.frozen? ⟨b, o, none⟩) :=
  ⟨fun b o h => hb.cell (p := ⟨b, o, none⟩) h, fun b o h => hb.frozen (p := ⟨b, o, none⟩) h⟩

theorem foldl_push (ns : List Int) : ∀ s : ByteArray, ns.foldl (fun r n => r.push (UInt8.ofNat n.toNat)) s = ⟨s.data ++ (ns.map fun n => UInt8.ofNat n.toNat).toArray⟩ := by
  induction ns with
  | nil => intro s; simp
  | cons n ns ih => intro s; rw [List.foldl_cons, ih]; cases s; simp [ByteArray.push]

theorem conv_dig (W : World) (b n c : Nat) (f : Nat → Nat) (hc : ∀ i, i < n → W.cell? ⟨b, i, none⟩ = some (.int .u8 (f i))) :
    (convert 40 9 (.slice (some ⟨b, 0, none⟩) n c)).run Try.prog W = .ok (.string (strOf n f)) W := by
  rw [run_convert_bytes_string W _ _ 5 _ _ _ Try.underlying40 Try.underlying5 Try.underlying9]
  have h := run_loadCells (P := Try.prog) (w := W) ⟨b, 0, none⟩ n (fun i => .int .u8 (f i)) (fun j hj => by
    rw [show (⟨b, 0, none⟩ : Addr).add j = ⟨b, j, none⟩ from by unfold Addr.add; split <;> simp_all]; exact hc j hj)
  rw [run_bytesToString W _ n c ((List.range n).map fun i => (f i : Int)) (by rw [h]; simp [List.map_map, Function.comp_def])]
  rw [foldl_push]
  simp [strOf, ByteArray.empty, ByteArray.emptyWithCapacity, Function.comp_def]
  rfl

end Go.Proofs.Ytpnagaokmfaaiaa
