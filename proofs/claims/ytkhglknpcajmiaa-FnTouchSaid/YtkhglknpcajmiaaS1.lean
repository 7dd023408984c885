/- The contracts of strings.Builder and slices.Clone at this program. -/
import Derived.Shelf.Strings.Builder1
import Derived.Shelf.Slices.Clone
import Derived.Test.YtkhglknpcajmiaaK2
namespace Go.Proofs.Ytkhglknpcajmiaa
open Go.Shelf Go.RowKit
def cRen : Go.Shelf.Ren := ⟨fun | 16 => 81 | n => n, fun | 24 => 23 | 9 => 9 | 4 => 4 | n => n, fun | n => n⟩
theorem lays16 : Go.Proofs.Lays2.n16 Try.prog cRen := {
  mixed := by kernel_rfl
  f16 := Try.func81.trans (congrArg some (by kernel_rfl))
  t4 := Try.underlying4
  a4 := Try.isAgg4
  z4 := Try.sizeOf4
  v4 := Try.zeroValue4
  t9 := Try.underlying9
  a9 := Try.isAgg9
  z9 := Try.sizeOf9
  v9 := Try.zeroValue9
  t24 := Try.underlying23
  a24 := Try.isAgg23
  z24 := Try.sizeOf23
  v24 := Try.zeroValue23
  i9 := by kernel_rfl }
end Go.Proofs.Ytkhglknpcajmiaa
