/- The contracts of strings.Builder and slices.Clone at this program. -/
import Derived.Shelf.Strings.Builder1
import Derived.Shelf.Slices.Clone
import Derived.Test.YtapcfojnljnoaaaGreatK2
namespace Go.Proofs.YtapcfojnljnoaaaGreat
open Go.Shelf Go.RowKit
def cRen : Go.Shelf.Ren := ⟨fun | 16 => 34 | n => n, fun | 24 => 24 | 9 => 9 | 4 => 4 | n => n, fun | n => n⟩
theorem lays16 : Go.Proofs.Lays2.n16 Tryz.prog cRen := {
  mixed := by kernel_rfl
  f16 := Tryz.func34.trans (congrArg some (by kernel_rfl))
  t4 := Tryz.underlying4
  a4 := Tryz.isAgg4
  z4 := Tryz.sizeOf4
  v4 := Tryz.zeroValue4
  t9 := Tryz.underlying9
  a9 := Tryz.isAgg9
  z9 := Tryz.sizeOf9
  v9 := Tryz.zeroValue9
  t24 := Tryz.underlying24
  a24 := Tryz.isAgg24
  z24 := Tryz.sizeOf24
  v24 := Tryz.zeroValue24
  i9 := by kernel_rfl }
end Go.Proofs.YtapcfojnljnoaaaGreat
